/-
  Plain words for what calls and heaps of this project look like in memory, and how such facts are carried from one world to a later one. Values are pairs of numbers (kind, number): a row of values lies in memory as a row of operations does. Nothing of the translation is used here.
-/
import Derived.Test.YtnffknlgaiehdaaBase

namespace Go.Proofs.Ytnffknlgaiehdaa
open Go.RowKit
structure Cl where
  m : Int
  pc : Int
  temps : List (Int × Int)
  stack : List (Int × Int)
  sender : Int
  dead : Bool
structure Hp where
  calls : List Cl
  now : Int
  born : Int
  said : List (Int × Int)
  code : Int
structure ClAt (w : World) (b o : Nat) (vt vs : Value) (c : Cl) : Prop where
  c0 : w.cell? ⟨b, o, none⟩ = some (.int .i64 c.m)
  c1 : w.cell? ⟨b, o + 1, none⟩ = some (.int .i64 c.pc)
  c2 : w.cell? ⟨b, o + 2, none⟩ = some vt
  c3 : w.cell? ⟨b, o + 3, none⟩ = some vs
  c4 : w.cell? ⟨b, o + 4, none⟩ = some (.int .i64 c.sender)
  c5 : w.cell? ⟨b, o + 5, none⟩ = some (.bool c.dead)
  t : OpsAt w vt c.temps
  s : OpsAt w vs c.stack
theorem ClAt.below {w w' : World} {b o : Nat} {vt vs : Value} {c : Cl} (h : ClAt w b o vt vs c) (hb : Below w.heap.size w w') : ClAt w' b o vt vs c :=
  ⟨cell_below hb h.c0, cell_below hb h.c1, cell_below hb h.c2, cell_below hb h.c3, cell_below hb h.c4, cell_below hb h.c5, h.t.below hb, h.s.below hb⟩
def CallsAt (w : World) (v : Value) (cs : List Cl) : Prop :=
  ∃ (a : Option Addr) (cap : Nat), v = .slice a cs.length cap ∧ cs.length ≤ maxLen ∧
    ∀ i, (h : i < cs.length) → ∃ b o vt vs, a = some ⟨b, o, none⟩ ∧ ClAt w b (o + i * 6) vt vs cs[i]
theorem CallsAt.below {w w' : World} {v : Value} {cs : List Cl} (h : CallsAt w v cs) (hb : Below w.heap.size w w') : CallsAt w' v cs := by
  obtain ⟨a, cap, hv, hl, hc⟩ := h
  refine ⟨a, cap, hv, hl, fun i hi => ?_⟩
  obtain ⟨b, o, vt, vs, ha, h0⟩ := hc i hi
  exact ⟨b, o, vt, vs, ha, h0.below hb⟩
theorem CallsAt.nil (w : World) : CallsAt w (.slice none 0 0) [] := ⟨none, 0, rfl, Nat.zero_le _, fun _ hi => absurd hi (Nat.not_lt_zero _)⟩
def hpCells (vc vs : Value) (h : Hp) : Array Value := #[vc, .int .i64 h.now, .int .i64 h.born, vs, .int .i64 h.code]
structure HeapAt (w : World) (vc vs : Value) (h : Hp) : Prop where
  c : CallsAt w vc h.calls
  s : OpsAt w vs h.said
theorem HeapAt.below {w w' : World} {vc vs : Value} {h : Hp} (k : HeapAt w vc vs h) (hb : Below w.heap.size w w') : HeapAt w' vc vs h := ⟨k.c.below hb, k.s.below hb⟩
theorem OpsAt.shape {w : World} {v : Value} {ops : List (Int × Int)} (h : OpsAt w v ops) : ∃ a c, v = .slice a ops.length c := by
  obtain ⟨a, c, hv, _⟩ := h
  exact ⟨a, c, hv⟩
theorem CallsAt.shape {w : World} {v : Value} {cs : List Cl} (h : CallsAt w v cs) : ∃ a c, v = .slice a cs.length c := by
  obtain ⟨a, c, hv, _⟩ := h
  exact ⟨a, c, hv⟩
def Cl.small (c : Cl) : Prop := c.temps.length ≤ 1048576 ∧ c.stack.length ≤ 1048576
def Hp.small (h : Hp) : Prop := h.calls.length ≤ 1048576 ∧ (∀ i, (hi : i < h.calls.length) → h.calls[i].small) ∧ h.said.length ≤ 1048576
end Go.Proofs.Ytnffknlgaiehdaa

/-
  When a program is ok, in plain words: the one function that both the document's model and the program are held against. Nothing of the translation is used here.
-/
namespace Go.Proofs.Ytnffknlgaiehdaa
def inR (n lo hi : Int) : Bool := decide (lo ≤ n) && decide (n ≤ hi)
theorem inR_true {n lo hi : Int} : inR n lo hi = true ↔ lo ≤ n ∧ n ≤ hi := by simp [inR]
theorem inR_false {n lo hi : Int} : inR n lo hi = false ↔ ¬ (lo ≤ n ∧ n ≤ hi) := by
  rw [← inR_true]; simp
def opOk (nm no : Nat) (t k a : Int) : Bool :=
  if k = 1 then inR a 0 99
  else if k = 2 ∨ k = 3 then inR a 0 (t - 1)
  else if k = 7 ∨ k = 8 then inR a 0 ((no : Int) - 1)
  else if k = 9 then inR a 0 ((nm : Int) - 1)
  else if k = 13 ∨ k = 14 then inR a 0 3
  else inR k 1 18 && (a == 0)
def opsOk (nm : Nat) (t : Int) (ops : List (Int × Int)) : Bool := ops.all fun op => opOk nm ops.length t op.1 op.2
def methOk (nm : Nat) (m : Int × Int × List (Int × Int)) : Bool :=
  inR m.1 0 2 && inR m.2.1 m.1 4 && decide (m.2.2.length ≤ 14) && opsOk nm m.2.1 m.2.2
def progOk (ms : List (Int × Int × List (Int × Int))) : Bool :=
  inR ms.length 1 4 && ((ms.getD 0 (0, 0, [])).1 == 0) && ms.all (methOk ms.length)
theorem all_of {α : Type} {l : List α} {p : α → Bool} (h : ∀ i, (hi : i < l.length) → p l[i] = true) : l.all p = true := by
  rw [List.all_eq_true]
  intro x hx
  obtain ⟨i, hi, rfl⟩ := List.getElem_of_mem hx
  exact h i hi
theorem all_not {α : Type} {l : List α} {p : α → Bool} {i : Nat} (hi : i < l.length) (h : p l[i] = false) : l.all p = false := by
  rw [List.all_eq_false]
  exact ⟨_, List.getElem_mem hi, by simp [h]⟩
theorem opsOk_yes {nm : Nat} {t : Int} {ops : List (Int × Int)} (h : ∀ i, (hi : i < ops.length) → opOk nm ops.length t ops[i].1 ops[i].2 = true) : opsOk nm t ops = true := all_of h
theorem opsOk_no {nm : Nat} {t : Int} {ops : List (Int × Int)} {i : Nat} (hi : i < ops.length) (h : opOk nm ops.length t ops[i].1 ops[i].2 = false) : opsOk nm t ops = false := all_not hi h
theorem methOk_of {nm : Nat} {x t : Int} {ops : List (Int × Int)} (h1 : inR x 0 2 = true) (h2 : inR t x 4 = true) (h3 : ops.length ≤ 14) {b : Bool} (h4 : opsOk nm t ops = b) : methOk nm (x, t, ops) = b := by
  simp [methOk, h1, h2, h3, h4]
theorem methOk_no1 {nm : Nat} {x t : Int} {ops : List (Int × Int)} (h : inR x 0 2 = false) : methOk nm (x, t, ops) = false := by simp [methOk, h]
theorem methOk_no2 {nm : Nat} {x t : Int} {ops : List (Int × Int)} (h : inR t x 4 = false) : methOk nm (x, t, ops) = false := by simp [methOk, h]
theorem methOk_no3 {nm : Nat} {x t : Int} {ops : List (Int × Int)} (h : ¬ ops.length ≤ 14) : methOk nm (x, t, ops) = false := by simp [methOk, h]
theorem opOk_else (nm no : Nat) (t k a : Int) (h1 : ¬ k = 1) (h2 : ¬ k = 2) (h3 : ¬ k = 3) (h7 : ¬ k = 7) (h8 : ¬ k = 8) (h9 : ¬ k = 9) (h13 : ¬ k = 13) (h14 : ¬ k = 14) : opOk nm no t k a = (inR k 1 18 && (a == 0)) := by
  simp [opOk, h1, h2, h3, h7, h8, h9, h13, h14]
theorem opOk_noKind {nm no : Nat} {t k a : Int} (h : inR k 1 18 = false) : opOk nm no t k a = false := by
  rw [inR_false] at h
  rw [opOk_else nm no t k a (by omega) (by omega) (by omega) (by omega) (by omega) (by omega) (by omega) (by omega), inR_false.2 h]
  rfl
theorem ret_bool {a b : Bool} (h : a = b) : Ending.returned (.bool a) = .returned (.bool b) := by rw [h]
end Go.Proofs.Ytnffknlgaiehdaa

/-
  When a value, a call, a heap is in form, in plain words: what both the document's model and the program are held against. Nothing of the translation is used here.
-/
namespace Go.Proofs.Ytnffknlgaiehdaa
def valOk (n : Int) (k a : Int) : Bool := if k = 0 then a == 0 else if k = 1 then inR a 0 999 else if k = 2 then inR a 0 (n - 1) else false
def valsOk (n : Int) (l : List (Int × Int)) : Bool := l.all fun v => valOk n v.1 v.2
theorem valsOk_yes {n : Int} {l : List (Int × Int)} (h : ∀ i, (hi : i < l.length) → valOk n l[i].1 l[i].2 = true) : valsOk n l = true := all_of h
theorem valsOk_no {n : Int} {l : List (Int × Int)} {i : Nat} (hi : i < l.length) (h : valOk n l[i].1 l[i].2 = false) : valsOk n l = false := all_not hi h
def clOk (ms : List (Int × Int × List (Int × Int))) (n : Nat) (c : Cl) : Bool :=
  inR c.m 0 ((ms.length : Int) - 1) && inR c.pc 0 ((ms.getD c.m.toNat (0, 0, [])).2.2.length : Int) && decide ((c.temps.length : Int) = (ms.getD c.m.toNat (0, 0, [])).2.1) && decide (c.stack.length ≤ 6) &&
  (inR c.sender (-1) ((n : Int) - 1) && valsOk n c.temps && valsOk n c.stack && (!c.dead || (c.sender == -1 && c.stack.length == 0)))
end Go.Proofs.Ytnffknlgaiehdaa
