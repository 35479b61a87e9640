/-
  Plain words for what a program of this project looks like in memory (operations, methods), and how such facts are carried from one world to a later one. Nothing of the translation is used here.
-/
import Derived.WalkKit
import Derived.WalkSpells
import Derived.Deep.OwnRows
import Derived.Deep.LoopGhost
import Derived.Test.YtldiccheboipeaaProg

namespace Go.Proofs.Ytldiccheboipeaa
open Go.RowKit
def OpsAt (w : World) (v : Value) (ops : List (Int × Int)) : Prop :=
  ∃ (a : Option Addr) (cap : Nat), v = .slice a ops.length cap ∧ ops.length ≤ maxLen ∧
    ∀ i, (h : i < ops.length) → ∃ b o, a = some ⟨b, o, none⟩ ∧ w.cell? ⟨b, o + i * 2, none⟩ = some (.int .i64 ops[i].1) ∧ w.cell? ⟨b, o + i * 2 + 1, none⟩ = some (.int .i64 ops[i].2)
def MethsAt (w : World) (v : Value) (ms : List (Int × Int × List (Int × Int))) : Prop :=
  ∃ (a : Option Addr) (cap : Nat), v = .slice a ms.length cap ∧ ms.length ≤ maxLen ∧
    ∀ i, (h : i < ms.length) → ∃ b o vo, a = some ⟨b, o, none⟩ ∧ w.cell? ⟨b, o + i * 3, none⟩ = some (.int .i64 ms[i].1) ∧ w.cell? ⟨b, o + i * 3 + 1, none⟩ = some (.int .i64 ms[i].2.1) ∧
      w.cell? ⟨b, o + i * 3 + 2, none⟩ = some vo ∧ OpsAt w vo ms[i].2.2
theorem cell_below {w w' : World} (hb : Below w.heap.size w w') {p : Addr} {v : Value} (h : w.cell? p = some v) : w'.cell? p = some v := by
  rw [hb.cell (World.block_lt_of_cell? _ _ h)]; exact h
theorem OpsAt.below {w w' : World} {v : Value} {ops : List (Int × Int)} (h : OpsAt w v ops) (hb : Below w.heap.size w w') : OpsAt w' v ops := by
  obtain ⟨a, cap, hv, hl, hc⟩ := h
  refine ⟨a, cap, hv, hl, fun i hi => ?_⟩
  obtain ⟨b, o, ha, h0, h1⟩ := hc i hi
  exact ⟨b, o, ha, cell_below hb h0, cell_below hb h1⟩
theorem MethsAt.below {w w' : World} {v : Value} {ms : List (Int × Int × List (Int × Int))} (h : MethsAt w v ms) (hb : Below w.heap.size w w') : MethsAt w' v ms := by
  obtain ⟨a, cap, hv, hl, hc⟩ := h
  refine ⟨a, cap, hv, hl, fun i hi => ?_⟩
  obtain ⟨b, o, vo, ha, h0, h1, h2, h3⟩ := hc i hi
  exact ⟨b, o, vo, ha, cell_below hb h0, cell_below hb h1, cell_below hb h2, h3.below hb⟩
theorem row_below {w w' : World} (hb : Below w.heap.size w w') {b : Nat} {t : TypeId} {n : Nat} {f : Nat → Value} (h : w.rowIs b t n f) : w'.rowIs b t n f := h.of_block (hb.block b h.lt)
def opCell (ops : List (Int × Int)) (j : Nat) : Value := .int .i64 (if j % 2 = 0 then (ops.getD (j / 2) (0, 0)).1 else (ops.getD (j / 2) (0, 0)).2)
theorem ops_row_start (w : World) (n : Nat) (t : TypeId) (ops : List (Int × Int)) : (w.alloc (.cells (madeCells #[.int .i64 0, .int .i64 0] n) t)).rowIs w.heap.size t n (fun j => if j < 0 * 2 then opCell ops j else .int .i64 0) := by
  refine ⟨_, Go.Deep.blk_alloc_new _ _, size_madeCells _ _, fun i hi => ?_⟩
  have h : (i % 2 = 0) ∨ (i % 2 = 1) := by omega
  rcases h with h | h <;> simp [madeCells, hi, h]
def Own (B : Nat) (v : Value) : Prop := ∃ g l c, v = .slice (some ⟨g, 0, none⟩) l c ∧ B ≤ g
theorem Own.mono {B B' : Nat} {v : Value} (h : Own B v) (hB : B' ≤ B) : Own B' v := by
  obtain ⟨g, l, c, hv, hg⟩ := h
  exact ⟨g, l, c, hv, by omega⟩
theorem OpsAt.set {w : World} {v : Value} {ops : List (Int × Int)} {B : Nat} (h : OpsAt w v ops) (ho : Own B v) {p : Addr} (hp : p.block < B) (u : Value) : OpsAt (w.setCell p u) v ops := by
  obtain ⟨a, cap, hv, hl, hc⟩ := h
  obtain ⟨g, l, c, rfl, hg⟩ := ho
  refine ⟨a, cap, hv, hl, fun i hi => ?_⟩
  obtain ⟨b, o, ha, h0, h1⟩ := hc i hi
  have hbg : b = g := by
    rw [ha] at hv
    injection hv with h1 _ _
    injection h1 with h1
    injection h1 with h1 _
    exact h1.symm
  refine ⟨b, o, ha, ?_, ?_⟩
  · rw [World.cell?_setCell_other _ _ _ _ (fun e => by have := congrArg Addr.block e; simp at this; omega)]; exact h0
  · rw [World.cell?_setCell_other _ _ _ _ (fun e => by have := congrArg Addr.block e; simp at this; omega)]; exact h1
def MethsNew (B : Nat) (w : World) (v : Value) (ms : List (Int × Int × List (Int × Int))) : Prop :=
  ∃ (g cap : Nat), v = .slice (some ⟨g, 0, none⟩) ms.length cap ∧ B ≤ g ∧ ms.length ≤ maxLen ∧
    ∀ i, (h : i < ms.length) → ∃ vo, w.cell? ⟨g, 0 + i * 3, none⟩ = some (.int .i64 ms[i].1) ∧ w.cell? ⟨g, 0 + i * 3 + 1, none⟩ = some (.int .i64 ms[i].2.1) ∧
      w.cell? ⟨g, 0 + i * 3 + 2, none⟩ = some vo ∧ OpsAt w vo ms[i].2.2 ∧ Own B vo
theorem MethsNew.mono {B B' : Nat} {w : World} {v : Value} {ms : List (Int × Int × List (Int × Int))} (h : MethsNew B w v ms) (hB : B' ≤ B) : MethsNew B' w v ms := by
  obtain ⟨g, cap, hv, hg, hl, hc⟩ := h
  refine ⟨g, cap, hv, by omega, hl, fun i hi => ?_⟩
  obtain ⟨vo, h0, h1, h2, h3, h4⟩ := hc i hi
  exact ⟨vo, h0, h1, h2, h3, h4.mono hB⟩
theorem MethsNew.below {B : Nat} {w w' : World} {v : Value} {ms : List (Int × Int × List (Int × Int))} (h : MethsNew B w v ms) (hb : Below w.heap.size w w') : MethsNew B w' v ms := by
  obtain ⟨g, cap, hv, hg, hl, hc⟩ := h
  refine ⟨g, cap, hv, hg, hl, fun i hi => ?_⟩
  obtain ⟨vo, h0, h1, h2, h3, h4⟩ := hc i hi
  exact ⟨vo, cell_below hb h0, cell_below hb h1, cell_below hb h2, h3.below hb, h4⟩
theorem MethsNew.set {B : Nat} {w : World} {v : Value} {ms : List (Int × Int × List (Int × Int))} (h : MethsNew B w v ms) {p : Addr} (hp : p.block < B) (u : Value) : MethsNew B (w.setCell p u) v ms := by
  obtain ⟨g, cap, hv, hg, hl, hc⟩ := h
  refine ⟨g, cap, hv, hg, hl, fun i hi => ?_⟩
  obtain ⟨vo, h0, h1, h2, h3, h4⟩ := hc i hi
  have key : ∀ o x, w.cell? ⟨g, o, none⟩ = some x → (w.setCell p u).cell? ⟨g, o, none⟩ = some x := fun o x hx => by
    rw [World.cell?_setCell_other _ _ _ _ (fun e => by have := congrArg Addr.block e; simp at this; omega)]; exact hx
  exact ⟨vo, key _ _ h0, key _ _ h1, key _ _ h2, h3.set h4 hp u, h4⟩
structure Boxes (w wr : World) (vp : Value) (x t : Int) (vo : Value) : Prop where
  p : wr.cell? ⟨w.heap.size, 0, none⟩ = some vp
  a : wr.cell? ⟨w.heap.size + 1, 0, none⟩ = some (.int .i64 x)
  b : wr.cell? ⟨w.heap.size + 1, 1, none⟩ = some (.int .i64 t)
  c : wr.cell? ⟨w.heap.size + 1, 2, none⟩ = some vo
  below : Below w.heap.size w wr
theorem Boxes.new (w : World) (vp : Value) (x t : Int) (vo : Value) (t1 t2 : TypeId) : Boxes w ((w.alloc (.cells #[vp] t1)).alloc (.cells #[.int .i64 x, .int .i64 t, vo] t2)) vp x t vo := by
  refine ⟨?_, ?_, ?_, ?_, ((Below.refl _ _).alloc (Nat.le_refl _) _).alloc (by simp) _⟩
  all_goals simp [go_sem]
theorem Boxes.go {w wr w1 : World} {vp : Value} {x t : Int} {vo : Value} (h : Boxes w wr vp x t vo) (hb : Below wr.heap.size wr w1) : Boxes w w1 vp x t vo :=
  ⟨cell_below hb h.p, cell_below hb h.a, cell_below hb h.b, cell_below hb h.c, h.below.trans (hb.mono h.below.size)⟩
end Go.Proofs.Ytldiccheboipeaa

/-
  Plain words for what calls and heaps of this project look like in memory, and how such facts are carried from one world to a later one. Values are pairs of numbers (kind, number): a row of values lies in memory as a row of operations does. Nothing of the translation is used here.
-/
namespace Go.Proofs.Ytldiccheboipeaa
open Go.RowKit
structure Cl where
  m : Int
  pc : Int
  temps : List (Int × Int)
  stack : List (Int × Int)
  sender : Int
  dead : Bool
structure Hp where
  calls : List Cl
  now : Int
  born : Int
  said : List (Int × Int)
  code : Int
structure ClAt (w : World) (b o : Nat) (vt vs : Value) (c : Cl) : Prop where
  c0 : w.cell? ⟨b, o, none⟩ = some (.int .i64 c.m)
  c1 : w.cell? ⟨b, o + 1, none⟩ = some (.int .i64 c.pc)
  c2 : w.cell? ⟨b, o + 2, none⟩ = some vt
  c3 : w.cell? ⟨b, o + 3, none⟩ = some vs
  c4 : w.cell? ⟨b, o + 4, none⟩ = some (.int .i64 c.sender)
  c5 : w.cell? ⟨b, o + 5, none⟩ = some (.bool c.dead)
  t : OpsAt w vt c.temps
  s : OpsAt w vs c.stack
theorem ClAt.below {w w' : World} {b o : Nat} {vt vs : Value} {c : Cl} (h : ClAt w b o vt vs c) (hb : Below w.heap.size w w') : ClAt w' b o vt vs c :=
  ⟨cell_below hb h.c0, cell_below hb h.c1, cell_below hb h.c2, cell_below hb h.c3, cell_below hb h.c4, cell_below hb h.c5, h.t.below hb, h.s.below hb⟩
def CallsAt (w : World) (v : Value) (cs : List Cl) : Prop :=
  ∃ (a : Option Addr) (cap : Nat), v = .slice a cs.length cap ∧ cs.length ≤ maxLen ∧
    ∀ i, (h : i < cs.length) → ∃ b o vt vs, a = some ⟨b, o, none⟩ ∧ ClAt w b (o + i * 6) vt vs cs[i]
theorem CallsAt.below {w w' : World} {v : Value} {cs : List Cl} (h : CallsAt w v cs) (hb : Below w.heap.size w w') : CallsAt w' v cs := by
  obtain ⟨a, cap, hv, hl, hc⟩ := h
  refine ⟨a, cap, hv, hl, fun i hi => ?_⟩
  obtain ⟨b, o, vt, vs, ha, h0⟩ := hc i hi
  exact ⟨b, o, vt, vs, ha, h0.below hb⟩
theorem CallsAt.nil (w : World) : CallsAt w (.slice none 0 0) [] := ⟨none, 0, rfl, Nat.zero_le _, fun _ hi => absurd hi (Nat.not_lt_zero _)⟩
def hpCells (vc vs : Value) (h : Hp) : Array Value := #[vc, .int .i64 h.now, .int .i64 h.born, vs, .int .i64 h.code]
structure HeapAt (w : World) (vc vs : Value) (h : Hp) : Prop where
  c : CallsAt w vc h.calls
  s : OpsAt w vs h.said
theorem HeapAt.below {w w' : World} {vc vs : Value} {h : Hp} (k : HeapAt w vc vs h) (hb : Below w.heap.size w w') : HeapAt w' vc vs h := ⟨k.c.below hb, k.s.below hb⟩
theorem OpsAt.shape {w : World} {v : Value} {ops : List (Int × Int)} (h : OpsAt w v ops) : ∃ a c, v = .slice a ops.length c := by
  obtain ⟨a, c, hv, _⟩ := h
  exact ⟨a, c, hv⟩
theorem CallsAt.shape {w : World} {v : Value} {cs : List Cl} (h : CallsAt w v cs) : ∃ a c, v = .slice a cs.length c := by
  obtain ⟨a, c, hv, _⟩ := h
  exact ⟨a, c, hv⟩
def Cl.small (c : Cl) : Prop := c.temps.length ≤ 1048576 ∧ c.stack.length ≤ 1048576
def Hp.small (h : Hp) : Prop := h.calls.length ≤ 1048576 ∧ (∀ i, (hi : i < h.calls.length) → h.calls[i].small) ∧ h.said.length ≤ 1048576
end Go.Proofs.Ytldiccheboipeaa

/-
  The copies that the exact laws make: toOp, toOpS, toMethod, toMethodS, toProg answer the same operations, methods, program in new memory, and write to nothing that was there.
-/
namespace Go.Proofs.Ytldiccheboipeaa
open Go.RowKit
def NF (B : Nat) (w : World) : Prop := ∀ g o, B ≤ g → w.frozen? ⟨g, o, none⟩ = false
theorem NF.alloc {B : Nat} {w : World} (h : NF B w) (cs : Array Value) (t : TypeId) : NF B (w.alloc (.cells cs t)) := fun g o hg => by
  by_cases e : g = w.heap.size
  · subst e
    unfold World.frozen?
    rw [Go.Deep.blk_alloc_new]
    simp
  · by_cases hl : g < w.heap.size
    · rw [World.frozen?_of_block (a := ⟨g, o, none⟩) (Below.heap_alloc w _ g hl)]; exact h g o hg
    · unfold World.frozen?
      rw [Array.getElem?_eq_none (by show (w.alloc _).heap.size ≤ g; rw [World.size_alloc]; omega)]
theorem NF.set {B : Nat} {w : World} (h : NF B w) (p : Addr) (v : Value) : NF B (w.setCell p v) := fun g o hg => by rw [World.frozen?_setCell]; exact h g o hg
def MethsHi (w : World) (v : Value) (ms : List (Int × Int × List (Int × Int))) : Prop :=
  ∃ (g cap : Nat), v = .slice (some ⟨g, 0, none⟩) ms.length cap ∧ ∀ i, i < ms.length → ∃ vo, w.cell? ⟨g, i * 3 + 2, none⟩ = some vo ∧ Own (g + 1) vo
theorem MethsHi.set {w : World} {v : Value} {ms : List (Int × Int × List (Int × Int))} {B : Nat} (h : MethsHi w v ms) (hB : Own B v) {p : Addr} (hp : p.block < B) (u : Value) : MethsHi (w.setCell p u) v ms := by
  obtain ⟨g, cap, rfl, hc⟩ := h
  obtain ⟨g', _, _, e, hg⟩ := hB
  obtain rfl : g = g' := by injection e with e; injection e with e; injection e
  refine ⟨g, cap, rfl, fun i hi => ?_⟩
  obtain ⟨vo, h1, h2⟩ := hc i hi
  exact ⟨vo, by rw [World.cell?_setCell_other _ _ _ _ (fun e => by have := congrArg Addr.block e; simp at this; omega)]; exact h1, h2⟩
theorem Try.infoOp : (Try.prog.info? 175).map (fun i => (i.zero, i.size, i.bytes)) = some (some (.agg #[.int .i64 0, .int .i64 0]), 2, 16) := by kernel_rfl
theorem Try.infoMeth : (Try.prog.info? 83).map (fun i => (i.zero, i.size, i.bytes)) = some (some (.agg #[.int .i64 0, .int .i64 0, .slice none 0 0]), 3, 40) := by kernel_rfl
end Go.Proofs.Ytldiccheboipeaa

/-
  When a program is ok, in plain words: the one function that both the document's model and the program are held against. Nothing of the translation is used here.
-/
namespace Go.Proofs.Ytldiccheboipeaa
def inR (n lo hi : Int) : Bool := decide (lo ≤ n) && decide (n ≤ hi)
theorem inR_true {n lo hi : Int} : inR n lo hi = true ↔ lo ≤ n ∧ n ≤ hi := by simp [inR]
theorem inR_false {n lo hi : Int} : inR n lo hi = false ↔ ¬ (lo ≤ n ∧ n ≤ hi) := by
  rw [← inR_true]; simp
def opOk (nm no : Nat) (t k a : Int) : Bool :=
  if k = 1 then inR a 0 99
  else if k = 2 ∨ k = 3 then inR a 0 (t - 1)
  else if k = 7 ∨ k = 8 then inR a 0 ((no : Int) - 1)
  else if k = 9 then inR a 0 ((nm : Int) - 1)
  else if k = 13 ∨ k = 14 then inR a 0 3
  else inR k 1 18 && (a == 0)
def opsOk (nm : Nat) (t : Int) (ops : List (Int × Int)) : Bool := ops.all fun op => opOk nm ops.length t op.1 op.2
def methOk (nm : Nat) (m : Int × Int × List (Int × Int)) : Bool :=
  inR m.1 0 2 && inR m.2.1 m.1 4 && decide (m.2.2.length ≤ 14) && opsOk nm m.2.1 m.2.2
def progOk (ms : List (Int × Int × List (Int × Int))) : Bool :=
  inR ms.length 1 4 && ((ms.getD 0 (0, 0, [])).1 == 0) && ms.all (methOk ms.length)
theorem all_of {α : Type} {l : List α} {p : α → Bool} (h : ∀ i, (hi : i < l.length) → p l[i] = true) : l.all p = true := by
  rw [List.all_eq_true]
  intro x hx
  obtain ⟨i, hi, rfl⟩ := List.getElem_of_mem hx
  exact h i hi
theorem all_not {α : Type} {l : List α} {p : α → Bool} {i : Nat} (hi : i < l.length) (h : p l[i] = false) : l.all p = false := by
  rw [List.all_eq_false]
  exact ⟨_, List.getElem_mem hi, by simp [h]⟩
theorem opsOk_yes {nm : Nat} {t : Int} {ops : List (Int × Int)} (h : ∀ i, (hi : i < ops.length) → opOk nm ops.length t ops[i].1 ops[i].2 = true) : opsOk nm t ops = true := all_of h
theorem opsOk_no {nm : Nat} {t : Int} {ops : List (Int × Int)} {i : Nat} (hi : i < ops.length) (h : opOk nm ops.length t ops[i].1 ops[i].2 = false) : opsOk nm t ops = false := all_not hi h
theorem methOk_of {nm : Nat} {x t : Int} {ops : List (Int × Int)} (h1 : inR x 0 2 = true) (h2 : inR t x 4 = true) (h3 : ops.length ≤ 14) {b : Bool} (h4 : opsOk nm t ops = b) : methOk nm (x, t, ops) = b := by
  simp [methOk, h1, h2, h3, h4]
theorem methOk_no1 {nm : Nat} {x t : Int} {ops : List (Int × Int)} (h : inR x 0 2 = false) : methOk nm (x, t, ops) = false := by simp [methOk, h]
theorem methOk_no2 {nm : Nat} {x t : Int} {ops : List (Int × Int)} (h : inR t x 4 = false) : methOk nm (x, t, ops) = false := by simp [methOk, h]
theorem methOk_no3 {nm : Nat} {x t : Int} {ops : List (Int × Int)} (h : ¬ ops.length ≤ 14) : methOk nm (x, t, ops) = false := by simp [methOk, h]
theorem opOk_1 (nm no : Nat) (t a : Int) : opOk nm no t 1 a = inR a 0 99 := rfl
theorem opOk_2 (nm no : Nat) (t a : Int) : opOk nm no t 2 a = inR a 0 (t - 1) := rfl
theorem opOk_3 (nm no : Nat) (t a : Int) : opOk nm no t 3 a = inR a 0 (t - 1) := rfl
theorem opOk_8 (nm no : Nat) (t a : Int) : opOk nm no t 8 a = inR a 0 ((no : Int) - 1) := rfl
theorem opOk_9 (nm no : Nat) (t a : Int) : opOk nm no t 9 a = inR a 0 ((nm : Int) - 1) := rfl
theorem opOk_13 (nm no : Nat) (t a : Int) : opOk nm no t 13 a = inR a 0 3 := rfl
theorem opOk_14 (nm no : Nat) (t a : Int) : opOk nm no t 14 a = inR a 0 3 := rfl
theorem opOk_else (nm no : Nat) (t k a : Int) (h1 : ¬ k = 1) (h2 : ¬ k = 2) (h3 : ¬ k = 3) (h7 : ¬ k = 7) (h8 : ¬ k = 8) (h9 : ¬ k = 9) (h13 : ¬ k = 13) (h14 : ¬ k = 14) : opOk nm no t k a = (inR k 1 18 && (a == 0)) := by
  simp [opOk, h1, h2, h3, h7, h8, h9, h13, h14]
theorem opOk_noKind {nm no : Nat} {t k a : Int} (h : inR k 1 18 = false) : opOk nm no t k a = false := by
  rw [inR_false] at h
  rw [opOk_else nm no t k a (by omega) (by omega) (by omega) (by omega) (by omega) (by omega) (by omega) (by omega), inR_false.2 h]
  rfl
theorem ret_bool {a b : Bool} (h : a = b) : Ending.returned (.bool a) = .returned (.bool b) := by rw [h]
end Go.Proofs.Ytldiccheboipeaa

/-
  When a value, a call, a heap is in form, in plain words: what both the document's model and the program are held against. Nothing of the translation is used here.
-/
namespace Go.Proofs.Ytldiccheboipeaa
def valOk (n : Int) (k a : Int) : Bool := if k = 0 then a == 0 else if k = 1 then inR a 0 999 else if k = 2 then inR a 0 (n - 1) else false
def valsOk (n : Int) (l : List (Int × Int)) : Bool := l.all fun v => valOk n v.1 v.2
theorem valsOk_yes {n : Int} {l : List (Int × Int)} (h : ∀ i, (hi : i < l.length) → valOk n l[i].1 l[i].2 = true) : valsOk n l = true := all_of h
theorem valsOk_no {n : Int} {l : List (Int × Int)} {i : Nat} (hi : i < l.length) (h : valOk n l[i].1 l[i].2 = false) : valsOk n l = false := all_not hi h
def clOk (ms : List (Int × Int × List (Int × Int))) (n : Nat) (c : Cl) : Bool :=
  inR c.m 0 ((ms.length : Int) - 1) && inR c.pc 0 ((ms.getD c.m.toNat (0, 0, [])).2.2.length : Int) && decide ((c.temps.length : Int) = (ms.getD c.m.toNat (0, 0, [])).2.1) && decide (c.stack.length ≤ 6) &&
  (inR c.sender (-1) ((n : Int) - 1) && valsOk n c.temps && valsOk n c.stack && (!c.dead || (c.sender == -1 && c.stack.length == 0)))
end Go.Proofs.Ytldiccheboipeaa
