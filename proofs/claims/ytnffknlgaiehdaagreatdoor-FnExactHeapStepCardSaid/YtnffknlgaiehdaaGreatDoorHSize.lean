/-
  Plain words for what calls and heaps of this project look like in memory, and how such facts are carried from one world to a later one. Values are pairs of numbers (kind, number): a row of values lies in memory as a row of operations does. Nothing of the translation is used here.
-/
import Derived.Test.YtnffknlgaiehdaaGreatDoorCopy2
import Derived.Test.YtnffknlgaiehdaaGreatDoorProg

namespace Go.Proofs.YtnffknlgaiehdaaGreatDoor
open Go.RowKit
structure Cl where
  m : Int
  pc : Int
  temps : List (Int × Int)
  stack : List (Int × Int)
  sender : Int
  dead : Bool
structure Hp where
  calls : List Cl
  now : Int
  born : Int
  said : List (Int × Int)
  code : Int
structure ClAt (w : World) (b o : Nat) (vt vs : Value) (c : Cl) : Prop where
  c0 : w.cell? ⟨b, o, none⟩ = some (.int .i64 c.m)
  c1 : w.cell? ⟨b, o + 1, none⟩ = some (.int .i64 c.pc)
  c2 : w.cell? ⟨b, o + 2, none⟩ = some vt
  c3 : w.cell? ⟨b, o + 3, none⟩ = some vs
  c4 : w.cell? ⟨b, o + 4, none⟩ = some (.int .i64 c.sender)
  c5 : w.cell? ⟨b, o + 5, none⟩ = some (.bool c.dead)
  t : OpsAt w vt c.temps
  s : OpsAt w vs c.stack
theorem ClAt.below {w w' : World} {b o : Nat} {vt vs : Value} {c : Cl} (h : ClAt w b o vt vs c) (hb : Below w.heap.size w w') : ClAt w' b o vt vs c :=
  ⟨cell_below hb h.c0, cell_below hb h.c1, cell_below hb h.c2, cell_below hb h.c3, cell_below hb h.c4, cell_below hb h.c5, h.t.below hb, h.s.below hb⟩
def CallsAt (w : World) (v : Value) (cs : List Cl) : Prop :=
  ∃ (a : Option Addr) (cap : Nat), v = .slice a cs.length cap ∧ cs.length ≤ maxLen ∧
    ∀ i, (h : i < cs.length) → ∃ b o vt vs, a = some ⟨b, o, none⟩ ∧ ClAt w b (o + i * 6) vt vs cs[i]
theorem CallsAt.below {w w' : World} {v : Value} {cs : List Cl} (h : CallsAt w v cs) (hb : Below w.heap.size w w') : CallsAt w' v cs := by
  obtain ⟨a, cap, hv, hl, hc⟩ := h
  refine ⟨a, cap, hv, hl, fun i hi => ?_⟩
  obtain ⟨b, o, vt, vs, ha, h0⟩ := hc i hi
  exact ⟨b, o, vt, vs, ha, h0.below hb⟩
theorem CallsAt.nil (w : World) : CallsAt w (.slice none 0 0) [] := ⟨none, 0, rfl, Nat.zero_le _, fun _ hi => absurd hi (Nat.not_lt_zero _)⟩
def hpCells (vc vs : Value) (h : Hp) : Array Value := #[vc, .int .i64 h.now, .int .i64 h.born, vs, .int .i64 h.code]
structure HeapAt (w : World) (vc vs : Value) (h : Hp) : Prop where
  c : CallsAt w vc h.calls
  s : OpsAt w vs h.said
theorem HeapAt.below {w w' : World} {vc vs : Value} {h : Hp} (k : HeapAt w vc vs h) (hb : Below w.heap.size w w') : HeapAt w' vc vs h := ⟨k.c.below hb, k.s.below hb⟩
theorem OpsAt.shape {w : World} {v : Value} {ops : List (Int × Int)} (h : OpsAt w v ops) : ∃ a c, v = .slice a ops.length c := by
  obtain ⟨a, c, hv, _⟩ := h
  exact ⟨a, c, hv⟩
theorem CallsAt.shape {w : World} {v : Value} {cs : List Cl} (h : CallsAt w v cs) : ∃ a c, v = .slice a cs.length c := by
  obtain ⟨a, c, hv, _⟩ := h
  exact ⟨a, c, hv⟩
def Cl.small (c : Cl) : Prop := c.temps.length ≤ 1048576 ∧ c.stack.length ≤ 1048576
def Hp.small (h : Hp) : Prop := h.calls.length ≤ 1048576 ∧ (∀ i, (hi : i < h.calls.length) → h.calls[i].small) ∧ h.said.length ≤ 1048576
end Go.Proofs.YtnffknlgaiehdaaGreatDoor

/-
  When a program is ok, in plain words: the one function that both the document's model and the program are held against. Nothing of the translation is used here.
-/
namespace Go.Proofs.YtnffknlgaiehdaaGreatDoor
def inR (n lo hi : Int) : Bool := decide (lo ≤ n) && decide (n ≤ hi)
theorem inR_true {n lo hi : Int} : inR n lo hi = true ↔ lo ≤ n ∧ n ≤ hi := by simp [inR]
theorem inR_false {n lo hi : Int} : inR n lo hi = false ↔ ¬ (lo ≤ n ∧ n ≤ hi) := by
  rw [← inR_true]; simp
def opOk (nm no : Nat) (t k a : Int) : Bool :=
  if k = 1 then inR a 0 99
  else if k = 2 ∨ k = 3 then inR a 0 (t - 1)
  else if k = 7 ∨ k = 8 then inR a 0 ((no : Int) - 1)
  else if k = 9 then inR a 0 ((nm : Int) - 1)
  else if k = 13 ∨ k = 14 then inR a 0 3
  else inR k 1 18 && (a == 0)
def opsOk (nm : Nat) (t : Int) (ops : List (Int × Int)) : Bool := ops.all fun op => opOk nm ops.length t op.1 op.2
def methOk (nm : Nat) (m : Int × Int × List (Int × Int)) : Bool :=
  inR m.1 0 2 && inR m.2.1 m.1 4 && decide (m.2.2.length ≤ 14) && opsOk nm m.2.1 m.2.2
def progOk (ms : List (Int × Int × List (Int × Int))) : Bool :=
  inR ms.length 1 4 && ((ms.getD 0 (0, 0, [])).1 == 0) && ms.all (methOk ms.length)
theorem all_of {α : Type} {l : List α} {p : α → Bool} (h : ∀ i, (hi : i < l.length) → p l[i] = true) : l.all p = true := by
  rw [List.all_eq_true]
  intro x hx
  obtain ⟨i, hi, rfl⟩ := List.getElem_of_mem hx
  exact h i hi
theorem all_not {α : Type} {l : List α} {p : α → Bool} {i : Nat} (hi : i < l.length) (h : p l[i] = false) : l.all p = false := by
  rw [List.all_eq_false]
  exact ⟨_, List.getElem_mem hi, by simp [h]⟩
theorem opsOk_yes {nm : Nat} {t : Int} {ops : List (Int × Int)} (h : ∀ i, (hi : i < ops.length) → opOk nm ops.length t ops[i].1 ops[i].2 = true) : opsOk nm t ops = true := all_of h
theorem opsOk_no {nm : Nat} {t : Int} {ops : List (Int × Int)} {i : Nat} (hi : i < ops.length) (h : opOk nm ops.length t ops[i].1 ops[i].2 = false) : opsOk nm t ops = false := all_not hi h
theorem methOk_of {nm : Nat} {x t : Int} {ops : List (Int × Int)} (h1 : inR x 0 2 = true) (h2 : inR t x 4 = true) (h3 : ops.length ≤ 14) {b : Bool} (h4 : opsOk nm t ops = b) : methOk nm (x, t, ops) = b := by
  simp [methOk, h1, h2, h3, h4]
theorem methOk_no1 {nm : Nat} {x t : Int} {ops : List (Int × Int)} (h : inR x 0 2 = false) : methOk nm (x, t, ops) = false := by simp [methOk, h]
theorem methOk_no2 {nm : Nat} {x t : Int} {ops : List (Int × Int)} (h : inR t x 4 = false) : methOk nm (x, t, ops) = false := by simp [methOk, h]
theorem methOk_no3 {nm : Nat} {x t : Int} {ops : List (Int × Int)} (h : ¬ ops.length ≤ 14) : methOk nm (x, t, ops) = false := by simp [methOk, h]
theorem opOk_2 (nm no : Nat) (t a : Int) : opOk nm no t 2 a = inR a 0 (t - 1) := rfl
theorem opOk_else (nm no : Nat) (t k a : Int) (h1 : ¬ k = 1) (h2 : ¬ k = 2) (h3 : ¬ k = 3) (h7 : ¬ k = 7) (h8 : ¬ k = 8) (h9 : ¬ k = 9) (h13 : ¬ k = 13) (h14 : ¬ k = 14) : opOk nm no t k a = (inR k 1 18 && (a == 0)) := by
  simp [opOk, h1, h2, h3, h7, h8, h9, h13, h14]
theorem opOk_noKind {nm no : Nat} {t k a : Int} (h : inR k 1 18 = false) : opOk nm no t k a = false := by
  rw [inR_false] at h
  rw [opOk_else nm no t k a (by omega) (by omega) (by omega) (by omega) (by omega) (by omega) (by omega) (by omega), inR_false.2 h]
  rfl
theorem ret_bool {a b : Bool} (h : a = b) : Ending.returned (.bool a) = .returned (.bool b) := by rw [h]
end Go.Proofs.YtnffknlgaiehdaaGreatDoor

/-
  When a value, a call, a heap is in form, in plain words: what both the document's model and the program are held against. Nothing of the translation is used here.
-/
namespace Go.Proofs.YtnffknlgaiehdaaGreatDoor
def valOk (n : Int) (k a : Int) : Bool := if k = 0 then a == 0 else if k = 1 then inR a 0 999 else if k = 2 then inR a 0 (n - 1) else false
def valsOk (n : Int) (l : List (Int × Int)) : Bool := l.all fun v => valOk n v.1 v.2
theorem valsOk_yes {n : Int} {l : List (Int × Int)} (h : ∀ i, (hi : i < l.length) → valOk n l[i].1 l[i].2 = true) : valsOk n l = true := all_of h
theorem valsOk_no {n : Int} {l : List (Int × Int)} {i : Nat} (hi : i < l.length) (h : valOk n l[i].1 l[i].2 = false) : valsOk n l = false := all_not hi h
def clOk (ms : List (Int × Int × List (Int × Int))) (n : Nat) (c : Cl) : Bool :=
  inR c.m 0 ((ms.length : Int) - 1) && inR c.pc 0 ((ms.getD c.m.toNat (0, 0, [])).2.2.length : Int) && decide ((c.temps.length : Int) = (ms.getD c.m.toNat (0, 0, [])).2.1) && decide (c.stack.length ≤ 6) &&
  (inR c.sender (-1) ((n : Int) - 1) && valsOk n c.temps && valsOk n c.stack && (!c.dead || (c.sender == -1 && c.stack.length == 0)))
end Go.Proofs.YtnffknlgaiehdaaGreatDoor

/-
  The sizes that the exact laws look at first, of values, calls and heaps: where szHeap answers no number below 0, none of its lists is longer than 1048576; it writes to nothing that was there.
-/
namespace Go.Proofs.YtnffknlgaiehdaaGreatDoor
open Go.RowKit
theorem szValS_any (a : Option Addr) (n c : Nat) (left : Int) (w : World) (h0 : 0 ≤ left) (h1 : left ≤ 1048576) (hn : n ≤ maxLen) :
    Calls Tryz.prog 20 #[.slice a n c, .int .i64 left] w fun e w' => ∃ r : Int, e = .returned (.int .i64 r) ∧ r ≤ 1048576 ∧ (0 ≤ r → n ≤ 1048576) ∧ w' = w := by
  unfold maxLen at hn
  go_enter Tryz.func20, Tryz.ntmps20
  by_cases hlt : left - n < 0
  · go_wp2
    go_ret
    exact ⟨_, rfl, by omega, fun h => absurd h (by omega), rfl⟩
  · go_wp2
    go_ret
    exact ⟨_, rfl, by omega, fun _ => by omega, rfl⟩
set_option maxHeartbeats 400000 in
theorem szCall_any (c : Cl) (vt vs : Value) (left : Int) (w : World) (ht : OpsAt w vt c.temps) (hs : OpsAt w vs c.stack) (h0 : 0 ≤ left) (h1 : left ≤ 1048576) :
    Calls Tryz.prog 44 #[.agg #[.int .i64 c.m, .int .i64 c.pc, vt, vs, .int .i64 c.sender, .bool c.dead], .int .i64 left] w fun e w' => ∃ r : Int, e = .returned (.int .i64 r) ∧ r ≤ 1048576 ∧ (0 ≤ r → c.small) ∧ Below w.heap.size w w' := by
  obtain ⟨a1, k1, rfl, hl1, _⟩ := ht
  obtain ⟨a2, k2, rfl, hl2, _⟩ := hs
  have HB : ∀ o, Below w.heap.size w (w.alloc o) := fun o => (Below.refl _ _).alloc (Nat.le_refl _) _
  go_enter Tryz.func44, Tryz.ntmps44
  go_wp2_with fail
  refine (szValS_any _ _ _ _ _ h0 h1 hl1).mono ?_
  rintro e w1 ⟨r, rfl, hr, hr0, rfl⟩
  by_cases hlt : r < 0
  · go_wp2
    go_ret
    exact ⟨_, rfl, by omega, fun h => absurd h (by omega), HB _⟩
  have hrn := hr0 (by omega)
  clear hr0
  go_wp2_with fail
  refine (szValS_any _ _ _ _ _ (by omega) hr hl2).mono ?_
  rintro e w2 ⟨q, rfl, hq, hq0, rfl⟩
  by_cases hlt2 : q < 0
  · go_wp2
    go_ret
    exact ⟨_, rfl, by omega, fun h => absurd h (by omega), HB _⟩
  have hqn := hq0 (by omega)
  clear hq0
  go_wp2
  go_ret
  exact ⟨_, rfl, by omega, fun _ => ⟨hrn, hqn⟩, HB _⟩
set_option maxHeartbeats 1000000 in
theorem szCallS_any (v : Value) (cs : List Cl) (left : Int) (w : World) (h : CallsAt w v cs) (h0 : 0 ≤ left) (h1 : left ≤ 1048576) :
    Calls Tryz.prog 19 #[v, .int .i64 left] w fun e w' => ∃ r : Int, e = .returned (.int .i64 r) ∧ r ≤ 1048576 ∧ (0 ≤ r → cs.length ≤ 1048576 ∧ ∀ i, (hi : i < cs.length) → cs[i].small) ∧ Below w.heap.size w w' := by
  obtain ⟨a, cap, rfl, hl, hc⟩ := h
  unfold maxLen at hl
  go_enter Tryz.func19, Tryz.ntmps19
  by_cases hlt : left - cs.length < 0
  · go_wp2
    go_ret
    exact ⟨_, rfl, by omega, fun h => absurd h (by omega), Below.refl _ _⟩
  · go_wp2
    go_loopg [1, 5] cs.length (fun g l i wr => ∃ (k : Nat) (r : Int), k ≤ cs.length ∧ g = cs.length - k ∧ i = .int .i64 k ∧ l = .int .i64 r ∧ 0 ≤ r ∧ r ≤ 1048576 ∧ Below w.heap.size w wr ∧ ∀ j, (hj : j < cs.length) → j < k → cs[j].small)
    case atStart => exact ⟨0, _, Nat.zero_le _, rfl, rfl, rfl, by omega, by omega, Below.refl _ _, fun j _ h => absurd h (Nat.not_lt_zero _)⟩
    case round =>
      obtain ⟨k, r, hk, rfl, rfl, rfl, hr0, hr1, hb, hall⟩ := hrel
      have H : Hid (∀ j, (hj : j < cs.length) → j < k → cs[j].small) := hall
      clear hall
      by_cases hlk : k < cs.length
      · obtain ⟨b, o, vt, vs, rfl, hcl⟩ := hc k hlk
        have hcr := hcl.below hb
        obtain ⟨d0, d1, d2, d3, d4, d5, dt, ds⟩ := hcr
        obtain ⟨a1, k1, hv1⟩ := dt.shape
        obtain ⟨a2, k2, hv2⟩ := ds.shape
        rw [hv1] at d2 dt
        rw [hv2] at d3 ds
        clear hcl hv1 hv2
        have hkz : (k : Int) < (cs.length : Int) := by omega
        go_wp2_with fail
        refine (szCall_any cs[k] _ _ _ _ dt ds hr0 hr1).mono ?_
        rintro e w1 ⟨q, rfl, hq1, hq0, hb1⟩
        have hb2 : Below w.heap.size w w1 := hb.trans (hb1.mono hb.size)
        have HQ : Hid (0 ≤ q → cs[k].small) := hq0
        clear hb hb1 d0 d1 d2 d3 d4 d5 dt ds hq0
        by_cases hq : q < 0
        · go_wp2
          go_ret
          exact ⟨_, rfl, by omega, fun h => absurd h (by omega), hb2⟩
        · have hqs := HQ.out (by omega)
          have HS : Hid (cs[k].small) := hqs
          clear HQ hqs
          go_wp2
          go_roundg (cs.length - (k + 1))
          case measure => omega
          case rel =>
            refine ⟨k + 1, q, by omega, rfl, by go_num, rfl, by omega, hq1, hb2, fun j hj hjk => ?_⟩
            by_cases e : j = k
            · subst e; exact HS.out
            · exact H.out j hj (by omega)
      · obtain rfl : k = cs.length := by omega
        go_wp2
        go_ret
        exact ⟨_, rfl, by omega, fun _ => ⟨by omega, fun i hi => H.out i hi hi⟩, hb⟩
set_option maxHeartbeats 1000000 in
theorem szHeap_any (h : Hp) (vc vs : Value) (left : Int) (w : World) (hh : HeapAt w vc vs h) (h0 : 0 ≤ left) (h1 : left ≤ 1048576) :
    Calls Tryz.prog 6 #[.agg (hpCells vc vs h), .int .i64 left] w fun e w' => ∃ r : Int, e = .returned (.int .i64 r) ∧ r ≤ 1048576 ∧ (0 ≤ r → h.small) ∧ Below w.heap.size w w' := by
  unfold hpCells
  obtain ⟨ac, kc, hvc⟩ := hh.c.shape
  obtain ⟨aD, ks, hvs⟩ := hh.s.shape
  subst hvc hvs
  have hsl := hh.s
  obtain ⟨_, _, _, hml, _⟩ := hsl
  have hA := (Below.refl w.heap.size w).alloc (Nat.le_refl _) (.cells #[.slice ac h.calls.length kc, .int .i64 h.now, .int .i64 h.born, .slice aD h.said.length ks, .int .i64 h.code] 28)
  have b3 : (w.alloc (.cells #[.slice ac h.calls.length kc, .int .i64 h.now, .int .i64 h.born, .slice aD h.said.length ks, .int .i64 h.code] 28)).cell? ⟨w.heap.size, 3, none⟩ = some (.slice aD h.said.length ks) := by simp [go_sem]
  go_enter Tryz.func6, Tryz.ntmps6
  go_wp2_with fail
  generalize w.alloc (.cells #[.slice ac h.calls.length kc, .int .i64 h.now, .int .i64 h.born, .slice aD h.said.length ks, .int .i64 h.code] 28) = W0 at *
  have zA := hA.size
  refine (szCallS_any _ h.calls _ _ (hh.below hA).c h0 h1).mono ?_
  rintro e w1 ⟨r, rfl, hr, hr0, hb1⟩
  have c3 := cell_below hb1 b3
  have hB1 : Below w.heap.size w w1 := hA.trans (hb1.mono zA)
  have H1 : Hid (0 ≤ r → h.calls.length ≤ 1048576 ∧ ∀ i, (hi : i < h.calls.length) → h.calls[i].small) := hr0
  clear hr0 hb1 b3 hA
  by_cases hlt : r < 0
  · go_wp2
    go_ret
    exact ⟨_, rfl, by omega, fun h => absurd h (by omega), hB1⟩
  go_wp2_with fail
  refine (szValS_any _ _ _ _ _ (by omega) hr hml).mono ?_
  rintro e w2 ⟨q, rfl, hq, hq0, rfl⟩
  have H2 : Hid (0 ≤ q → h.said.length ≤ 1048576) := hq0
  clear hq0
  by_cases hlt2 : q < 0
  · go_wp2
    go_ret
    exact ⟨_, rfl, by omega, fun h => absurd h (by omega), hB1⟩
  go_wp2
  go_ret
  exact ⟨_, rfl, by omega, fun _ => ⟨(H1.out (by omega)).1, (H1.out (by omega)).2, H2.out (by omega)⟩, hB1⟩
end Go.Proofs.YtnffknlgaiehdaaGreatDoor

/-
  The sizes that the exact laws look at first: where szProg answers no number below 0, neither the methods nor the operations of one are more than 1048576; it writes to nothing that was there.
-/
namespace Go.Proofs.YtnffknlgaiehdaaGreatDoor
open Go.RowKit
theorem szOpS_any (a : Option Addr) (n c : Nat) (left : Int) (w : World) (h0 : 0 ≤ left) (h1 : left ≤ 1048576) (hn : n ≤ maxLen) :
    Calls Tryz.prog 73 #[.slice a n c, .int .i64 left] w fun e w' => ∃ r : Int, e = .returned (.int .i64 r) ∧ r ≤ 1048576 ∧ (0 ≤ r → n ≤ 1048576) ∧ w' = w := by
  unfold maxLen at hn
  go_enter Tryz.func73, Tryz.ntmps73
  by_cases hlt : left - n < 0
  · go_wp2
    go_ret
    exact ⟨_, rfl, by omega, fun h => absurd h (by omega), rfl⟩
  · go_wp2
    go_ret
    exact ⟨_, rfl, by omega, fun _ => by omega, rfl⟩
set_option maxHeartbeats 400000 in
theorem szMethod_any (x t : Int) (v : Value) (ops : List (Int × Int)) (left : Int) (w : World) (h : OpsAt w v ops) (h0 : 0 ≤ left) (h1 : left ≤ 1048576) :
    Calls Tryz.prog 43 #[.agg #[.int .i64 x, .int .i64 t, v], .int .i64 left] w fun e w' => ∃ r : Int, e = .returned (.int .i64 r) ∧ r ≤ 1048576 ∧ (0 ≤ r → ops.length ≤ 1048576) ∧ Below w.heap.size w w' := by
  obtain ⟨a, cap, rfl, hl, _⟩ := h
  go_enter Tryz.func43, Tryz.ntmps43
  go_wp2_with fail
  refine (szOpS_any _ _ _ _ _ h0 h1 hl).mono ?_
  rintro e w1 ⟨r, rfl, hr, hr0, rfl⟩
  by_cases hlt : r < 0
  · go_wp2
    go_ret
    exact ⟨_, rfl, by omega, fun h => absurd h (by omega), (Below.refl _ _).alloc (Nat.le_refl _) _⟩
  · go_wp2
    go_ret
    exact ⟨_, rfl, by omega, hr0, (Below.refl _ _).alloc (Nat.le_refl _) _⟩
set_option maxHeartbeats 400000 in
theorem szMethodS_any (v : Value) (ms : List (Int × Int × List (Int × Int))) (left : Int) (w : World) (h : MethsAt w v ms) (h0 : 0 ≤ left) (h1 : left ≤ 1048576) :
    Calls Tryz.prog 18 #[v, .int .i64 left] w fun e w' => ∃ r : Int, e = .returned (.int .i64 r) ∧ r ≤ 1048576 ∧ (0 ≤ r → ms.length ≤ 1048576 ∧ ∀ i, (hi : i < ms.length) → ms[i].2.2.length ≤ 1048576) ∧ Below w.heap.size w w' := by
  obtain ⟨a, cap, rfl, hl, hc⟩ := h
  unfold maxLen at hl
  go_enter Tryz.func18, Tryz.ntmps18
  by_cases hlt : left - ms.length < 0
  · go_wp2
    go_ret
    exact ⟨_, rfl, by omega, fun h => absurd h (by omega), Below.refl _ _⟩
  · go_wp2
    go_loopg [1, 5] ms.length (fun g l i wr => ∃ (k : Nat) (r : Int), k ≤ ms.length ∧ g = ms.length - k ∧ i = .int .i64 k ∧ l = .int .i64 r ∧ 0 ≤ r ∧ r ≤ 1048576 ∧ Below w.heap.size w wr ∧ ∀ j, (hj : j < ms.length) → j < k → ms[j].2.2.length ≤ 1048576)
    case atStart => exact ⟨0, _, Nat.zero_le _, rfl, rfl, rfl, by omega, by omega, Below.refl _ _, fun j _ h => absurd h (Nat.not_lt_zero _)⟩
    case round =>
      obtain ⟨k, r, hk, rfl, rfl, rfl, hr0, hr1, hb, hall⟩ := hrel
      by_cases hlk : k < ms.length
      · obtain ⟨b, o, vo, rfl, c0, c1, c2, c3⟩ := hc k hlk
        have d0 := cell_below hb c0
        have d1 := cell_below hb c1
        have d2 := cell_below hb c2
        have d3 := c3.below hb
        clear c0 c1 c2 c3 hc
        have H : Hid (∀ j, (hj : j < ms.length) → j < k → ms[j].2.2.length ≤ 1048576) := hall
        clear hall
        have hkz : (k : Int) < (ms.length : Int) := by omega
        obtain ⟨ad, cap3, hvo, _⟩ := id d3
        rw [hvo] at d2 d3
        go_wp2_with fail
        refine (szMethod_any _ _ _ _ _ _ d3 hr0 hr1).mono ?_
        rintro e w1 ⟨q, rfl, hq1, hq0, hb1⟩
        have hb2 : Below w.heap.size w w1 := hb.trans (hb1.mono hb.size)
        clear hb hb1 d0 d1 d2 d3 hvo
        by_cases hq : q < 0
        · go_wp2
          go_ret
          exact ⟨_, rfl, by omega, fun h => absurd h (by omega), hb2⟩
        · have hq0' := hq0 (by omega)
          clear hq0
          go_wp2
          go_roundg (ms.length - (k + 1))
          case measure => omega
          case rel =>
            refine ⟨k + 1, q, by omega, rfl, by go_num, rfl, by omega, hq1, hb2, fun j hj hjk => ?_⟩
            by_cases e : j = k
            · subst e; exact hq0'
            · exact H.out j hj (by omega)
      · obtain rfl : k = ms.length := by omega
        go_wp2
        go_ret
        exact ⟨_, rfl, by omega, fun _ => ⟨by omega, fun i hi => hall i hi hi⟩, hb⟩
set_option maxHeartbeats 400000 in
theorem szProg_any (v : Value) (ms : List (Int × Int × List (Int × Int))) (left : Int) (w : World) (h : MethsAt w v ms) (h0 : 0 ≤ left) (h1 : left ≤ 1048576) :
    Calls Tryz.prog 5 #[.agg #[v], .int .i64 left] w fun e w' => ∃ r : Int, e = .returned (.int .i64 r) ∧ r ≤ 1048576 ∧ (0 ≤ r → ms.length ≤ 1048576 ∧ ∀ i, (hi : i < ms.length) → ms[i].2.2.length ≤ 1048576) ∧ Below w.heap.size w w' := by
  obtain ⟨ad, cap, rfl, hl, hc⟩ := h
  have h : MethsAt w (.slice ad ms.length cap) ms := ⟨ad, cap, rfl, hl, hc⟩
  clear hl hc
  go_enter Tryz.func5, Tryz.ntmps5
  go_wp2_with fail
  refine (szMethodS_any _ ms _ _ (h.below ?_) h0 h1).mono ?_
  · exact (Below.refl _ _).alloc (Nat.le_refl _) _
  rintro e w1 ⟨r, rfl, hr, hr0, hb1⟩
  have hb2 : Below w.heap.size w w1 := ((Below.refl _ _).alloc (Nat.le_refl _) _).trans (hb1.mono (by simp))
  have H := hr0
  have HH : Hid (0 ≤ r → ms.length ≤ 1048576 ∧ ∀ i, (hi : i < ms.length) → ms[i].2.2.length ≤ 1048576) := hr0
  clear hr0 H h hb1
  by_cases hlt : r < 0
  · go_wp2
    go_ret
    exact ⟨_, rfl, by omega, fun h => absurd h (by omega), hb2⟩
  · go_wp2
    go_ret
    exact ⟨_, rfl, by omega, HH.out, hb2⟩
end Go.Proofs.YtnffknlgaiehdaaGreatDoor
