/-
  What is seen of a heap, by the model: l11Has, l11Refs, l11Found, l11Names, l11Copy.
-/
import Derived.Test.YtmifhlkcceafkaaGreatRunPlain
import Derived.Test.YtmifhlkcceafkaaGreatCallRow
import Derived.Deep.RegionHeld3
import Derived.Test.YtmifhlkcceafkaaGreatImplOk
import Derived.Deep.QuietTactic
import Derived.Test.YtmifhlkcceafkaaGreatHImpl4
import Derived.Deep.DeepCutAuto
import Derived.Test.YtmifhlkcceafkaaGreatQB
import Derived.BigQuiet
import Derived.Deep.RegionWith

namespace Go.Proofs.YtmifhlkcceafkaaGreat
open Go.RowKit
end Go.Proofs.YtmifhlkcceafkaaGreat

/-
  What is seen of a heap, by the program: calls in the order in which they are come to (come, comeToVals, numberOf).
-/
namespace Go.Proofs.YtmifhlkcceafkaaGreat
open Go.RowKit
def two (x0 x1 : Value) : Nat → Value := fun i => if i = 0 then x0 else x1
end Go.Proofs.YtmifhlkcceafkaaGreat

/-
  What is seen of a heap, by the program: comeToVals, numberOf.
-/
namespace Go.Proofs.YtmifhlkcceafkaaGreat
open Go.RowKit
end Go.Proofs.YtmifhlkcceafkaaGreat

/-
  What is seen of a heap, by the model: l11Names, l11Copy.
-/
namespace Go.Proofs.YtmifhlkcceafkaaGreat
open Go.RowKit
set_option maxRecDepth 100000 in
set_option maxHeartbeats 2000000 in
theorem l11Copy_any (vt vs : Value) (c : Cl) (w : World) (ht : OpsAt w vt c.temps) (hs : OpsAt w vs c.stack) (hb : c.temps.length ≤ 1000 ∧ c.stack.length ≤ 1000) :
    Calls Tryz.prog 22 #[.agg (clCells vt vs c)] w fun e w' => ∃ vt' vs', e = .returned (.agg (clCells vt' vs' c)) ∧ PairRow w.heap.size w' vt' c.temps ∧ PairRow w.heap.size w' vs' c.stack ∧ (∀ g, vt'.ownBlock = some g → vs'.ownBlock ≠ some g) ∧ Below w.heap.size w w' := by
  obtain ⟨at', ct', hvt⟩ := ht.shape
  obtain ⟨as', cs', hvs⟩ := hs.shape
  subst hvt hvs
  unfold clCells
  obtain ⟨hb1, hb2⟩ := hb
  have hA : Below w.heap.size w ((w.alloc (.cells #[.int .i64 c.m, .int .i64 c.pc, .slice at' c.temps.length ct', .slice as' c.stack.length cs', .int .i64 c.sender, .bool c.dead] 63)).alloc (.cells #[.int .i64 0, .int .i64 0, .slice none 0 0, .slice none 0 0, .int .i64 0, .bool false] 63)) := ((Below.refl _ _).alloc (Nat.le_refl _) _).alloc (by simp) _
  have bc := (six_new w 63 (.int .i64 c.m) (.int .i64 c.pc) (.slice at' c.temps.length ct') (.slice as' c.stack.length cs') (.int .i64 c.sender) (.bool c.dead)).alloc (.cells #[.int .i64 0, .int .i64 0, .slice none 0 0, .slice none 0 0, .int .i64 0, .bool false] 63)
  have bz := six_new (w.alloc (.cells #[.int .i64 c.m, .int .i64 c.pc, .slice at' c.temps.length ct', .slice as' c.stack.length cs', .int .i64 c.sender, .bool c.dead] 63)) 63 (.int .i64 0) (.int .i64 0) (.slice none 0 0) (.slice none 0 0) (.int .i64 0) (.bool false)
  simp only [World.size_alloc] at bz
  go_enter Tryz.func22, Tryz.ntmps22
  go_upto_region 1 with fail
  generalize (w.alloc (.cells #[.int .i64 c.m, .int .i64 c.pc, .slice at' c.temps.length ct', .slice as' c.stack.length cs', .int .i64 c.sender, .bool c.dead] 63)).alloc (.cells #[.int .i64 0, .int .i64 0, .slice none 0 0, .slice none 0 0, .int .i64 0, .bool false] 63) = W1 at *
  have zA := hA.size
  have yA := bz.lt
  have N1 := (Below.refl W1.heap.size W1).alloc (Nat.le_refl _) (.cells #[] 82)
  have mk1 := PairRow.made (B := W1.heap.size) (w := W1) (e := 82) (Nat.le_refl _)
  have ht1 := (ht.below hA).below N1
  have bc1 := row_below N1 bc
  have bz1 := row_below N1 bz
  obtain ⟨⟨x0, x1, x2, x3, x4, x5⟩, xf⟩ := six_cells bc1
  clear xf
  go_upto_region 2 with (at_builtin; refine append_vals _ (by rfl) _ _ (by rfl) W1.heap.size _ _ [] c.temps (by rfl) (by rfl) mk1 ht1 (by simp; omega) N1.size ?_; intro v2 w2 hrow2 hg2 hbk2; rw [List.nil_append] at hrow2; obtain ⟨a2, c2, hv2, _⟩ := hrow2.slice; subst hv2; have bc2 := bc1.of_block (hg2.block w.heap.size bc1.lt (fun e => by have := (mk1.lt _ e.symm).1; omega)); have bz2 := bz1.of_block (hg2.block (w.heap.size + 1) bz1.lt (fun e => by have := (mk1.lt _ e.symm).1; omega)); obtain ⟨⟨y0, y1, y2, y3, y4, y5⟩, k0, k1, k2, k3, k4, k5⟩ := six_cells bc2)
  have B2 : Below w.heap.size w w2 := (hA.trans (N1.mono zA)).grown hg2 (by have := N1.size; omega) (fun q e => by have := (mk1.lt q e).1; omega)
  have hz2 : W1.heap.size ≤ w2.heap.size := Nat.le_trans N1.size hg2.size
  clear hg2 hbk2 mk1 ht1 bc1 bz1 N1 x0 x1 x2 x3 x4 x5 y0 y1 y2 y3 y4 y5 k0 k1 k2 k3 k4 k5 bc bz hA
  have hne2 : (Value.slice a2 c.temps.length c2).ownBlock ≠ some w.heap.size := fun e => by have := (hrow2.lt _ e).1; omega
  have P3 := hrow2.set_other (p := ⟨w.heap.size, 2, none⟩) (.slice a2 c.temps.length c2) hne2
  have bc3 := six_set2 bc2 (.slice a2 c.temps.length c2)
  have bz3 := row_set (k := w.heap.size) (o := 2) bz2 (by omega) (.slice a2 c.temps.length c2)
  have B3 := B2.setCell (p := ⟨w.heap.size, 2, none⟩) (Nat.le_refl _) (.slice a2 c.temps.length c2)
  have hz3 : W1.heap.size ≤ (w2.setCell ⟨w.heap.size, 2, none⟩ (.slice a2 c.temps.length c2)).heap.size := by simp [World.setCell]; exact hz2
  generalize w2.setCell ⟨w.heap.size, 2, none⟩ (.slice a2 c.temps.length c2) = w3 at *
  clear bc2 bz2 B2 hrow2
  have N3 := (Below.refl w3.heap.size w3).alloc (Nat.le_refl _) (.cells #[] 82)
  have mk3 := PairRow.made (B := w3.heap.size) (w := w3) (e := 82) (Nat.le_refl _)
  have hs3 := (hs.below B3).below N3
  have bc4 := row_below N3 bc3
  have bz4 := row_below N3 bz3
  have P4 := P3.below N3
  have z3 := B3.size
  obtain ⟨⟨x0, x1, x2, x3, x4, x5⟩, xf⟩ := six_cells bc4
  clear xf
  go_upto_region 3 with (at_builtin; refine append_vals _ (by rfl) _ _ (by rfl) w3.heap.size _ _ [] c.stack (by rfl) (by rfl) mk3 hs3 (by simp; omega) N3.size ?_; intro v5 w5 hrow5 hg5 hbk5; rw [List.nil_append] at hrow5; obtain ⟨a5, c5, hv5, _⟩ := hrow5.slice; subst hv5; have bc5 := bc4.of_block (hg5.block w.heap.size bc4.lt (fun e => by have := (mk3.lt _ e.symm).1; omega)); have bz5 := bz4.of_block (hg5.block (w.heap.size + 1) bz4.lt (fun e => by have := (mk3.lt _ e.symm).1; omega)); obtain ⟨⟨y0, y1, y2, y3, y4, y5⟩, k0, k1, k2, k3, k4, k5⟩ := six_cells bc5)
  have B5 : Below w.heap.size w w5 := (B3.trans (N3.mono z3)).grown hg5 (by have := N3.size; omega) (fun q e => by have := (mk3.lt q e).1; omega)
  have P5 := P4.kept hg5.size fun q e => hg5.block q (P4.lt q e).2 (fun e2 => by have h1 := (mk3.lt _ e2.symm).1; have h2 := (P3.lt q e).2; omega)
  have hap : ∀ q, (Value.slice a2 c.temps.length c2).ownBlock = some q → (Value.slice a5 c.stack.length c5).ownBlock ≠ some q := fun q e e2 => by have h1 := (P3.lt q e).2; have h2 := (hrow5.lt q e2).1; omega
  clear hg5 hbk5 mk3 hs3 bc4 bz4 N3 x0 x1 x2 x3 x4 x5 y0 y1 y2 y3 y4 y5 k0 k1 k2 k3 k4 k5 bc3 bz3 P3 P4 B3
  have hne5 : (Value.slice a5 c.stack.length c5).ownBlock ≠ some w.heap.size := fun e => by have := (hrow5.lt _ e).1; omega
  have P6 := P5.set_other (p := ⟨w.heap.size, 3, none⟩) (.slice a5 c.stack.length c5) hne2
  have Q6 := hrow5.set_other (p := ⟨w.heap.size, 3, none⟩) (.slice a5 c.stack.length c5) hne5
  have bc6 := six_set3 bc5 (.slice a5 c.stack.length c5)
  have bz6 := row_set (k := w.heap.size) (o := 3) bz5 (by omega) (.slice a5 c.stack.length c5)
  have B6 := B5.setCell (p := ⟨w.heap.size, 3, none⟩) (Nat.le_refl _) (.slice a5 c.stack.length c5)
  generalize w5.setCell ⟨w.heap.size, 3, none⟩ (.slice a5 c.stack.length c5) = w6 at *
  clear P5 hrow5 bc5 bz5 B5
  have nt1 : (Value.slice a2 c.temps.length c2).ownBlock ≠ some (w.heap.size + 1) := fun e => by have := (P6.lt _ e).1; omega
  have ns1 : (Value.slice a5 c.stack.length c5).ownBlock ≠ some (w.heap.size + 1) := fun e => by have := (Q6.lt _ e).1; omega
  obtain ⟨⟨x0, x1, x2, x3, x4, x5⟩, xf⟩ := six_cells bc6
  obtain ⟨⟨y0, y1, y2, y3, y4, y5⟩, k0, k1, k2, k3, k4, k5⟩ := six_cells bz6
  clear xf
  have R9 := six_set5 (six_set4 (six_set3 (six_set2 (six_set1 (six_set0 bz6 (.int .i64 c.m)) (.int .i64 c.pc)) (.slice a2 c.temps.length c2)) (.slice a5 c.stack.length c5)) (.int .i64 c.sender)) (.bool c.dead)
  have P9 := (((((P6.set_other (p := ⟨w.heap.size + 1, 0, none⟩) (.int .i64 c.m) nt1).set_other (p := ⟨w.heap.size + 1, 1, none⟩) (.int .i64 c.pc) nt1).set_other (p := ⟨w.heap.size + 1, 2, none⟩) (.slice a2 c.temps.length c2) nt1).set_other (p := ⟨w.heap.size + 1, 3, none⟩) (.slice a5 c.stack.length c5) nt1).set_other (p := ⟨w.heap.size + 1, 4, none⟩) (.int .i64 c.sender) nt1).set_other (p := ⟨w.heap.size + 1, 5, none⟩) (.bool c.dead) nt1
  have Q9 := (((((Q6.set_other (p := ⟨w.heap.size + 1, 0, none⟩) (.int .i64 c.m) ns1).set_other (p := ⟨w.heap.size + 1, 1, none⟩) (.int .i64 c.pc) ns1).set_other (p := ⟨w.heap.size + 1, 2, none⟩) (.slice a2 c.temps.length c2) ns1).set_other (p := ⟨w.heap.size + 1, 3, none⟩) (.slice a5 c.stack.length c5) ns1).set_other (p := ⟨w.heap.size + 1, 4, none⟩) (.int .i64 c.sender) ns1).set_other (p := ⟨w.heap.size + 1, 5, none⟩) (.bool c.dead) ns1
  have B9 := (((((B6.setCell (p := ⟨w.heap.size + 1, 0, none⟩) (Nat.le_succ _) (.int .i64 c.m)).setCell (p := ⟨w.heap.size + 1, 1, none⟩) (Nat.le_succ _) (.int .i64 c.pc)).setCell (p := ⟨w.heap.size + 1, 2, none⟩) (Nat.le_succ _) (.slice a2 c.temps.length c2)).setCell (p := ⟨w.heap.size + 1, 3, none⟩) (Nat.le_succ _) (.slice a5 c.stack.length c5)).setCell (p := ⟨w.heap.size + 1, 4, none⟩) (Nat.le_succ _) (.int .i64 c.sender)).setCell (p := ⟨w.heap.size + 1, 5, none⟩) (Nat.le_succ _) (.bool c.dead)
  go_wp2
  generalize (((((w6.setCell ⟨w.heap.size + 1, 0, none⟩ (.int .i64 c.m)).setCell ⟨w.heap.size + 1, 1, none⟩ (.int .i64 c.pc)).setCell ⟨w.heap.size + 1, 2, none⟩ (.slice a2 c.temps.length c2)).setCell ⟨w.heap.size + 1, 3, none⟩ (.slice a5 c.stack.length c5)).setCell ⟨w.heap.size + 1, 4, none⟩ (.int .i64 c.sender)).setCell ⟨w.heap.size + 1, 5, none⟩ (.bool c.dead) = W9 at *
  obtain ⟨⟨q0, q1, q2, q3, q4, q5⟩, _⟩ := six_cells R9
  exact bodyPost_ret (v := .agg #[.int .i64 c.m, .int .i64 c.pc, .slice a2 c.temps.length c2, .slice a5 c.stack.length c5, .int .i64 c.sender, .bool c.dead]) (by simp [results, Tryz.results22, go_sem, q0, q1, q2, q3, q4, q5]) rfl ⟨_, _, rfl, P9.mono (by omega), Q9.mono (by omega), hap, B9⟩
end Go.Proofs.YtmifhlkcceafkaaGreat

/-
  Small pieces of the program's MachOk: where a number stands, how many calls there are, the order, what runs. (Written by mkmo.py.)
-/
namespace Go.Proofs.YtmifhlkcceafkaaGreat
open Go.RowKit
theorem ret_int {a b : Int} (h : a = b) : Ending.returned (.int .i64 a) = Ending.returned (.int .i64 b) := by rw [h]
def idxI (xs : List Int) (v : Int) : Int := match xs.findIdx? (fun x => x == v) with | some i => (i : Int) | none => -1
theorem idxI_found {xs : List Int} {v : Int} {k : Nat} (hk : k < xs.length) (he : xs[k] = v) (hno : ∀ j, (hj : j < xs.length) → j < k → xs[j] ≠ v) : idxI xs v = (k : Int) := by
  have : xs.findIdx? (fun x => x == v) = some k := by
    rw [List.findIdx?_eq_some_iff_getElem]
    exact ⟨hk, by simp [he], fun j hj => by simp [hno j (by omega) hj]⟩
  unfold idxI
  rw [this]
theorem idxI_none {xs : List Int} {v : Int} (hno : ∀ j, (hj : j < xs.length) → xs[j] ≠ v) : idxI xs v = -1 := by
  have : xs.findIdx? (fun x => x == v) = none := by
    rw [List.findIdx?_eq_none_iff]
    intro x hx
    obtain ⟨j, hj, rfl⟩ := List.getElem_of_mem hx
    simp [hno j hj]
  unfold idxI
  rw [this]
set_option maxRecDepth 100000 in
set_option maxHeartbeats 4000000 in
theorem slicesIndex_any (v : Value) (xs : List Int) (x : Int) (w : World) (h : IntsAt w v xs) :
    Calls Tryz.prog 73 #[v, .int .i64 x] w fun e w' => e = .returned (.int .i64 (idxI xs x)) ∧ w' = w := by
  obtain ⟨a, cap, rfl, hl, hc⟩ := h
  unfold maxLen at hl
  go_enter Tryz.func73, Tryz.ntmps73
  go_wp2
  go_loopg [5, 8] xs.length (fun g _ i wr => ∃ k : Nat, k ≤ xs.length ∧ g = xs.length - k ∧ i = .int .i64 k ∧ wr = w ∧ ∀ j, (hj : j < xs.length) → j < k → xs[j] ≠ x)
  case atStart => exact ⟨0, Nat.zero_le _, rfl, rfl, rfl, fun j _ h => absurd h (Nat.not_lt_zero _)⟩
  case round =>
    obtain ⟨k, hk, rfl, rfl, hw, hall⟩ := hrel
    obtain rfl := hw.symm
    have H : Hid (∀ j, (hj : j < xs.length) → j < k → xs[j] ≠ x) := hall
    clear hall hw
    by_cases hlt : k < xs.length
    · obtain ⟨b, o, rfl, c0⟩ := hc k hlt
      have hkz : (k : Int) < (xs.length : Int) := by omega
      by_cases he : xs[k] = x
      · have HE : Hid (idxI xs x = (k : Int)) := idxI_found hlt he H.out
        rw [he] at c0
        go_wp2
        go_ret
        exact ⟨ret_int HE.out.symm, rfl⟩
      · have hne : (x == xs[k]) = false := by simp; exact fun e => he e.symm
        have HN : Hid (∀ j, (hj : j < xs.length) → j < k + 1 → xs[j] ≠ x) := fun j hj hjk => by
          by_cases e : j = k
          · subst e; exact he
          · exact H.out j hj (by omega)
        have hne2 : ¬ (x = xs[k]) := fun e => he e.symm
        clear H
        go_wp2
        go_roundg (xs.length - (k + 1))
        case measure => omega
        case rel => exact ⟨k + 1, by omega, rfl, by go_num, rfl, HN.out⟩
    · obtain rfl : k = xs.length := by omega
      have HE : Hid (idxI xs x = -1) := idxI_none fun j hj => H.out j hj hj
      go_wp2
      go_ret
      exact ⟨ret_int HE.out.symm, rfl⟩
end Go.Proofs.YtmifhlkcceafkaaGreat

/-
  Pieces of the program's MachOk: what runs, frames, pages and twins. (Written by mkmo2.py.)
-/
namespace Go.Proofs.YtmifhlkcceafkaaGreat
open Go.RowKit
def Pg.none : Pg := ⟨-1, []⟩
end Go.Proofs.YtmifhlkcceafkaaGreat

/-
  Pieces of the program's MachOk: frames, bases and twins. (Written by mkmo3.py.)
-/
namespace Go.Proofs.YtmifhlkcceafkaaGreat
open Go.RowKit
def Tw.none : Tw := ⟨-1, 0, ⟨0, 0, [], [], 0, false⟩⟩
end Go.Proofs.YtmifhlkcceafkaaGreat

/-
  Pieces of the program's MachOk: whether a frame, a twin, a page is in form. (Written by mkmo4.py.)
-/
namespace Go.Proofs.YtmifhlkcceafkaaGreat
open Go.RowKit
def Fr.none : Fr := ⟨0, 0, -1, [], []⟩
end Go.Proofs.YtmifhlkcceafkaaGreat
