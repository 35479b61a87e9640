/-
  What draws how many pages there are, and of how many cells: l71Rooms. (Written by mkdr.py.)
-/
import Derived.Test.YtldiccheboipeaaDrawNew
import Derived.Deep.RegionLaw
import Derived.Deep.DeepCutAuto
namespace Go.Proofs.Ytldiccheboipeaa
open Go.RowKit

theorem grown_farR {w0 w w' : World} {b : Nat} {row : Option Nat} (h : w0.grownBy w (some b)) (k : w.grownBy w' row) (hr : ∀ q, row = some q → w0.heap.size ≤ q) : w0.grownBy w' (some b) :=
  ⟨k.os.trans h.os, k.tape.trans h.tape, k.output.trans h.output, Nat.le_trans h.size k.size, fun q hq hne => (k.block q (by have := h.size; omega) (fun e => by have := hr q e.symm; omega)).trans (h.block q hq hne)⟩

set_option maxRecDepth 100000 in
set_option maxHeartbeats 4000000 in
theorem l71Rooms_any (w : World) (b : Nat) (a : Option Addr) (len cap p : Nat) (hr : Rd w b a len cap p) (hp : p + 100 ≤ 1000000) :
    Calls Try.prog 31 #[.pointer (some ⟨b, 0, none⟩)] w fun e w' => ∃ r c : Int, e = .returned (.tuple #[.int .i64 r, .int .i64 c]) ∧ (-1 ≤ r ∧ r ≤ 6) ∧ (0 ≤ c ∧ c ≤ 61) ∧ Rd w' b a len cap (p + 3) ∧ w.grownBy w' (some b) := by
  have hbl : b < w.heap.size := World.block_lt_of_cell? _ _ hr.s
  go_enter Try.func31, Try.ntmps31
  go_wp2_with fail
  refine (pick_any _ _ _ _ _ _ 20 hr (by omega) (by omega) (by omega)).mono ?_
  rintro e W ⟨x, rfl, hx0, hx1, hrW, hgW⟩
  have hbW : b < W.heap.size := Nat.lt_of_lt_of_le hbl hgW.size
  have HGW : Hid (w.grownBy W (some b)) := hgW
  have HR : Hid (Rd W b a len cap (p + 1)) := hrW
  clear hgW hrW hr
  by_cases hx : x = 0
  · subst hx
    have HA2 : Hid (∀ i, i < 3 → ∃ y : Int, 0 ≤ y ∧ y ≤ 61 ∧ ∀ V : World, (V.alloc (.cells #[.int .i64 13, .int .i64 61, .int .i64 20] 3)).cell? ⟨V.heap.size, i, none⟩ = some (.int .i64 y) ∧ (V.alloc (.cells #[.int .i64 13, .int .i64 61, .int .i64 20] 3)).drew.cell? ⟨V.heap.size, i, none⟩ = some (.int .i64 y)) := fun i hi => by
      rcases (by omega : i = 0 ∨ i = 1 ∨ i = 2) with rfl | rfl | rfl
      · exact ⟨13, by decide, by decide, fun V => ⟨by simp [go_sem], by simp [go_sem]⟩⟩
      · exact ⟨61, by decide, by decide, fun V => ⟨by simp [go_sem], by simp [go_sem]⟩⟩
      · exact ⟨20, by decide, by decide, fun V => ⟨by simp [go_sem], by simp [go_sem]⟩⟩
    
    have HRd : Rd W.drew b a len cap (p + 1) := Rd.heap HR.out rfl
    have HRa : ∀ o, Rd (W.alloc o).drew b a len cap (p + 1) := fun o => Rd.heap (HR.out.alloc o) rfl
    have HNE : Hid (∀ V : World, W.heap.size ≤ V.heap.size → some V.heap.size ≠ some b) := fun V hV e => by injection e with e; omega
    have HGA1 : Hid (∀ o, W.grownBy (W.alloc o).drew (some b)) := fun o => grown_drewN (World.grownBy_alloc W o (some b)) 1
    have HGD : Hid (W.grownBy W.drew (some b)) := grown_drewN (World.grownBy.refl W (some b)) 1
    go_wp2_with fail
    go_region_law (first
      | (have hh := hrd2; clear hh; fail)
      | (go_simp; go_at_call 83; have hh := hrd1; clear hh; refine (pick_any _ _ _ _ _ _ 3 (by first | with_reducible exact hrd1 | with_reducible exact hrd1.alloc _) (by omega) (by omega) (by omega)).mono ?_; rintro e w2 ⟨x2, rfl, hx20, hx21, hrd2, hg2⟩; obtain ⟨i2, rfl⟩ := Int.eq_ofNat_of_zero_le hx20; obtain ⟨y, hy0, hy1, HV⟩ := HA2.out i2 (by omega); have HV1 := fun V => (HV V).1; have HV2 := fun V => (HV V).2; have hGA := fun V : World => World.grownBy_alloc V (.cells #[.int .i64 13, .int .i64 61, .int .i64 20] 3) (some b); first
           | (with_reducible have q2 := hg2.cell (hg1.cell (HV2 W) (HNE.out W (Nat.le_refl _))) (HNE.out W (Nat.le_refl _)); with_reducible have HG := grown_trans (HGA1.out _) (grown_trans hg1 hg2))
           | (with_reducible have q2 := hg2.cell (HV1 w1) (HNE.out w1 (by omega)); with_reducible have HG := grown_trans HGD.out (grown_trans hg1 (grown_trans (hGA w1) hg2)))
           | (with_reducible have HG := grown_trans HGD.out (grown_trans hg1 hg2); have HV3 := HV1))
      | (go_simp; go_at_call 83; refine (pick_any _ _ _ _ _ _ 7 (by first | with_reducible exact HRd | with_reducible exact HRa _) (by omega) (by omega) (by omega)).mono ?_; rintro e w1 ⟨x1, rfl, hx10, hx11, hrd1, hg1⟩; have hz1 : W.heap.size ≤ w1.heap.size := (by have := hg1.size; simp at this; omega)))
    all_goals
      have hw : IntKind.i64.wrap (x1 - 1) = x1 - 1 := by rw [IntKind.wrap_i64]; omega
      go_wp2
      first
        | exact bodyPost_ret (v := .tuple #[.int .i64 (IntKind.i64.wrap (x1 - 1)), .int .i64 y]) (by simp [results, Try.results31, go_sem]) rfl ⟨_, y, by rw [hw], by omega, by omega, hrd2, grown_trans HGW.out HG⟩
        | exact bodyPost_ret (v := .tuple #[.int .i64 (IntKind.i64.wrap (x1 - 1)), .int .i64 y]) (by simp [results, Try.results31, go_sem]) rfl ⟨_, y, by rw [hw], by omega, by omega, hrd2.alloc _, grown_trans HGW.out (grown_trans HG (hGA _))⟩
  · have hxb : (x == 0) = false := beq_eq_false_iff_ne.2 hx
    have HA2 : Hid (∀ i, i < 6 → ∃ y : Int, 0 ≤ y ∧ y ≤ 61 ∧ ∀ V : World, (V.alloc (.cells #[.int .i64 14, .int .i64 14, .int .i64 20, .int .i64 28, .int .i64 30, .int .i64 60] 3)).cell? ⟨V.heap.size, i, none⟩ = some (.int .i64 y) ∧ (V.alloc (.cells #[.int .i64 14, .int .i64 14, .int .i64 20, .int .i64 28, .int .i64 30, .int .i64 60] 3)).drew.cell? ⟨V.heap.size, i, none⟩ = some (.int .i64 y)) := fun i hi => by
      rcases (by omega : i = 0 ∨ i = 1 ∨ i = 2 ∨ i = 3 ∨ i = 4 ∨ i = 5) with rfl | rfl | rfl | rfl | rfl | rfl
      · exact ⟨14, by decide, by decide, fun V => ⟨by simp [go_sem], by simp [go_sem]⟩⟩
      · exact ⟨14, by decide, by decide, fun V => ⟨by simp [go_sem], by simp [go_sem]⟩⟩
      · exact ⟨20, by decide, by decide, fun V => ⟨by simp [go_sem], by simp [go_sem]⟩⟩
      · exact ⟨28, by decide, by decide, fun V => ⟨by simp [go_sem], by simp [go_sem]⟩⟩
      · exact ⟨30, by decide, by decide, fun V => ⟨by simp [go_sem], by simp [go_sem]⟩⟩
      · exact ⟨60, by decide, by decide, fun V => ⟨by simp [go_sem], by simp [go_sem]⟩⟩
    
    have HRd : Rd W.drew b a len cap (p + 1) := Rd.heap HR.out rfl
    have HRa : ∀ o, Rd (W.alloc o).drew b a len cap (p + 1) := fun o => Rd.heap (HR.out.alloc o) rfl
    have HNE : Hid (∀ V : World, W.heap.size ≤ V.heap.size → some V.heap.size ≠ some b) := fun V hV e => by injection e with e; omega
    have HGA1 : Hid (∀ o, W.grownBy (W.alloc o).drew (some b)) := fun o => grown_drewN (World.grownBy_alloc W o (some b)) 1
    have HGD : Hid (W.grownBy W.drew (some b)) := grown_drewN (World.grownBy.refl W (some b)) 1
    go_wp2_with fail
    go_region_law (first
      | (have hh := hrd2; clear hh; fail)
      | (go_simp; go_at_call 83; have hh := hrd1; clear hh; refine (pick_any _ _ _ _ _ _ 6 (by first | with_reducible exact hrd1 | with_reducible exact hrd1.alloc _) (by omega) (by omega) (by omega)).mono ?_; rintro e w2 ⟨x2, rfl, hx20, hx21, hrd2, hg2⟩; obtain ⟨i2, rfl⟩ := Int.eq_ofNat_of_zero_le hx20; obtain ⟨y, hy0, hy1, HV⟩ := HA2.out i2 (by omega); have HV1 := fun V => (HV V).1; have HV2 := fun V => (HV V).2; have hGA := fun V : World => World.grownBy_alloc V (.cells #[.int .i64 14, .int .i64 14, .int .i64 20, .int .i64 28, .int .i64 30, .int .i64 60] 3) (some b); first
           | (with_reducible have q2 := hg2.cell (hg1.cell (HV2 W) (HNE.out W (Nat.le_refl _))) (HNE.out W (Nat.le_refl _)); with_reducible have HG := grown_trans (HGA1.out _) (grown_trans hg1 hg2))
           | (with_reducible have q2 := hg2.cell (HV1 w1) (HNE.out w1 (by omega)); with_reducible have HG := grown_trans HGD.out (grown_trans hg1 (grown_trans (hGA w1) hg2)))
           | (with_reducible have HG := grown_trans HGD.out (grown_trans hg1 hg2); have HV3 := HV1))
      | (go_simp; go_at_call 83; refine (pick_any _ _ _ _ _ _ 4 (by first | with_reducible exact HRd | with_reducible exact HRa _) (by omega) (by omega) (by omega)).mono ?_; rintro e w1 ⟨x1, rfl, hx10, hx11, hrd1, hg1⟩; have hz1 : W.heap.size ≤ w1.heap.size := (by have := hg1.size; simp at this; omega)))
    all_goals
      have hw : IntKind.i64.wrap (1 + x1) = 1 + x1 := by rw [IntKind.wrap_i64]; omega
      go_wp2
      first
        | exact bodyPost_ret (v := .tuple #[.int .i64 (IntKind.i64.wrap (1 + x1)), .int .i64 y]) (by simp [results, Try.results31, go_sem]) rfl ⟨_, y, by rw [hw], by omega, by omega, hrd2, grown_trans HGW.out HG⟩
        | exact bodyPost_ret (v := .tuple #[.int .i64 (IntKind.i64.wrap (1 + x1)), .int .i64 y]) (by simp [results, Try.results31, go_sem]) rfl ⟨_, y, by rw [hw], by omega, by omega, hrd2.alloc _, grown_trans HGW.out (grown_trans HG (hGA _))⟩

end Go.Proofs.Ytldiccheboipeaa
