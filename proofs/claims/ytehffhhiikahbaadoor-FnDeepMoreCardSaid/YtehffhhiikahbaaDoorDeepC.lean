/-
  slices.Repeat of the one number -1, at most 14 times, as the program calls it: a row of its own.
-/
import Derived.Test.YtehffhhiikahbaaDoorDeepB
import Derived.Laws.IdiomCopy
import Derived.Deep.RegionLaw
namespace Go.Proofs.YtehffhhiikahbaaDoor
open Go.RowKit

set_option maxRecDepth 100000 in
set_option maxHeartbeats 4000000 in
theorem mul64_one (n : Nat) (h : n ≤ 14) (w : World) : Calls Tryd.prog 46 #[.int .u64 1, .int .u64 n] w fun e w' => e = .returned (.tuple #[.int .u64 0, .int .u64 n]) ∧ w' = w := by
  match n, h with
  | 0, _ | 1, _ | 2, _ | 3, _ | 4, _ | 5, _ | 6, _ | 7, _ | 8, _ | 9, _ | 10, _ | 11, _ | 12, _ | 13, _ | 14, _ =>
    all_goals
      go_enter Tryd.func46, Tryd.ntmps46
      go_wp2
      go_ret2
      exact ⟨rfl, rfl⟩


theorem mul_one' (n : Nat) (h : n ≤ 14) (w : World) : Calls Tryd.prog 41 #[.int .u64 1, .int .u64 n] w fun e w' => e = .returned (.tuple #[.int .u64 0, .int .u64 n]) ∧ w' = w := by
  go_enter Tryd.func41, Tryd.ntmps41
  go_wp2_with (go_at_call 46; refine (mul64_one n h _).mono ?_; rintro e w' ⟨rfl, hw⟩; obtain rfl := hw.symm)
  go_ret2
  exact ⟨rfl, rfl⟩

/-- k times -1, then 0, n in all -/
def mix (k n : Nat) : List Int := (List.range n).map fun i => if i < k then -1 else 0

theorem mix_length (k n : Nat) : (mix k n).length = n := by simp [mix]
theorem mix_at (k n i : Nat) (h : i < (mix k n).length) : (mix k n)[i] = if i < k then -1 else 0 := by simp [mix]
theorem mix_full (n : Nat) : mix n n = List.replicate n (-1) := by
  refine List.ext_getElem (by simp [mix]) fun i h1 h2 => ?_
  rw [mix_at]
  simp at h2
  simp [h2]

/-- the row as it is made -/
theorem mix_made (w : World) (n : Nat) (t : TypeId) (h : n ≤ 1000) : IntRow w.heap.size (w.alloc (.cells (madeCells #[.int .i64 0] n) t)) (.slice (some ⟨w.heap.size, 0, none⟩) n n) (mix 0 n) := by
  have hblk := Go.Deep.blk_alloc_new w (.cells (madeCells #[.int .i64 0] n) t)
  refine .inr ⟨w.heap.size, 0, n, by rw [mix_length], Nat.le_refl _, by simp, by rw [mix_length]; exact Nat.le_refl _, by unfold maxLen; omega, fun j hj => ⟨?_, ?_⟩, fun j hj => ?_⟩
  · rw [cell_of_row _ _ _ _ _ _ hblk]
    simp [madeCells, hj]
  · unfold World.frozen?; rw [hblk]; simp
  · rw [cell_of_row _ _ _ _ _ _ hblk, mix_at]
    rw [mix_length] at hj
    simp [madeCells, hj, Nat.mod_one]

theorem setCells_size (g : Nat) : ∀ (vs : List Value) (o : Nat) (W : World), (W.setCells g o vs).heap.size = W.heap.size := by
  intro vs
  induction vs with
  | nil => intro o W; rfl
  | cons v r ih => intro o W; rw [World.setCells, ih]; simp [World.setCell]
theorem setCells_below (B g : Nat) (hB : B ≤ g) : ∀ (vs : List Value) (o : Nat) (W : World), Below B W (W.setCells g o vs) := by
  intro vs
  induction vs with
  | nil => intro o W; exact Below.refl _ _
  | cons v r ih => intro o W; rw [World.setCells]; exact (below_set (Below.refl B W) g o v hB).trans (ih _ _)

/-- m more are laid over it -/
theorem mix_copied {B g k n m : Nat} {w : World} (h : IntRow B w (.slice (some ⟨g, 0, none⟩) n n) (mix k n)) (hm : k + m ≤ n) : IntRow B (w.setCells g k (List.replicate m (.int .i64 (-1)))) (.slice (some ⟨g, 0, none⟩) n n) (mix (k + m) n) := by
  rcases h with ⟨h, _⟩ | ⟨g', off', cap', hv, hB, hg, hl, hc, hsp, hx⟩
  · cases h
  · rw [mix_length] at hv
    cases hv
    have hin := World.cell?_setCells_in g (List.replicate m (.int .i64 (-1))) k w (fun j hj => by
      simp at hj
      have := (hsp (k + j) (by omega)).1
      rwa [Nat.zero_add] at this)
    refine .inr ⟨g, 0, n, by rw [mix_length], hB, by rw [setCells_size]; exact hg, by rw [mix_length]; exact Nat.le_refl _, hc, fun j hj => ?_, fun j hj => ?_⟩
    · rw [World.frozen?_setCells]
      refine ⟨?_, (hsp j hj).2⟩
      by_cases hi : k ≤ j ∧ j < k + m
      · have := hin (j - k) (by simp; omega)
        rw [show k + (j - k) = 0 + j by omega] at this
        rw [this]; rfl
      · rw [World.cell?_setCells_out g _ _ _ _ (fun _ _ => by simp; omega)]
        exact (hsp j hj).1
    · rw [mix_at]
      rw [mix_length] at hj
      by_cases hi : k ≤ j ∧ j < k + m
      · have := hin (j - k) (by simp; omega)
        rw [show k + (j - k) = 0 + j by omega] at this
        rw [this, if_pos hi.2]
        simp
      · rw [World.cell?_setCells_out g _ _ _ _ (fun _ _ => by simp; omega)]
        have := hx j (by rw [mix_length]; exact hj)
        rw [this, mix_at]
        by_cases hk : j < k
        · rw [if_pos hk, if_pos (by omega)]
        · rw [if_neg hk, if_neg (by omega)]

end Go.Proofs.YtehffhhiikahbaaDoor
