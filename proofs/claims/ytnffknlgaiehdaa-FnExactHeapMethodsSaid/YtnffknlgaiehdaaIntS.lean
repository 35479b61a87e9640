/-
  Rows of numbers, as the exact laws treat them: eqIntS at two rows of the same numbers, markIntS, heldIntS.
-/
import Derived.Test.YtnffknlgaiehdaaInts
import Derived.Test.YtnffknlgaiehdaaProg
import Derived.BigQuiet
import Derived.Deep.QuietTactic
namespace Go.Proofs.Ytnffknlgaiehdaa
open Go.RowKit

theorem below_drewN3 {B : Nat} {a w : World} (h : Below B a w) : ∀ n, Below B a (w.drewN n)
  | 0 => h
  | n + 1 => by
    have := below_drewN3 h n
    exact ⟨this.os, this.tape, this.output, this.size, this.block⟩

/-- k, k + 1 and so on, n in all -/
def seqI (k : Int) (n : Nat) : List Int := (List.range n).map fun i : Nat => k + (i : Int)

theorem seqI_length (k : Int) (n : Nat) : (seqI k n).length = n := by simp [seqI]
theorem seqI_at (k : Int) (n i : Nat) (h : i < (seqI k n).length) : (seqI k n)[i] = k + i := by simp [seqI]

set_option maxRecDepth 100000 in
set_option maxHeartbeats 1000000 in
theorem eqIntS_same (B B' : Nat) (v v' : Value) (xs : List Int) (w : World) (h : IntRow B w v xs) (h' : IntRow B' w v' xs) :
    Calls Try.prog 22 #[v, v'] w fun e w' => e = .returned (.bool true) ∧ Below w.heap.size w w' := by
  obtain ⟨a, c, rfl, hl⟩ := h.slice
  obtain ⟨a', c', rfl, _⟩ := h'.slice
  unfold maxLen at hl
  go_enter Try.func22, Try.ntmps22
  go_wp2
  go_loopg [5] xs.length (fun g i wr => ∃ k : Nat, k ≤ xs.length ∧ g = xs.length - k ∧ i = .int .i64 k ∧ Below w.heap.size w wr)
  case atStart => exact ⟨0, Nat.zero_le _, rfl, rfl, Below.refl _ _⟩
  case round =>
    obtain ⟨k, hk, rfl, rfl, hb⟩ := hrel
    by_cases hlt : k < xs.length
    · obtain ⟨g1, o1, c1, e1, _⟩ := h.form (by omega)
      obtain ⟨g2, o2, c2, e2, _⟩ := h'.form (by omega)
      obtain rfl : a = some ⟨g1, o1, none⟩ := by injection e1
      clear e1
      obtain rfl : a' = some ⟨g2, o2, none⟩ := by injection e2
      clear e2
      have d1 := ((h.below hb).cell hlt).1
      have d2 := ((h'.below hb).cell hlt).1
      have hkz : (k : Int) < (xs.length : Int) := by omega
      go_wp2
      go_quiet (fail)
      go_wp2
      go_roundg (xs.length - (k + 1))
      case measure => omega
      case rel => exact ⟨k + 1, by omega, rfl, by go_num, below_drewN3 hb _⟩
    · obtain rfl : k = xs.length := by omega
      go_wp2
      go_ret
      exact ⟨rfl, hb⟩

set_option maxRecDepth 100000 in
set_option maxHeartbeats 1000000 in
theorem markIntS_any (B : Nat) (v : Value) (xs : List Int) (w : World) (h : IntRow B w v xs) (hx : xs.length ≤ 100) :
    Calls Try.prog 23 #[v, .int .i64 1] w fun e w' => e = .returned (.int .i64 (1 + (xs.length : Int))) ∧ IntRow B w' v (seqI 1 xs.length) ∧ w.grownBy w' v.ownBlock := by
  obtain ⟨a, c, rfl, hl⟩ := h.slice
  unfold maxLen at hl
  go_enter Try.func23, Try.ntmps23
  go_wp2
  go_loopg [1, 5] xs.length (fun g kv i wr => ∃ (k : Nat) (ys : List Int), k ≤ xs.length ∧ g = xs.length - k ∧ i = .int .i64 k ∧ kv = .int .i64 (1 + (k : Int)) ∧ ys.length = xs.length ∧ IntRow B wr (.slice a xs.length c) ys ∧ (∀ j, (hj : j < ys.length) → j < k → ys[j] = 1 + (j : Int)) ∧ w.grownBy wr (Value.slice a xs.length c).ownBlock)
  case atStart => exact ⟨0, xs, Nat.zero_le _, rfl, rfl, rfl, rfl, h, fun j _ hj => absurd hj (Nat.not_lt_zero _), ⟨rfl, rfl, rfl, Nat.le_refl _, fun _ _ _ => rfl⟩⟩
  case round =>
    obtain ⟨k, ys, hk, rfl, rfl, rfl, hyl, hrow, hys, hg⟩ := hrel
    have HY : Hid (∀ j, (hj : j < ys.length) → j < k → ys[j] = 1 + (j : Int)) := hys
    clear hys
    by_cases hlt : k < xs.length
    · obtain ⟨g1, o1, c1, e1, _⟩ := hrow.form (by omega)
      obtain rfl : a = some ⟨g1, o1, none⟩ := by injection e1
      clear e1
      obtain ⟨d1, f1⟩ := hrow.cell (i := k) (by omega)
      have hset := hrow.set k (by omega) (1 + (k : Int))
      have hkz : (k : Int) < (xs.length : Int) := by omega
      have hg2 : w.grownBy (wr.setCell ⟨g1, o1 + k, none⟩ (.int .i64 (1 + (k : Int)))) (some g1) := ⟨hg.os, hg.tape, hg.output, by simp [World.setCell]; exact hg.size, fun q hq hn => (Below.heap_setCell _ _ _ _ (fun e => hn (by rw [e]))).trans (hg.block q hq hn)⟩
      go_wp2
      go_roundg (xs.length - (k + 1))
      case measure => omega
      case rel => exact ⟨k + 1, ys.set k (1 + (k : Int)), by omega, rfl, by go_num, by rw [show 1 + (k : Int) + 1 = 1 + ((k + 1 : Nat) : Int) by omega], by simpa using hyl, hset, fun j hj hjk => by
          rw [List.length_set] at hj
          by_cases e : j = k
          · subst e; simp
          · rw [List.getElem_set_ne (fun q => e q.symm)]; exact HY.out j hj (by omega), hg2⟩
    · obtain rfl : k = xs.length := by omega
      have hE : ys = seqI 1 xs.length := List.ext_getElem (by rw [seqI_length]; exact hyl) fun j h1 h2 => by rw [seqI_at, HY.out j h1 (by omega)]
      subst hE
      go_wp2
      go_ret
      exact ⟨rfl, hrow, hg⟩

set_option maxRecDepth 100000 in
set_option maxHeartbeats 1000000 in
theorem heldIntS_any (B : Nat) (v : Value) (n : Nat) (w : World) (h : IntRow B w v (seqI 1 n)) (hx : n ≤ 100) :
    Calls Try.prog 24 #[v, .int .i64 1] w fun e w' => e = .returned (.int .i64 (1 + (n : Int))) ∧ w' = w := by
  obtain ⟨a, c, rfl, hl⟩ := h.slice
  rw [seqI_length] at h hl ⊢
  go_enter Try.func24, Try.ntmps24
  go_wp2
  go_loopg [1, 5] n (fun g kv i wr => ∃ k : Nat, k ≤ n ∧ g = n - k ∧ i = .int .i64 k ∧ kv = .int .i64 (1 + (k : Int)) ∧ wr = w)
  case atStart => exact ⟨0, Nat.zero_le _, rfl, rfl, rfl, rfl⟩
  case round =>
    obtain ⟨k, hk, rfl, rfl, rfl, hw⟩ := hrel
    subst hw
    by_cases hlt : k < n
    · obtain ⟨g1, o1, c1, e1, _⟩ := h.form (by rw [seqI_length]; omega)
      obtain rfl : a = some ⟨g1, o1, none⟩ := by injection e1
      clear e1
      have d1 := (h.cell (i := k) (by rw [seqI_length]; exact hlt)).1
      rw [seqI_at] at d1
      have hkz : (k : Int) < (n : Int) := by omega
      go_wp2
      go_roundg (n - (k + 1))
      case measure => omega
      case rel => exact ⟨k + 1, by omega, rfl, by go_num, by rw [show 1 + (k : Int) + 1 = 1 + ((k + 1 : Nat) : Int) by omega], rfl⟩
    · obtain rfl : k = n := by omega
      go_wp2
      go_ret
      exact ⟨rfl, rfl⟩

end Go.Proofs.Ytnffknlgaiehdaa
