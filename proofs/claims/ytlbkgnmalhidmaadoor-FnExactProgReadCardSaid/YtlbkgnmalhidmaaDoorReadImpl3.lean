/-
  The program's kindOfWord and opOfLine answer the plain functions; they write to nothing that was there.
-/
import Derived.Test.YtlbkgnmalhidmaaDoorReadImpl2
import Derived.Test.YtlbkgnmalhidmaaDoorTextImpl2
namespace Go.Proofs.YtlbkgnmalhidmaaDoor
open Go.RowKit

/-- whether an operation is written so -/
def NoWord (l : List UInt8) : Prop := ∀ j : Nat, 1 ≤ j → j ≤ 18 → wordOf j ≠ l

set_option maxRecDepth 100000 in
set_option maxHeartbeats 1000000 in
theorem kindOfWord_any (S : ByteArray) (w : World) (ht : TabW w) :
    Calls Tryd.prog 56 #[.string S] w fun e w' => w' = w ∧ ∃ k : Nat, e = .returned (.int .i64 k) ∧ ((k = 0 ∧ NoWord S.toList) ∨ (1 ≤ k ∧ k ≤ 18 ∧ wordOf k = S.toList)) := by
  have HT : Hid (TabW w) := ht
  clear ht
  go_enter Tryd.func56, Tryd.ntmps56
  go_wp2
  go_loopg [3] 18 (fun g i wr => ∃ k : Nat, 1 ≤ k ∧ k ≤ 19 ∧ g = 19 - k ∧ i = .int .i64 k ∧ wr = w ∧ ∀ j : Nat, 1 ≤ j → j < k → wordOf j ≠ S.toList)
  case atStart => exact ⟨1, by omega, by omega, rfl, rfl, rfl, fun j h1 h2 => absurd h1 (by omega)⟩
  case round =>
    obtain ⟨k, hk1, hk, rfl, rfl, hwr, hall⟩ := hrel
    obtain rfl := hwr.symm
    have HA : Hid (∀ j : Nat, 1 ≤ j → j < k → wordOf j ≠ S.toList) := hall
    clear hall hwr
    by_cases hlt : k ≤ 18
    · have hkz : (k : Int) ≤ 18 := by omega
      have hkz' : (k : Int) < 19 := by omega
      have c0 := HT.out k (by omega)
      have HW : Hid ((bs (wordOf k)).toList = wordOf k) := bs_list _
      generalize bs (wordOf k) = A at *
      cases hq : (A.toList == S.toList)
      · have HQ : Hid (∀ j : Nat, 1 ≤ j → j < k + 1 → wordOf j ≠ S.toList) := fun j h1 h2 => by
          by_cases e : j = k
          · subst e; rw [← HW.out]; simpa using hq
          · exact HA.out j h1 (by omega)
        go_wp2
        go_roundg (19 - (k + 1))
        case measure => omega
        case rel => exact ⟨k + 1, by omega, by omega, rfl, by go_num, rfl, HQ.out⟩
      · have HQ : Hid (wordOf k = S.toList) := by show _ = _; rw [← HW.out]; simpa using hq
        go_wp2
        go_ret
        exact ⟨rfl, k, rfl, .inr ⟨hk1, hlt, HQ.out⟩⟩
    · obtain rfl : k = 19 := by omega
      go_wp2
      go_ret
      exact ⟨rfl, 0, rfl, .inl ⟨rfl, fun j h1 h2 => HA.out j h1 (by omega)⟩⟩

set_option maxRecDepth 100000 in
set_option maxHeartbeats 1000000 in
theorem opOfLine_any (S : ByteArray) (vn : Value) (nums : List Int) (B : Nat) (w : World) (ht : TabW w) (hn : IntRow B w vn nums) :
    Calls Tryd.prog 48 #[.string S, vn] w fun e w' => Below w.heap.size w w' ∧ ∃ (k : Nat) (a : Int) (b : Bool), e = .returned (.tuple #[.agg #[.int .i64 k, .int .i64 a], .bool b]) ∧
      (b = true → 1 ≤ k ∧ k ≤ 18 ∧ wordOf k = S.toList ∧ nums.length ≤ 1 ∧ a = nums.headD 0) ∧ (b = false → NoWord S.toList ∨ 1 < nums.length) := by
  obtain ⟨av, cv, hv, hlm⟩ := hn.slice
  subst hv
  unfold maxLen at hlm
  have HT : Hid (TabW w) := ht
  have HN : Hid (IntRow B w (.slice av nums.length cv) nums) := hn
  have hA : Below w.heap.size w (w.alloc (.cells #[.int .i64 0, .int .i64 0] 47)) := (Below.refl _ _).alloc (Nat.le_refl _) _
  clear ht hn
  go_enter Tryd.func48, Tryd.ntmps48
  go_wp2_with fail
  refine (kindOfWord_any S _ (HT.out.below hA)).mono ?_
  rintro e w1 ⟨hw1, k, rfl, hk⟩
  obtain rfl := hw1.symm
  rcases hk with ⟨rfl, hno⟩ | ⟨hk1, hk2, hkw⟩
  · have HNo : Hid (NoWord S.toList) := hno
    clear hno
    go_wp2_with (go_at_call 35; refine (isKind_any _ _).mono ?_; rintro e w' ⟨rfl, rfl⟩)
    refine bodyPost_ret (v := .tuple #[.agg #[.int .i64 ((0 : Nat) : Int), .int .i64 0], .bool false]) (by simp [results, Tryd.results48, go_sem]) rfl ?_
    exact ⟨hA, 0, 0, false, rfl, (fun h => by cases h), fun _ => .inl HNo.out⟩
  · have hin : inR (k : Int) 1 18 = true := inR_true.2 (by omega)
    have HW : Hid (wordOf k = S.toList) := hkw
    clear hkw
    by_cases h2 : 1 < nums.length
    · have h2' : (1 : Int) < (nums.length : Int) := by omega
      go_wp2_with (go_at_call 35; refine (isKind_any _ _).mono ?_; rintro e w' ⟨rfl, rfl⟩)
      refine bodyPost_ret (v := .tuple #[.agg #[.int .i64 ((0 : Nat) : Int), .int .i64 0], .bool false]) (by simp [results, Tryd.results48, go_sem]) rfl ?_
      exact ⟨hA, 0, 0, false, rfl, (fun h => by cases h), fun _ => .inr h2⟩
    have h2' : ¬ (1 : Int) < (nums.length : Int) := by omega
    by_cases h0 : nums.length = 0
    · have h0' : ((nums.length : Int) == 0) = true := by rw [beq_iff_eq]; omega
      have HE : Hid (nums = []) := List.length_eq_zero_iff.1 h0
      clear h0
      go_wp2_with (go_at_call 35; refine (isKind_any _ _).mono ?_; rintro e w' ⟨rfl, rfl⟩)
      refine bodyPost_ret (v := .tuple #[.agg #[.int .i64 (k : Int), .int .i64 0], .bool true]) (by simp [results, Tryd.results48, go_sem]) rfl ?_
      exact ⟨(Below.refl _ _).alloc (Nat.le_refl _) _, k, 0, true, rfl, (fun _ => ⟨hk1, hk2, HW.out, by rw [HE.out]; simp, by rw [HE.out]; rfl⟩), fun h => by cases h⟩
    · have h0' : ((nums.length : Int) == 0) = false := by rw [beq_eq_false_iff_ne]; omega
      obtain ⟨g, off, cap, hv, hBg, hgl⟩ := HN.out.form (by omega)
      cases hv
      have d0 := (HN.out.cell (i := 0) (by omega)).1
      have d0 : w.cell? ⟨g, off, none⟩ = some (.int .i64 nums[0]) := by simpa using d0
      have d1 := cell_below hA d0
      have HE : Hid (nums.headD 0 = nums[0]) := by
        show _ = _
        cases nums with
        | nil => simp at h0
        | cons x xs => rfl
      have h00 : (0 : Int) < (nums.length : Int) := by omega
      clear d0
      generalize nums[0] = n0 at *
      go_wp2_with (go_at_call 35; refine (isKind_any _ _).mono ?_; rintro e w' ⟨rfl, rfl⟩)
      refine bodyPost_ret (v := .tuple #[.agg #[.int .i64 (k : Int), .int .i64 n0], .bool true]) (by simp [results, Tryd.results48, go_sem]) rfl ?_
      exact ⟨(Below.refl _ _).alloc (Nat.le_refl _) _, k, n0, true, rfl, (fun _ => ⟨hk1, hk2, HW.out, by omega, HE.out.symm⟩), fun h => by cases h⟩

end Go.Proofs.YtlbkgnmalhidmaaDoor
