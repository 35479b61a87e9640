/-
  The model's l6Dec (below 100), l1Has, l1Words and l1Say answer the plain functions; they write to nothing that was there.
-/
import Derived.Test.YtlbkgnmalhidmaaDoorTextInj
import Derived.Test.YtlbkgnmalhidmaaDoorProg
import Derived.Deep.RegionHeld3
import Derived.Deep.RegionWith
import Derived.Laws.BytesArg
namespace Go.Proofs.YtlbkgnmalhidmaaDoor
open Go.RowKit

theorem ret_str' {x y : ByteArray} (h : x = y) : Ending.returned (.string x) = .returned (.string y) := by rw [h]

theorem conv_one (z : Int) (w : World) (b : Nat) (h : w.cell? ⟨b, 0, none⟩ = some (.int .u8 z)) : (convert 22 9 (.slice (some ⟨b, 0, none⟩) 1 1)).run Tryd.prog w = .ok (.string (bs [UInt8.ofNat z.toNat])) w := by
  refine run_convert_bytes_arg w 22 5 Tryd.underlying22 Tryd.underlying5 b 0 1 1 [z] rfl (fun i hi => ?_) 9 Tryd.underlying9
  obtain rfl : i = 0 := by omega
  exact h

set_option maxRecDepth 100000 in
theorem l6Dec_one (i : Nat) (h : i < 10) (w : World) :
    Calls Tryd.prog 29 #[.int .i64 i] w fun e w' => e = .returned (.string (bs (Lib.decDigits i))) ∧ w' = w.alloc (.cells #[.int .u8 (48 + i)] 5) := by
  have h0 : ¬ ((i : Int) < -9223372036854775807) := by omega
  have h1 : ¬ ((i : Int) < 0) := by omega
  have h2 : (i : Int) < 10 := by omega
  have hcv := conv_one (48 + i)
  have HE : Hid (bs [UInt8.ofNat (48 + (i : Int)).toNat] = bs (Lib.decDigits i)) := by
    show _ = _
    rw [Lib.decDigits_one h, show (48 + (i : Int)).toNat = 48 + i by omega]
  generalize bs [UInt8.ofNat (48 + (i : Int)).toNat] = D at *
  go_enter Tryd.func29, Tryd.ntmps29
  go_wp2
  go_ret
  exact ⟨ret_str' HE.out, rfl⟩

set_option maxRecDepth 100000 in
set_option maxHeartbeats 1000000 in
theorem l6Dec_two' (i q r : Nat) (hqr : i = 10 * q + r) (hq0 : 1 ≤ q) (hq9 : q < 10) (hr9 : r < 10) (w : World) :
    Calls Tryd.prog 29 #[.int .i64 i] w fun e w' => e = .returned (.string (bs (Lib.decDigits i))) ∧ Below w.heap.size w w' := by
  have h0 : ¬ ((i : Int) < -9223372036854775807) := by omega
  have h1 : ¬ ((i : Int) < 0) := by omega
  have h2 : ¬ (i : Int) < 10 := by omega
  have hq : IntKind.i64.wrap ((i : Int) / 10) = (q : Int) := by
    rw [show (i : Int) / 10 = q by omega, IntKind.wrap_i64]
    omega
  have HC : Hid (∀ w, Calls Tryd.prog 29 #[.int .i64 (IntKind.i64.wrap ((i : Int) / 10))] w fun e w' => e = .returned (.string (bs (Lib.decDigits q))) ∧ w' = w.alloc (.cells #[.int .u8 (48 + (q : Int))] 5)) := fun w => by
    rw [hq]
    exact l6Dec_one q hq9 w
  clear hq
  have hr : (i : Int).tmod 10 = (r : Int) := by rw [Int.tmod_eq_emod_of_nonneg (by omega)]; omega
  have hcv := conv_one (48 + (r : Int))
  have HE : Hid (bs (Lib.decDigits q) ++ bs [UInt8.ofNat (48 + (r : Int)).toNat] = bs (Lib.decDigits i)) := by
    show _ = _
    rw [bs_add, Lib.decDigits_two (i := i) (by omega) (by omega), Lib.decDigits_one hq9, show (48 + (r : Int)).toNat = 48 + r by omega, show i / 10 = q by omega, show i % 10 = r by omega]
    rfl
  have z1 : (bs (Lib.decDigits q)).size = 1 := by rw [bs_size, Lib.decDigits_one hq9]; rfl
  have z2 : (bs [UInt8.ofNat (48 + (r : Int)).toNat]).size = 1 := rfl
  generalize bs [UInt8.ofNat (48 + (r : Int)).toNat] = D at *
  generalize bs (Lib.decDigits q) = E at *
  have hr9' : (r : Int) < 10 := by omega
  have hw : IntKind.i64.wrap (48 + (r : Int)) = 48 + (r : Int) := by rw [IntKind.wrap_i64]; omega
  have hw8 : IntKind.u8.wrap (48 + (r : Int)) = 48 + (r : Int) := by rw [IntKind.wrap_u8]; omega
  have z3 : ¬ (9223372036854775807 < E.size + D.size) := by omega
  generalize bs (Lib.decDigits i) = R at *
  clear z1 z2 hqr
  go_enter Tryd.func29, Tryd.ntmps29
  go_wp2_with fail
  go_region_with (go_at_call 29; refine (HC.out _).mono ?_; rintro e w' ⟨rfl, rfl⟩)
  all_goals
    go_wp2
    go_ret
    exact ⟨ret_str' HE.out, (((Below.refl _ _).alloc (Nat.le_refl _) _).alloc (by simp) _).drew⟩

theorem l6Dec_any (n : Int) (h0 : 0 ≤ n) (h1 : n < 100) (w : World) :
    Calls Tryd.prog 29 #[.int .i64 n] w fun e w' => e = .returned (.string (bs (dec n))) ∧ Below w.heap.size w w' := by
  obtain ⟨i, rfl⟩ := Int.eq_ofNat_of_zero_le h0
  by_cases h : i < 10
  · refine (l6Dec_one i h w).mono ?_
    rintro e w' ⟨rfl, rfl⟩
    exact ⟨rfl, (Below.refl _ _).alloc (Nat.le_refl _) _⟩
  · exact l6Dec_two' i (i / 10) (i % 10) (by omega) (by omega) (by omega) (by omega) w

theorem hasA_false {k : Int} (h : hasA k = false) : (k == 1) = false ∧ (k == 2) = false ∧ (k == 3) = false ∧ (k == 7) = false ∧ (k == 8) = false ∧ (k == 9) = false ∧ (k == 13) = false ∧ (k == 14) = false := by
  unfold hasA at h
  rw [decide_eq_false_iff_not] at h
  refine ⟨?_, ?_, ?_, ?_, ?_, ?_, ?_, ?_⟩ <;> (rw [beq_eq_false_iff_ne]; omega)

theorem l1Has_any (k : Int) (w : World) :
    Calls Tryd.prog 44 #[.int .i64 k] w fun e w' => e = .returned (.bool (hasA k)) ∧ w' = w := by
  cases hk : hasA k
  · obtain ⟨e1, e2, e3, e7, e8, e9, e13, e14⟩ := hasA_false hk
    go_enter Tryd.func44, Tryd.ntmps44
    go_wp2
    go_ret
    exact ⟨rfl, rfl⟩
  · unfold hasA at hk
    rw [decide_eq_true_iff] at hk
    rcases hk with rfl | rfl | rfl | rfl | rfl | rfl | rfl | rfl
    all_goals
      go_enter Tryd.func44, Tryd.ntmps44
      go_wp2
      go_ret
      exact ⟨rfl, rfl⟩

def wordCells : Array Value := #[.string (bs (wordOf 0)), .string (bs (wordOf 1)), .string (bs (wordOf 2)), .string (bs (wordOf 3)), .string (bs (wordOf 4)), .string (bs (wordOf 5)), .string (bs (wordOf 6)), .string (bs (wordOf 7)), .string (bs (wordOf 8)), .string (bs (wordOf 9)),
  .string (bs (wordOf 10)), .string (bs (wordOf 11)), .string (bs (wordOf 12)), .string (bs (wordOf 13)), .string (bs (wordOf 14)), .string (bs (wordOf 15)), .string (bs (wordOf 16)), .string (bs (wordOf 17)), .string (bs (wordOf 18))]

theorem wordCells_at : ∀ n : Nat, n < 19 → wordCells[n]? = some (.string (bs (wordOf n))) := by
  intro n hn
  rcases (by omega : n = 0 ∨ n = 1 ∨ n = 2 ∨ n = 3 ∨ n = 4 ∨ n = 5 ∨ n = 6 ∨ n = 7 ∨ n = 8 ∨ n = 9 ∨ n = 10 ∨ n = 11 ∨ n = 12 ∨ n = 13 ∨ n = 14 ∨ n = 15 ∨ n = 16 ∨ n = 17 ∨ n = 18) with rfl | rfl | rfl | rfl | rfl | rfl | rfl | rfl | rfl | rfl | rfl | rfl | rfl | rfl | rfl | rfl | rfl | rfl | rfl <;> rfl

theorem words_cell (w : World) (t : TypeId) (n : Nat) (hn : n < 19) : (w.alloc (.cells wordCells t)).cell? ⟨w.heap.size, n, none⟩ = some (.string (bs (wordOf n))) := by
  have := wordCells_at n hn
  simp [go_sem, this]

theorem l1Words_any (w : World) :
    Calls Tryd.prog 32 #[] w fun e w' => e = .returned (.slice (some ⟨w.heap.size, 0, none⟩) 19 19) ∧ Below w.heap.size w w' ∧ ∀ n : Nat, n < 19 → w'.cell? ⟨w.heap.size, n, none⟩ = some (.string (bs (wordOf n))) := by
  go_enter Tryd.func32, Tryd.ntmps32
  go_wp2
  go_ret
  exact ⟨rfl, (Below.refl _ _).alloc (Nat.le_refl _) _, fun n hn => words_cell w _ n hn⟩

set_option maxRecDepth 100000 in
set_option maxHeartbeats 1000000 in
theorem l1Say_any (k a : Int) (hk1 : 1 ≤ k) (hk2 : k ≤ 18) (h0 : 0 ≤ a) (h1 : a < 100) (w : World) :
    Calls Tryd.prog 30 #[.agg #[.int .i64 k, .int .i64 a]] w fun e w' => e = .returned (.string (bs (wordOf k ++ tail k a))) ∧ Below w.heap.size w w' := by
  obtain ⟨n, rfl⟩ := Int.eq_ofNat_of_zero_le (show 0 ≤ k by omega)
  have hn19 : n < 19 := by omega
  have hA : Below w.heap.size w (w.alloc (.cells #[.int .i64 n, .int .i64 a] 47)) := (Below.refl _ _).alloc (Nat.le_refl _) _
  have q0 : (w.alloc (.cells #[.int .i64 n, .int .i64 a] 47)).cell? ⟨w.heap.size, 0, none⟩ = some (.int .i64 n) := by simp [go_sem]
  have q1 : (w.alloc (.cells #[.int .i64 n, .int .i64 a] 47)).cell? ⟨w.heap.size, 1, none⟩ = some (.int .i64 a) := by simp [go_sem]
  have hn19' : (n : Int) < 19 := by omega
  cases hk : hasA n
  · have HE : Hid (wordOf n ++ tail n a = wordOf n) := by show _ = _; simp [tail, hk]
    have HW : Hid (∀ w, Calls Tryd.prog 32 #[] w fun e w' => e = .returned (.slice (some ⟨w.heap.size, 0, none⟩) 19 19) ∧ Below w.heap.size w w' ∧ w'.cell? ⟨w.heap.size, n, none⟩ = some (.string (bs (wordOf n)))) := fun w => (l1Words_any w).mono fun e w' ⟨e1, e2, e3⟩ => ⟨e1, e2, e3 n hn19⟩
    go_enter Tryd.func30, Tryd.ntmps30
    go_wp2_with (go_at_call 44; refine (l1Has_any _ _).mono ?_; rintro e w' ⟨rfl, rfl⟩)
    generalize w.alloc (.cells #[.int .i64 n, .int .i64 a] 47) = W at *
    go_region_with (go_at_call 32; refine (HW.out _).mono ?_; rintro e wW ⟨rfl, hbW, cW⟩; have q2 := cell_below hbW q0; have cW : wW.cell? ⟨W.heap.size, n, none⟩ = some (.string (bs (wordOf n))) := cW)
    all_goals
      have hb3 : Below w.heap.size w wW := hA.drew.trans (hbW.mono hA.size)
      clear hbW
      go_wp2
      go_ret
      exact ⟨ret_str' (by rw [HE.out]), hb3⟩
  · have HE : Hid (bs (wordOf n) ++ bs [32] ++ bs (dec a) = bs (wordOf n ++ tail n a)) := by show _ = _; rw [bs_add, bs_add]; simp [tail, hk]
    have HD : Hid (∀ w, Calls _ _ _ w _) := fun w => l6Dec_any a h0 h1 w
    have s1 : (bs (wordOf n)).size ≤ 6 := by rw [bs_size]; exact wordOf_le _
    have s2 : (bs (dec a)).size ≤ 2 := by rw [bs_size]; exact dec_le h1
    have HW : Hid (∀ w, Calls Tryd.prog 32 #[] w fun e w' => e = .returned (.slice (some ⟨w.heap.size, 0, none⟩) 19 19) ∧ Below w.heap.size w w' ∧ w'.cell? ⟨w.heap.size, n, none⟩ = some (.string (bs (wordOf n)))) := fun w => (l1Words_any w).mono fun e w' ⟨e1, e2, e3⟩ => ⟨e1, e2, e3 n hn19⟩
    generalize bs (wordOf n) = A at *
    generalize bs (dec a) = B at *
    have z1 : ¬ (9223372036854775807 < A.size + 1) := by omega
    have z2 : ¬ (9223372036854775807 < A.size + 1 + B.size) := by omega
    clear s1 s2
    go_enter Tryd.func30, Tryd.ntmps30
    go_wp2_with (go_at_call 44; refine (l1Has_any _ _).mono ?_; rintro e w' ⟨rfl, rfl⟩)
    generalize w.alloc (.cells #[.int .i64 n, .int .i64 a] 47) = W at *
    go_region_with (first
        | (go_at_call 32; refine (HW.out _).mono ?_; rintro e wW ⟨rfl, hbW, cW⟩; (first | (have cW : wW.cell? ⟨W.heap.size, n, none⟩ = some (.string A) := cW) | skip); have q0 := cell_below hbW q0; have q1 := cell_below hbW q1; first | (have hR := hR.trans (hbW.mono hR.size)) | (have hR := hbW))
        | (go_at_call 29; refine (HD.out _).mono ?_; rintro e wD ⟨rfl, hbD⟩; have q0 := cell_below hbD q0; have q1 := cell_below hbD q1; (first | (have cW := cell_below hbD cW) | skip); first | (have hR := hR.trans (hbD.mono hR.size)) | (have hR := hbD)))
    all_goals
      have hb3 := hA.drew.trans (hR.mono hA.size)
      clear hR
      go_wp2
      go_ret
      exact ⟨ret_str' HE.out, hb3⟩

end Go.Proofs.YtlbkgnmalhidmaaDoor
