/-
  The model's l6Dec (below 1000) and SaidText answer the plain text; they write to nothing that was there.
-/
import Derived.Test.YtileneepajcbgaaDoorProg
import Derived.Test.YtileneepajcbgaaDoorTextPlain
import Derived.Deep.RegionHeld3
import Derived.Deep.RegionWith
import Derived.Laws.BytesArg

namespace Go.Proofs.YtileneepajcbgaaDoor
open Go.RowKit
theorem ret_s' {x y : ByteArray} (h : x = y) : Ending.returned (.string x) = .returned (.string y) := by rw [h]
theorem conv_one3 (z : Int) (w : World) (b : Nat) (h : w.cell? ⟨b, 0, none⟩ = some (.int .u8 z)) : (convert 22 9 (.slice (some ⟨b, 0, none⟩) 1 1)).run Tryd.prog w = .ok (.string (bs [UInt8.ofNat z.toNat])) w := by
  refine run_convert_bytes_arg w 22 5 Tryd.underlying22 Tryd.underlying5 b 0 1 1 [z] rfl (fun i hi => ?_) 9 Tryd.underlying9
  obtain rfl : i = 0 := by omega
  exact h
set_option maxRecDepth 100000 in
theorem l6Dec_one3 (i : Nat) (h : i < 10) (w : World) :
    Calls Tryd.prog 17 #[.int .i64 i] w fun e w' => e = .returned (.string (bs (Lib.decDigits i))) ∧ Below w.heap.size w w' := by
  have h0 : ¬ ((i : Int) < -9223372036854775807) := by omega
  have h1 : ¬ ((i : Int) < 0) := by omega
  have h2 : (i : Int) < 10 := by omega
  have hcv := conv_one3 (48 + i)
  have HE : Hid (bs [UInt8.ofNat (48 + (i : Int)).toNat] = bs (Lib.decDigits i)) := by
    show _ = _
    rw [Lib.decDigits_one h, show (48 + (i : Int)).toNat = 48 + i by omega]
  generalize bs [UInt8.ofNat (48 + (i : Int)).toNat] = D at *
  go_enter Tryd.func17, Tryd.ntmps17
  go_wp2
  go_ret
  exact ⟨ret_s' HE.out, (Below.refl _ _).alloc (Nat.le_refl _) _⟩
theorem undrew {w w' : World} (h : Below w.drew.heap.size w.drew w') : Below w.heap.size w w' := ⟨h.os, h.tape, h.output, h.size, h.block⟩
set_option maxRecDepth 100000 in
set_option maxHeartbeats 1000000 in
theorem l6Dec_step3 (i q r : Nat) (hqr : i = 10 * q + r) (hq0 : 1 ≤ q) (hq9 : q < 100) (hr9 : r < 10) (HQ : ∀ w, Calls Tryd.prog 17 #[.int .i64 q] w fun e w' => e = .returned (.string (bs (Lib.decDigits q))) ∧ Below w.heap.size w w') (w : World) :
    Calls Tryd.prog 17 #[.int .i64 i] w fun e w' => e = .returned (.string (bs (Lib.decDigits i))) ∧ Below w.heap.size w w' := by
  have h0 : ¬ ((i : Int) < -9223372036854775807) := by omega
  have h1 : ¬ ((i : Int) < 0) := by omega
  have h2 : ¬ (i : Int) < 10 := by omega
  have hq : IntKind.i64.wrap ((i : Int) / 10) = (q : Int) := by
    rw [show (i : Int) / 10 = q by omega, IntKind.wrap_i64]
    omega
  have HC : Hid (∀ w, Calls Tryd.prog 17 #[.int .i64 (IntKind.i64.wrap ((i : Int) / 10))] w fun e w' => e = .returned (.string (bs (Lib.decDigits q))) ∧ Below w.heap.size w w') := fun w => by
    rw [hq]
    exact HQ w
  clear hq HQ
  have hr : (i : Int).tmod 10 = (r : Int) := by rw [Int.tmod_eq_emod_of_nonneg (by omega)]; omega
  have hcv := conv_one3 (48 + (r : Int))
  have HE : Hid (bs (Lib.decDigits q) ++ bs [UInt8.ofNat (48 + (r : Int)).toNat] = bs (Lib.decDigits i)) := by
    show _ = _
    rw [bs_add, Lib.decDigits.eq_1 i, dif_neg (by omega), show (48 + (r : Int)).toNat = 48 + r by omega, show i / 10 = q by omega, show i % 10 = r by omega]
  have z1 : (bs (Lib.decDigits q)).size ≤ 3 := by rw [bs_size]; have := dec3_le (n := (q : Int)) (by omega); unfold dec at this; simpa using this
  have z2 : (bs [UInt8.ofNat (48 + (r : Int)).toNat]).size = 1 := rfl
  generalize bs [UInt8.ofNat (48 + (r : Int)).toNat] = D at *
  generalize bs (Lib.decDigits q) = E at *
  have hr9' : (r : Int) < 10 := by omega
  have hw : IntKind.i64.wrap (48 + (r : Int)) = 48 + (r : Int) := by rw [IntKind.wrap_i64]; omega
  have hw8 : IntKind.u8.wrap (48 + (r : Int)) = 48 + (r : Int) := by rw [IntKind.wrap_u8]; omega
  have z3 : ¬ (9223372036854775807 < E.size + D.size) := by omega
  generalize bs (Lib.decDigits i) = R at *
  clear z1 z2 hqr
  go_enter Tryd.func17, Tryd.ntmps17
  go_wp2_with fail
  have hq0 : (w.alloc (.cells #[.int .u8 (48 + (r : Int))] 5)).drew.cell? ⟨w.heap.size, 0, none⟩ = some (.int .u8 (48 + (r : Int))) := by simp [go_sem]
  have hA : Below w.heap.size w (w.alloc (.cells #[.int .u8 (48 + (r : Int))] 5)).drew := ((Below.refl _ _).alloc (Nat.le_refl _) _).drew
  go_region_with (go_at_call 17; refine (HC.out _).mono ?_; rintro e w' ⟨rfl, hb⟩; (first | (have hq1 := cell_below hb hq0; have hb := hA.trans (hb.mono hA.size)) | skip))
  all_goals
    go_wp2
    go_ret
    first
      | exact ⟨ret_s' HE.out, hb⟩
      | exact ⟨ret_s' HE.out, (undrew hb).alloc hb.size _⟩
theorem l6Dec3_any (n : Int) (h0 : 0 ≤ n) (h1 : n < 1000) (w : World) :
    Calls Tryd.prog 17 #[.int .i64 n] w fun e w' => e = .returned (.string (bs (dec n))) ∧ Below w.heap.size w w' := by
  obtain ⟨i, rfl⟩ := Int.eq_ofNat_of_zero_le h0
  have hd : dec (i : Int) = Lib.decDigits i := by unfold dec; rw [Int.toNat_natCast]
  rw [hd]
  have two : ∀ i : Nat, i < 100 → ∀ w, Calls Tryd.prog 17 #[.int .i64 i] w fun e w' => e = .returned (.string (bs (Lib.decDigits i))) ∧ Below w.heap.size w w' := fun i hi w => by
    by_cases h : i < 10
    · exact l6Dec_one3 i h w
    · exact l6Dec_step3 i (i / 10) (i % 10) (by omega) (by omega) (by omega) (by omega) (fun w => l6Dec_one3 _ (by omega) w) w
  by_cases h : i < 100
  · exact two i h w
  · exact l6Dec_step3 i (i / 10) (i % 10) (by omega) (by omega) (by omega) (by omega) (fun w => two _ (by omega) w) w
set_option maxHeartbeats 2000000 in
set_option maxRecDepth 100000 in
theorem specSaidText_any (v : Value) (l : List (Int × Int)) (w : World) (h : OpsAt w v l) (hn : l.length ≤ 2000000) (hf : ∀ x ∈ l, Few x) :
    Calls Tryd.prog 7 #[v] w fun e w' => e = .returned (.string (bs (saidText l))) ∧ Below w.heap.size w w' := by
  obtain ⟨a, cap, rfl, hl, hc⟩ := h
  clear hl
  have HF : Hid (∀ x ∈ l, Few x) := hf
  have hfl : ∀ k, (saidText (l.take k)).length ≤ 18000000 := fun k => by
    have := saidText_take_le (fun x hx => (hf x hx).2.2.2) k
    omega
  have HFL : Hid (∀ k, (saidText (l.take k)).length ≤ 18000000) := hfl
  clear hf hfl
  go_enter Tryd.func7, Tryd.ntmps7
  go_wp2
  go_loopg [3, 4] l.length (fun g d i wr => ∃ k : Nat, k ≤ l.length ∧ g = l.length - k ∧ d = .string (bs (saidText (l.take k))) ∧ i = .int .i64 k ∧ Below w.heap.size w wr)
  case atStart => exact ⟨0, Nat.zero_le _, rfl, rfl, rfl, Below.refl _ _⟩
  case round =>
    obtain ⟨k, hk, rfl, rfl, rfl, hb⟩ := hrel
    have hsz := hb.size
    by_cases hlt : k < l.length
    · obtain ⟨b, o, rfl, c0, c1⟩ := hc k hlt
      have d0 := cell_below hb c0
      have d1 := cell_below hb c1
      clear c0 c1 hc
      have hkz : (k : Int) < (l.length : Int) := by omega
      have hF := HF.out _ (List.getElem_mem hlt)
      have HQ : Hid (saidText (l.take (k + 1)) = saidText (l.take k) ++ (valText (l[k].1, l[k].2) ++ [59])) := saidText_snoc hlt
      have zT : (bs (saidText (l.take k))).size ≤ 18000000 := by rw [bs_size]; exact HFL.out k
      obtain ⟨x, hx⟩ : ∃ x, x = l[k].1 := ⟨_, rfl⟩
      obtain ⟨n, hn'⟩ : ∃ n, n = l[k].2 := ⟨_, rfl⟩
      have hF1 : 0 ≤ n ∧ n < 1000 := by rw [hn']; exact hF.2.2
      have hx02 : 0 ≤ x ∧ x ≤ 2 := by rw [hx]; exact ⟨hF.1, hF.2.1⟩
      rw [← hx] at d0 HQ
      rw [← hn'] at d1 HQ
      clear hx hn' hF
      have HV : Hid (∀ w, Calls Tryd.prog 17 #[.int .i64 n] w fun e w' => e = .returned (.string (bs (dec n))) ∧ Below w.heap.size w w') := fun w => l6Dec3_any n hF1.1 hF1.2 w
      have zV : (bs (dec n)).size ≤ 3 := by rw [bs_size]; exact dec3_le hF1.2
      have HT : Hid (bs (saidText (l.take (k + 1))) = bs (saidText (l.take k)) ++ bs (valText (x, n) ++ [59])) := by show _ = _; rw [HQ.out, bs_add]
      clear HQ
      have HS : Hid (bs [59] = ⟨#[59]⟩) := rfl
      by_cases e0 : x = 0
      · subst e0
        have HE : Hid (bs (saidText (l.take k)) ++ bs [110, 111, 110, 101, 59] = bs (saidText (l.take (k + 1)))) := by show _ = _; rw [HT.out]; rfl
        generalize bs (saidText (l.take k)) = S at *
        have z1 : ¬ (9223372036854775807 < S.size + 5) := by omega
        clear HT
        go_wp2
        go_roundg (l.length - (k + 1))
        case measure => omega
        case rel => exact ⟨k + 1, by omega, rfl, congrArg Value.string HE.out, by go_num, hb⟩
      · by_cases e1 : x = 1
        · subst e1
          have HE : Hid (bs (saidText (l.take k)) ++ bs (dec n) ++ bs [59] = bs (saidText (l.take (k + 1)))) := by show _ = _; rw [HT.out, bs_add, bs_add, bs_add]; simp [valText]
          clear HT
          generalize bs (saidText (l.take k)) = S at *
          generalize bs (dec n) = D at *
          have z1 : ¬ (9223372036854775807 < S.size + D.size) := by omega
          have z2 : ¬ (9223372036854775807 < S.size + D.size + 1) := by omega
          clear zT zV
          go_wp2_with (go_at_call 17; refine (HV.out _).mono ?_; rintro e w1 ⟨rfl, hb1⟩)
          have hb2 : Below w.heap.size w w1 := hb.trans (hb1.mono hsz)
          go_wp2
          go_roundg (l.length - (k + 1))
          case measure => omega
          case rel => exact ⟨k + 1, by omega, rfl, congrArg Value.string HE.out, by go_num, hb2⟩
        · obtain rfl : x = 2 := by omega
          have HE : Hid (bs (saidText (l.take k)) ++ bs [99, 97, 108, 108, 32] ++ bs (dec n) ++ bs [59] = bs (saidText (l.take (k + 1)))) := by show _ = _; rw [HT.out, bs_add, bs_add, bs_add, bs_add]; simp [valText]
          clear HT
          generalize bs (saidText (l.take k)) = S at *
          generalize bs (dec n) = D at *
          have z0 : ¬ (9223372036854775807 < S.size + 5) := by omega
          have z1 : ¬ (9223372036854775807 < S.size + 5 + D.size) := by omega
          have z2 : ¬ (9223372036854775807 < S.size + 5 + D.size + 1) := by omega
          clear zT zV
          go_wp2_with (go_at_call 17; refine (HV.out _).mono ?_; rintro e w1 ⟨rfl, hb1⟩)
          have hb2 : Below w.heap.size w w1 := hb.trans (hb1.mono hsz)
          go_wp2
          go_roundg (l.length - (k + 1))
          case measure => omega
          case rel => exact ⟨k + 1, by omega, rfl, congrArg Value.string HE.out, by go_num, hb2⟩
    · obtain rfl : k = l.length := by omega
      clear hc
      go_wp2
      go_ret
      exact ⟨ret_s' (by rw [List.take_length]), hb⟩
end Go.Proofs.YtileneepajcbgaaDoor
