/-
  The program's callOk answers clOk; it writes to nothing that was there.
-/
import Derived.Test.YtldiccheboipeaaHImpl1
namespace Go.Proofs.Ytldiccheboipeaa
open Go.RowKit

theorem sender_or {n : Nat} {s : Int} : (s == -1 || inR s 0 ((n : Int) - 1)) = inR s (-1) ((n : Int) - 1) := by
  rw [Bool.eq_iff_iff, Bool.or_eq_true, inR_true, inR_true, beq_iff_eq]
  omega

set_option maxHeartbeats 4000000 in
theorem implCallOk_any (vp vt vs : Value) (ms : List (Int × Int × List (Int × Int))) (c : Cl) (n : Nat) (w : World) (hp : MethsAt w vp ms) (ht : OpsAt w vt c.temps) (hs : OpsAt w vs c.stack) (_hn : n ≤ maxLen) (hops : ∀ i, (h : i < ms.length) → ms[i].2.2.length ≤ 1000000) :
    Calls Try.prog 93 #[.agg #[vp], .agg (clCells vt vs c), .int .i64 n] w fun e w' => e = .returned (.bool (clOk ms n c)) ∧ Below w.heap.size w w' := by
  unfold clCells
  obtain ⟨m, pc, temps, stack, sender, dead⟩ := c
  simp only [] at ht hs ⊢
  obtain ⟨ap, cp, rfl, hlp, hcp⟩ := hp
  obtain ⟨a1, k1, h1⟩ := ht.shape
  obtain ⟨a2, k2, h2⟩ := hs.shape
  subst h1 h2
  have hst : stack.length ≤ 9223372036854775807 := by obtain ⟨_, _, _, hx, _⟩ := hs; unfold maxLen at hx; omega
  have htt : temps.length ≤ 9223372036854775807 := by obtain ⟨_, _, _, hx, _⟩ := ht; unfold maxLen at hx; omega
  unfold maxLen at hlp _hn
  have hA : Below w.heap.size w ((w.alloc (.cells #[.slice ap ms.length cp] 25)).alloc (.cells #[.int .i64 m, .int .i64 pc, .slice a1 temps.length k1, .slice a2 stack.length k2, .int .i64 sender, .bool dead] 88)) := ((Below.refl _ _).alloc (Nat.le_refl _) _).alloc (by simp) _
  have bp : ((w.alloc (.cells #[.slice ap ms.length cp] 25)).alloc (.cells #[.int .i64 m, .int .i64 pc, .slice a1 temps.length k1, .slice a2 stack.length k2, .int .i64 sender, .bool dead] 88)).cell? ⟨w.heap.size, 0, none⟩ = some (.slice ap ms.length cp) := by simp [go_sem]
  have bc := six_new (w.alloc (.cells #[.slice ap ms.length cp] 25)) 88 (.int .i64 m) (.int .i64 pc) (.slice a1 temps.length k1) (.slice a2 stack.length k2) (.int .i64 sender) (.bool dead)
  simp only [World.size_alloc] at bc
  go_enter Try.func93, Try.ntmps93
  go_upto_region 1 with fail
  generalize (w.alloc (.cells #[.slice ap ms.length cp] 25)).alloc (.cells #[.int .i64 m, .int .i64 pc, .slice a1 temps.length k1, .slice a2 stack.length k2, .int .i64 sender, .bool dead] 88) = W0 at *
  obtain ⟨⟨x0, x1, x2, x3, x4, x5⟩, _⟩ := six_cells bc
  have hAd : ∀ k, Below w.heap.size w (W0.drewN k) := fun k => below_drewN hA k
  have zA := hA.size
  clear bc
  cases hm : inR m 0 ((ms.length : Int) - 1)
  · have HC : Hid (clOk ms n ⟨m, pc, temps, stack, sender, dead⟩ = false) := clOk_no1 hm
    clear hcp ht hs hops
    go_wp2_with (go_at_call 56; refine (isPlace_any _ _ _).mono ?_; rintro e w' ⟨rfl, hw⟩; obtain rfl := hw.symm; rw [hm])
    go_ret
    exact ⟨ret_bool HC.out.symm, hA⟩
  have hm2 := inR_true.1 hm
  obtain ⟨mn, hmn⟩ := Int.eq_ofNat_of_zero_le hm2.1
  subst hmn
  have hml : mn < ms.length := by omega
  have hmz : (mn : Int) < (ms.length : Int) := by omega
  obtain ⟨b, o, vo, rfl, c0, c1, c2, c3⟩ := hcp mn hml
  have d0 := cell_below hA c0
  have d1 := cell_below hA c1
  have d2 := cell_below hA c2
  obtain ⟨ao, co, hvo⟩ := c3.shape
  subst hvo
  have hol : ms[mn].2.2.length ≤ 1000000 := hops mn hml
  have HMK : Hid (clOk ms n ⟨mn, pc, temps, stack, sender, dead⟩ = _) := clOk_mk hml pc temps stack sender dead
  have H3 := fun (w' : World) (hb : Below w.heap.size w w') => c3.below hb
  clear hcp c0 c1 c2 c3 hops
  have hx := @sender_or n sender
  cases hse : inR sender (-1) ((n : Int) - 1)
  · have HC : Hid (clOk ms n ⟨mn, pc, temps, stack, sender, dead⟩ = false) := by
      have := HMK.out
      rw [hse] at this
      show _ = _
      simpa using this
    rw [hse] at hx
    have HX : Hid ((sender == -1 || inR sender 0 ((n : Int) - 1)) = false) := hx
    clear ht hs H3 hx
    go_wp2_with (first | (go_at_call 56; refine (isPlace_any _ _ _).mono ?_; rintro e w' ⟨rfl, hw⟩; obtain rfl := hw.symm; rw [hm]) | (go_at_call 129; refine (implIsCallOrNone_any _ _ _).mono ?_; rintro e w' ⟨rfl, hw⟩; obtain rfl := hw.symm; rw [HX.out]))
    go_ret
    exact ⟨ret_bool HC.out.symm, hA⟩
  rw [hse] at hx
  have HX : Hid ((sender == -1 || inR sender 0 ((n : Int) - 1)) = true) := hx
  clear hx
  have hol2 : ((ms[mn].2.2.length : Nat) : Int) ≤ 1000000 := by omega
  have hpe : ((ms[mn].2.2.length : Nat) : Int) + 1 - 1 = (ms[mn].2.2.length : Nat) := by omega
  go_upto_region 4 with (first | (go_at_call 56; refine (isPlace_any _ _ _).mono ?_; rintro e w' ⟨rfl, hw⟩; obtain rfl := hw.symm; rw [hm]) | (go_at_call 129; refine (implIsCallOrNone_any _ _ _).mono ?_; rintro e w' ⟨rfl, hw⟩; obtain rfl := hw.symm; rw [HX.out]))
  have hB := hA.alloc zA (.cells #[.int .i64 ms[mn].1, .int .i64 ms[mn].2.1, .slice ao ms[mn].2.2.length co] 83)
  have hW := (Below.refl W0.heap.size W0).alloc (Nat.le_refl _) (.cells #[.int .i64 ms[mn].1, .int .i64 ms[mn].2.1, .slice ao ms[mn].2.2.length co] 83)
  have y1 := cell_below hW x1
  have y2 := cell_below hW x2
  have y3 := cell_below hW x3
  have y4 := cell_below hW x4
  have y5 := cell_below hW x5
  have z1 : (W0.alloc (.cells #[.int .i64 ms[mn].1, .int .i64 ms[mn].2.1, .slice ao ms[mn].2.2.length co] 83)).cell? ⟨W0.heap.size, 1, none⟩ = some (.int .i64 ms[mn].2.1) := by simp [go_sem]
  have z2 : (W0.alloc (.cells #[.int .i64 ms[mn].1, .int .i64 ms[mn].2.1, .slice ao ms[mn].2.2.length co] 83)).cell? ⟨W0.heap.size, 2, none⟩ = some (.slice ao ms[mn].2.2.length co) := by simp [go_sem]
  generalize W0.alloc (.cells #[.int .i64 ms[mn].1, .int .i64 ms[mn].2.1, .slice ao ms[mn].2.2.length co] 83) = W1 at *
  have ht1 := ht.below hB
  have hs1 := hs.below hB
  clear x0 x1 x2 x3 x4 x5 bp hA hAd zA d0 d1 d2 H3 HX hm hm2 hW ht hs
  generalize W0.heap.size = bm at *
  generalize ms[mn].2.2.length = no at *
  generalize ms[mn].2.1 = T at *
  generalize ms[mn].1 = A at *
  cases hpc : inR pc 0 (no : Int)
  · have HC : Hid (clOk ms n ⟨mn, pc, temps, stack, sender, dead⟩ = false) := by
      have := HMK.out
      show _ = _
      rw [this]
      simp [hpc]
    clear ht1 hs1 HMK
    go_wp2_with (go_at_call 56; refine (isPlace_any _ _ _).mono ?_; rintro e w' ⟨rfl, hw⟩; obtain rfl := hw.symm; rw [hpe, hpc])
    go_ret
    exact ⟨ret_bool HC.out.symm, hB⟩
  by_cases hT : ¬ (temps.length : Int) = T
  · have HC : Hid (clOk ms n ⟨mn, pc, temps, stack, sender, dead⟩ = false) := by
      have := HMK.out
      show _ = _
      rw [this]
      simp [hT]
    clear ht1 hs1 HMK
    go_wp2_with (go_at_call 56; refine (isPlace_any _ _ _).mono ?_; rintro e w' ⟨rfl, hw⟩; obtain rfl := hw.symm; rw [hpe, hpc])
    go_ret
    exact ⟨ret_bool HC.out.symm, hB⟩
  have hT := Decidable.not_not.1 hT
  subst hT
  by_cases h6 : ¬ stack.length ≤ 6
  · have h6' : 6 < (stack.length : Int) := by omega
    have HC : Hid (clOk ms n ⟨mn, pc, temps, stack, sender, dead⟩ = false) := by
      have := HMK.out
      show _ = _
      rw [this]
      simp [h6]
    clear ht1 hs1 HMK
    go_wp2_with (go_at_call 56; refine (isPlace_any _ _ _).mono ?_; rintro e w' ⟨rfl, hw⟩; obtain rfl := hw.symm; rw [hpe, hpc])
    go_ret
    exact ⟨ret_bool HC.out.symm, hB⟩
  have h6 := Decidable.not_not.1 h6
  have h6' : (stack.length : Int) ≤ 6 := by omega
  have HM2 : Hid (clOk ms n ⟨mn, pc, temps, stack, sender, dead⟩ = (valsOk n temps && valsOk n stack && (!dead || (sender == -1 && stack.length == 0)))) := by
    have := HMK.out
    show _ = _
    rw [this]
    simp [hpc, h6, hse]
  clear HMK
  have FIN : Hid ((!dead || (sender == -1 && stack.length == 0)) = true → clOk ms n ⟨mn, pc, temps, stack, sender, dead⟩ = (valsOk n temps && valsOk n stack)) := fun h => by rw [HM2.out, h, Bool.and_true]
  have BAD : Hid ((!dead || (sender == -1 && stack.length == 0)) = false → clOk ms n ⟨mn, pc, temps, stack, sender, dead⟩ = false) := fun h => by rw [HM2.out, h, Bool.and_false]
  clear HM2
  have VT := implValsOk_any _ _ (n : Int) _ ht1
  have HV : Hid (∀ w', Below W1.heap.size W1 w' → Calls Try.prog 89 #[.slice a2 stack.length k2, .int .i64 n] w' fun e w2 => e = .returned (.bool (valsOk n stack)) ∧ Below w'.heap.size w' w2) := fun w' hb => implValsOk_any _ _ (n : Int) _ (hs1.below hb)
  have HT : Hid (Calls Try.prog 89 #[.slice a1 temps.length k1, .int .i64 n] W1 fun e w2 => e = .returned (.bool (valsOk n temps)) ∧ Below W1.heap.size W1 w2) := VT
  clear VT ht1 hs1
  have zB := hB.size
  cases hd : dead
  · subst hd
    have HF : Hid (clOk ms n ⟨mn, pc, temps, stack, sender, false⟩ = (valsOk n temps && valsOk n stack)) := FIN.out rfl
    clear FIN BAD
    obtain ⟨vt1, hvt1⟩ : ∃ r, valsOk n temps = r := ⟨_, rfl⟩
    have HVT : Hid (valsOk n temps = vt1) := hvt1
    clear hvt1
    cases vt1
    · go_wp2_with (first | (go_at_call 56; refine (isPlace_any _ _ _).mono ?_; rintro e w' ⟨rfl, hw⟩; obtain rfl := hw.symm; rw [hpe, hpc]) | (go_at_call 89; refine HT.out.mono ?_; rintro e w2 ⟨rfl, hb2⟩; rw [HVT.out]))
      go_ret
      exact ⟨ret_bool (by rw [HF.out, HVT.out, Bool.false_and]), hB.trans (hb2.mono zB)⟩
    · go_wp2_with (first | (go_at_call 56; refine (isPlace_any _ _ _).mono ?_; rintro e w' ⟨rfl, hw⟩; obtain rfl := hw.symm; rw [hpe, hpc]) | (go_at_call 89; have hh := hb2; clear hh; refine (HV.out _ hb2).mono ?_; rintro e w3 ⟨rfl, hb3⟩) | (go_at_call 89; refine HT.out.mono ?_; rintro e w2 ⟨rfl, hb2⟩; rw [HVT.out]; have y3w := cell_below hb2 y3; have zb2 := hb2.size))
      go_ret
      exact ⟨ret_bool (by rw [HF.out, HVT.out, Bool.true_and]), (hB.trans (hb2.mono zB)).trans (hb3.mono (Nat.le_trans zB zb2))⟩
  · subst hd
    by_cases h0 : ¬ stack.length = 0
    · have h0' : 0 < (stack.length : Int) := by omega
      have HC : Hid (clOk ms n ⟨mn, pc, temps, stack, sender, true⟩ = false) := BAD.out (by simp [h0])
      clear HT HV FIN BAD
      go_wp2_with (go_at_call 56; refine (isPlace_any _ _ _).mono ?_; rintro e w' ⟨rfl, hw⟩; obtain rfl := hw.symm; rw [hpe, hpc])
      go_ret
      exact ⟨ret_bool HC.out.symm, hB⟩
    obtain rfl : stack = [] := List.eq_nil_of_length_eq_zero (Decidable.not_not.1 h0)
    replace HV : Hid (∀ w', Below W1.heap.size W1 w' → Calls Try.prog 89 #[.slice a2 0 k2, .int .i64 n] w' fun e w2 => e = .returned (.bool (valsOk n [])) ∧ Below w'.heap.size w' w2) := HV
    replace y3 : W1.cell? ⟨w.heap.size + 1, 3, none⟩ = some (.slice a2 0 k2) := y3
    clear h0 h6 h6' hst
    by_cases h1 : ¬ sender = -1
    · have e1 : (sender == -1) = false := beq_eq_false_iff_ne.2 h1
      have e1' : (sender != -1) = true := by simp [h1]
      have HC : Hid (clOk ms n ⟨mn, pc, temps, [], sender, true⟩ = false) := BAD.out (by simp [h1])
      clear HT HV FIN BAD
      go_wp2_with (go_at_call 56; refine (isPlace_any _ _ _).mono ?_; rintro e w' ⟨rfl, hw⟩; obtain rfl := hw.symm; rw [hpe, hpc])
      go_ret
      exact ⟨ret_bool HC.out.symm, hB⟩
    have h1 := Decidable.not_not.1 h1
    subst h1
    have HF : Hid (clOk ms n ⟨mn, pc, temps, [], -1, true⟩ = (valsOk n temps && valsOk n [])) := FIN.out rfl
    clear FIN BAD
    obtain ⟨vt1, hvt1⟩ : ∃ r, valsOk n temps = r := ⟨_, rfl⟩
    have HVT : Hid (valsOk n temps = vt1) := hvt1
    clear hvt1
    cases vt1
    · go_wp2_with (first | (go_at_call 56; refine (isPlace_any _ _ _).mono ?_; rintro e w' ⟨rfl, hw⟩; obtain rfl := hw.symm; rw [hpe, hpc]) | (go_at_call 89; refine HT.out.mono ?_; rintro e w2 ⟨rfl, hb2⟩; rw [HVT.out]))
      go_ret
      exact ⟨ret_bool (by rw [HF.out, HVT.out, Bool.false_and]), hB.trans (hb2.mono zB)⟩
    · go_wp2_with (first | (go_at_call 56; refine (isPlace_any _ _ _).mono ?_; rintro e w' ⟨rfl, hw⟩; obtain rfl := hw.symm; rw [hpe, hpc]) | (go_at_call 89; have hh := hb2; clear hh; refine (HV.out _ hb2).mono ?_; rintro e w3 ⟨rfl, hb3⟩) | (go_at_call 89; refine HT.out.mono ?_; rintro e w2 ⟨rfl, hb2⟩; rw [HVT.out]; have y3w := cell_below hb2 y3; have zb2 := hb2.size))
      go_ret
      exact ⟨ret_bool (by rw [HF.out, HVT.out, Bool.true_and]), (hB.trans (hb2.mono zB)).trans (hb3.mono (Nat.le_trans zB zb2))⟩

end Go.Proofs.Ytldiccheboipeaa
