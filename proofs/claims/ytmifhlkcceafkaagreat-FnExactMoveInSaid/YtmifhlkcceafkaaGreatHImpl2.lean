/-
  The program's valOk, valsOk, saidOk, bornOk, codeOk and isCallOrNone answer the plain functions; they write to nothing that was there.
-/
import Derived.Test.YtmifhlkcceafkaaGreatImplOk
import Derived.Test.YtmifhlkcceafkaaGreatHSpecOk

namespace Go.Proofs.YtmifhlkcceafkaaGreat
open Go.RowKit
set_option maxHeartbeats 1000000 in
theorem implValOk_any (k a n : Int) (w : World) :
    Calls Tryz.prog 102 #[.agg #[.int .i64 k, .int .i64 a], .int .i64 n] w fun e w' => e = .returned (.bool (valOk n k a)) ∧ Below w.heap.size w w' := by
  have hB : ∀ o, Below w.heap.size w (w.alloc o) := fun o => (Below.refl _ _).alloc (Nat.le_refl _) _
  by_cases h1 : k = 1
  · subst h1
    go_enter Tryz.func102, Tryz.ntmps102
    go_wp2_with (go_at_call 92; refine (isPlace_any _ _ _).mono ?_; rintro e w' ⟨rfl, rfl⟩)
    go_ret
    exact ⟨rfl, hB _⟩
  have e1 : (k == 1) = false := beq_eq_false_iff_ne.2 h1
  by_cases h2 : k = 2
  · subst h2
    go_enter Tryz.func102, Tryz.ntmps102
    go_wp2_with (go_at_call 92; refine (isPlace_any _ _ _).mono ?_; rintro e w' ⟨rfl, rfl⟩)
    go_ret
    exact ⟨rfl, hB _⟩
  have e2 : (k == 2) = false := beq_eq_false_iff_ne.2 h2
  by_cases h0 : k = 0
  · subst h0
    go_enter Tryz.func102, Tryz.ntmps102
    by_cases ha : a = 0
    · go_wp2
      go_ret
      exact ⟨ret_bool (by simp [valOk, ha]), hB _⟩
    · go_wp2
      go_ret
      exact ⟨ret_bool (by simp [valOk, ha]), hB _⟩
  have e0 : (k == 0) = false := beq_eq_false_iff_ne.2 h0
  go_enter Tryz.func102, Tryz.ntmps102
  go_wp2
  go_ret
  exact ⟨ret_bool (by simp [valOk, h0, h1, h2]), hB _⟩
set_option maxHeartbeats 1000000 in
theorem implValsOk_any (v : Value) (l : List (Int × Int)) (n : Int) (w : World) (h : OpsAt w v l) :
    Calls Tryz.prog 93 #[v, .int .i64 n] w fun e w' => e = .returned (.bool (valsOk n l)) ∧ Below w.heap.size w w' := by
  obtain ⟨a, cap, rfl, hl, hc⟩ := h
  unfold maxLen at hl
  go_enter Tryz.func93, Tryz.ntmps93
  go_wp2
  go_loopg [9] l.length (fun g i wr => ∃ k : Nat, k ≤ l.length ∧ g = l.length - k ∧ i = .int .i64 k ∧ Below w.heap.size w wr ∧ ∀ j, (hj : j < l.length) → j < k → valOk n l[j].1 l[j].2 = true)
  case atStart => exact ⟨0, Nat.zero_le _, rfl, rfl, Below.refl _ _, fun j _ h => absurd h (Nat.not_lt_zero _)⟩
  case round =>
    obtain ⟨k, hk, rfl, rfl, hb, hall⟩ := hrel
    have H : Hid (∀ j, (hj : j < l.length) → j < k → valOk n l[j].1 l[j].2 = true) := hall
    clear hall
    by_cases hlt : k < l.length
    · obtain ⟨b, o, rfl, c0, c1⟩ := hc k hlt
      have d0 := cell_below hb c0
      have d1 := cell_below hb c1
      have hkz : (k : Int) < (l.length : Int) := by omega
      clear c0 c1
      obtain ⟨r, hr⟩ : ∃ r, valOk n l[k].1 l[k].2 = r := ⟨_, rfl⟩
      have HR : Hid (valOk n l[k].1 l[k].2 = r) := hr
      clear hr
      go_wp2_with fail
      refine (implValOk_any _ _ n _).mono ?_
      rintro e w1 ⟨rfl, hb1⟩
      have hb2 : Below w.heap.size w w1 := (hb.alloc hb.size _).trans (hb1.mono (by have := hb.size; simp; omega))
      rw [HR.out]
      clear hb hb1 d0 d1
      cases r
      · go_wp2
        go_ret
        exact ⟨ret_bool (valsOk_no hlt HR.out).symm, hb2⟩
      · go_wp2
        go_roundg (l.length - (k + 1))
        case measure => omega
        case rel =>
          refine ⟨k + 1, by omega, rfl, by go_num, hb2, fun j hj hjk => ?_⟩
          by_cases e : j = k
          · subst e; exact HR.out
          · exact H.out j hj (by omega)
    · obtain rfl : k = l.length := by omega
      go_wp2
      go_ret
      exact ⟨ret_bool (valsOk_yes (fun i hi => H.out i hi hi)).symm, hb⟩
theorem implBornOk_any (n : Int) (w : World) :
    Calls Tryz.prog 65 #[.int .i64 n] w fun e w' => e = .returned (.bool (inR n 1 30)) ∧ w' = w := by
  go_enter Tryz.func65, Tryz.ntmps65
  by_cases h : 1 ≤ n
  · go_wp2
    go_ret
    exact ⟨ret_bool (by rw [Bool.eq_iff_iff, inR_true, decide_eq_true_iff]; omega), rfl⟩
  · go_wp2
    go_ret
    exact ⟨ret_bool (by rw [eq_comm, inR_false]; omega), rfl⟩
theorem implIsCallOrNone_any (a n : Int) (w : World) :
    Calls Tryz.prog 64 #[.int .i64 a, .int .i64 n] w fun e w' => e = .returned (.bool (a == -1 || inR a 0 (n - 1))) ∧ w' = w := by
  by_cases h : a = -1
  · subst h
    go_enter Tryz.func64, Tryz.ntmps64
    go_wp2
    go_ret
    exact ⟨rfl, rfl⟩
  have e1 : (a == -1) = false := beq_eq_false_iff_ne.2 h
  go_enter Tryz.func64, Tryz.ntmps64
  go_wp2_with (go_at_call 92; refine (isPlace_any _ _ _).mono ?_; rintro e w' ⟨rfl, hw⟩; obtain rfl := hw.symm)
  go_ret
  exact ⟨ret_bool (by simp [e1]), rfl⟩
theorem implCodeOk_any (c a : Int) (w : World) :
    Calls Tryz.prog 67 #[.int .i64 c, .int .i64 a] w fun e w' => e = .returned (.bool (inR c 0 3 && ((c == 1) == (a == -1)))) ∧ w' = w := by
  by_cases h : 0 ≤ c
  · by_cases h3 : c ≤ 3
    · have hi : inR c 0 3 = true := inR_true.2 ⟨h, h3⟩
      rw [hi, Bool.true_and]
      go_enter Tryz.func67, Tryz.ntmps67
      go_wp2
      go_ret
      exact ⟨ret_bool (by first | rfl | simp), rfl⟩
    · have hi : inR c 0 3 = false := inR_false.2 (by omega)
      rw [hi, Bool.false_and]
      have h3' : 3 < c := by omega
      go_enter Tryz.func67, Tryz.ntmps67
      go_wp2
      go_ret
      exact ⟨rfl, rfl⟩
  · have hi : inR c 0 3 = false := inR_false.2 (by omega)
    rw [hi, Bool.false_and]
    have h' : c < 0 := by omega
    go_enter Tryz.func67, Tryz.ntmps67
    go_wp2
    go_ret
    exact ⟨rfl, rfl⟩
theorem implSaidOk_any (vp v : Value) (ms : List (Int × Int × List (Int × Int))) (l : List (Int × Int)) (w : World) (hp : MethsAt w vp ms) (h : OpsAt w v l) :
    Calls Tryz.prog 66 #[.agg #[vp], v] w fun e w' => e = .returned (.bool (valsOk ms.length l)) ∧ Below w.heap.size w w' := by
  obtain ⟨ap, cp, rfl, hlp, _⟩ := hp
  unfold maxLen at hlp
  have hB : ∀ o, Below w.heap.size w (w.alloc o) := fun o => (Below.refl _ _).alloc (Nat.le_refl _) _
  have hN : ∀ o, OpsAt (w.alloc o) v l := fun o => h.below (hB o)
  go_enter Tryz.func66, Tryz.ntmps66
  go_wp2_with (go_at_call 93; refine (implValsOk_any _ _ _ _ (hN _)).mono ?_; rintro e w1 ⟨rfl, hb1⟩)
  go_ret
  exact ⟨rfl, (hB _).trans (hb1.mono (by simp))⟩
end Go.Proofs.YtmifhlkcceafkaaGreat

/-
  The program's callOk answers clOk; it writes to nothing that was there.
-/
namespace Go.Proofs.YtmifhlkcceafkaaGreat
open Go.RowKit
theorem sender_or {n : Nat} {s : Int} : (s == -1 || inR s 0 ((n : Int) - 1)) = inR s (-1) ((n : Int) - 1) := by
  rw [Bool.eq_iff_iff, Bool.or_eq_true, inR_true, inR_true, beq_iff_eq]
  omega
set_option maxHeartbeats 4000000 in
theorem implCallOk_any (vp vt vs : Value) (ms : List (Int × Int × List (Int × Int))) (c : Cl) (n : Nat) (w : World) (hp : MethsAt w vp ms) (ht : OpsAt w vt c.temps) (hs : OpsAt w vs c.stack) (_hn : n ≤ maxLen) (hops : ∀ i, (h : i < ms.length) → ms[i].2.2.length ≤ 1000000) :
    Calls Tryz.prog 68 #[.agg #[vp], .agg (clCells vt vs c), .int .i64 n] w fun e w' => e = .returned (.bool (clOk ms n c)) ∧ Below w.heap.size w w' := by
  unfold clCells
  obtain ⟨m, pc, temps, stack, sender, dead⟩ := c
  simp only [] at ht hs ⊢
  obtain ⟨ap, cp, rfl, hlp, hcp⟩ := hp
  obtain ⟨a1, k1, h1⟩ := ht.shape
  obtain ⟨a2, k2, h2⟩ := hs.shape
  subst h1 h2
  have hst : stack.length ≤ 9223372036854775807 := by obtain ⟨_, _, _, hx, _⟩ := hs; unfold maxLen at hx; omega
  have htt : temps.length ≤ 9223372036854775807 := by obtain ⟨_, _, _, hx, _⟩ := ht; unfold maxLen at hx; omega
  unfold maxLen at hlp _hn
  have hA : Below w.heap.size w ((w.alloc (.cells #[.slice ap ms.length cp] 41)).alloc (.cells #[.int .i64 m, .int .i64 pc, .slice a1 temps.length k1, .slice a2 stack.length k2, .int .i64 sender, .bool dead] 63)) := ((Below.refl _ _).alloc (Nat.le_refl _) _).alloc (by simp) _
  have bp : ((w.alloc (.cells #[.slice ap ms.length cp] 41)).alloc (.cells #[.int .i64 m, .int .i64 pc, .slice a1 temps.length k1, .slice a2 stack.length k2, .int .i64 sender, .bool dead] 63)).cell? ⟨w.heap.size, 0, none⟩ = some (.slice ap ms.length cp) := by simp [go_sem]
  have bc := six_new (w.alloc (.cells #[.slice ap ms.length cp] 41)) 63 (.int .i64 m) (.int .i64 pc) (.slice a1 temps.length k1) (.slice a2 stack.length k2) (.int .i64 sender) (.bool dead)
  simp only [World.size_alloc] at bc
  go_enter Tryz.func68, Tryz.ntmps68
  go_upto_region 1 with fail
  generalize (w.alloc (.cells #[.slice ap ms.length cp] 41)).alloc (.cells #[.int .i64 m, .int .i64 pc, .slice a1 temps.length k1, .slice a2 stack.length k2, .int .i64 sender, .bool dead] 63) = W0 at *
  obtain ⟨⟨x0, x1, x2, x3, x4, x5⟩, _⟩ := six_cells bc
  have hAd : ∀ k, Below w.heap.size w (W0.drewN k) := fun k => below_drewN hA k
  have zA := hA.size
  clear bc
  cases hm : inR m 0 ((ms.length : Int) - 1)
  · have HC : Hid (clOk ms n ⟨m, pc, temps, stack, sender, dead⟩ = false) := clOk_no1 hm
    clear hcp ht hs hops
    go_wp2_with (go_at_call 92; refine (isPlace_any _ _ _).mono ?_; rintro e w' ⟨rfl, hw⟩; obtain rfl := hw.symm; rw [hm])
    go_ret
    exact ⟨ret_bool HC.out.symm, hA⟩
  have hm2 := inR_true.1 hm
  obtain ⟨mn, hmn⟩ := Int.eq_ofNat_of_zero_le hm2.1
  subst hmn
  have hml : mn < ms.length := by omega
  have hmz : (mn : Int) < (ms.length : Int) := by omega
  obtain ⟨b, o, vo, rfl, c0, c1, c2, c3⟩ := hcp mn hml
  have d0 := cell_below hA c0
  have d1 := cell_below hA c1
  have d2 := cell_below hA c2
  obtain ⟨ao, co, hvo⟩ := c3.shape
  subst hvo
  have hol : ms[mn].2.2.length ≤ 1000000 := hops mn hml
  have HMK : Hid (clOk ms n ⟨mn, pc, temps, stack, sender, dead⟩ = _) := clOk_mk hml pc temps stack sender dead
  have H3 := fun (w' : World) (hb : Below w.heap.size w w') => c3.below hb
  clear hcp c0 c1 c2 c3 hops
  have hx := @sender_or n sender
  cases hse : inR sender (-1) ((n : Int) - 1)
  · have HC : Hid (clOk ms n ⟨mn, pc, temps, stack, sender, dead⟩ = false) := by
      have := HMK.out
      rw [hse] at this
      show _ = _
      simpa using this
    rw [hse] at hx
    have HX : Hid ((sender == -1 || inR sender 0 ((n : Int) - 1)) = false) := hx
    clear ht hs H3 hx
    go_wp2_with (first | (go_at_call 92; refine (isPlace_any _ _ _).mono ?_; rintro e w' ⟨rfl, hw⟩; obtain rfl := hw.symm; rw [hm]) | (go_at_call 64; refine (implIsCallOrNone_any _ _ _).mono ?_; rintro e w' ⟨rfl, hw⟩; obtain rfl := hw.symm; rw [HX.out]))
    go_ret
    exact ⟨ret_bool HC.out.symm, hA⟩
  rw [hse] at hx
  have HX : Hid ((sender == -1 || inR sender 0 ((n : Int) - 1)) = true) := hx
  clear hx
  have hol2 : ((ms[mn].2.2.length : Nat) : Int) ≤ 1000000 := by omega
  have hpe : ((ms[mn].2.2.length : Nat) : Int) + 1 - 1 = (ms[mn].2.2.length : Nat) := by omega
  go_upto_region 4 with (first | (go_at_call 92; refine (isPlace_any _ _ _).mono ?_; rintro e w' ⟨rfl, hw⟩; obtain rfl := hw.symm; rw [hm]) | (go_at_call 64; refine (implIsCallOrNone_any _ _ _).mono ?_; rintro e w' ⟨rfl, hw⟩; obtain rfl := hw.symm; rw [HX.out]))
  have hB := hA.alloc zA (.cells #[.int .i64 ms[mn].1, .int .i64 ms[mn].2.1, .slice ao ms[mn].2.2.length co] 113)
  have hW := (Below.refl W0.heap.size W0).alloc (Nat.le_refl _) (.cells #[.int .i64 ms[mn].1, .int .i64 ms[mn].2.1, .slice ao ms[mn].2.2.length co] 113)
  have y1 := cell_below hW x1
  have y2 := cell_below hW x2
  have y3 := cell_below hW x3
  have y4 := cell_below hW x4
  have y5 := cell_below hW x5
  have z1 : (W0.alloc (.cells #[.int .i64 ms[mn].1, .int .i64 ms[mn].2.1, .slice ao ms[mn].2.2.length co] 113)).cell? ⟨W0.heap.size, 1, none⟩ = some (.int .i64 ms[mn].2.1) := by simp [go_sem]
  have z2 : (W0.alloc (.cells #[.int .i64 ms[mn].1, .int .i64 ms[mn].2.1, .slice ao ms[mn].2.2.length co] 113)).cell? ⟨W0.heap.size, 2, none⟩ = some (.slice ao ms[mn].2.2.length co) := by simp [go_sem]
  generalize W0.alloc (.cells #[.int .i64 ms[mn].1, .int .i64 ms[mn].2.1, .slice ao ms[mn].2.2.length co] 113) = W1 at *
  have ht1 := ht.below hB
  have hs1 := hs.below hB
  clear x0 x1 x2 x3 x4 x5 bp hA hAd zA d0 d1 d2 H3 HX hm hm2 hW ht hs
  generalize W0.heap.size = bm at *
  generalize ms[mn].2.2.length = no at *
  generalize ms[mn].2.1 = T at *
  generalize ms[mn].1 = A at *
  cases hpc : inR pc 0 (no : Int)
  · have HC : Hid (clOk ms n ⟨mn, pc, temps, stack, sender, dead⟩ = false) := by
      have := HMK.out
      show _ = _
      rw [this]
      simp [hpc]
    clear ht1 hs1 HMK
    go_wp2_with (go_at_call 92; refine (isPlace_any _ _ _).mono ?_; rintro e w' ⟨rfl, hw⟩; obtain rfl := hw.symm; rw [hpe, hpc])
    go_ret
    exact ⟨ret_bool HC.out.symm, hB⟩
  by_cases hT : ¬ (temps.length : Int) = T
  · have HC : Hid (clOk ms n ⟨mn, pc, temps, stack, sender, dead⟩ = false) := by
      have := HMK.out
      show _ = _
      rw [this]
      simp [hT]
    clear ht1 hs1 HMK
    go_wp2_with (go_at_call 92; refine (isPlace_any _ _ _).mono ?_; rintro e w' ⟨rfl, hw⟩; obtain rfl := hw.symm; rw [hpe, hpc])
    go_ret
    exact ⟨ret_bool HC.out.symm, hB⟩
  have hT := Decidable.not_not.1 hT
  subst hT
  by_cases h6 : ¬ stack.length ≤ 6
  · have h6' : 6 < (stack.length : Int) := by omega
    have HC : Hid (clOk ms n ⟨mn, pc, temps, stack, sender, dead⟩ = false) := by
      have := HMK.out
      show _ = _
      rw [this]
      simp [h6]
    clear ht1 hs1 HMK
    go_wp2_with (go_at_call 92; refine (isPlace_any _ _ _).mono ?_; rintro e w' ⟨rfl, hw⟩; obtain rfl := hw.symm; rw [hpe, hpc])
    go_ret
    exact ⟨ret_bool HC.out.symm, hB⟩
  have h6 := Decidable.not_not.1 h6
  have h6' : (stack.length : Int) ≤ 6 := by omega
  have HM2 : Hid (clOk ms n ⟨mn, pc, temps, stack, sender, dead⟩ = (valsOk n temps && valsOk n stack && (!dead || (sender == -1 && stack.length == 0)))) := by
    have := HMK.out
    show _ = _
    rw [this]
    simp [hpc, h6, hse]
  clear HMK
  have FIN : Hid ((!dead || (sender == -1 && stack.length == 0)) = true → clOk ms n ⟨mn, pc, temps, stack, sender, dead⟩ = (valsOk n temps && valsOk n stack)) := fun h => by rw [HM2.out, h, Bool.and_true]
  have BAD : Hid ((!dead || (sender == -1 && stack.length == 0)) = false → clOk ms n ⟨mn, pc, temps, stack, sender, dead⟩ = false) := fun h => by rw [HM2.out, h, Bool.and_false]
  clear HM2
  have VT := implValsOk_any _ _ (n : Int) _ ht1
  have HV : Hid (∀ w', Below W1.heap.size W1 w' → Calls Tryz.prog 93 #[.slice a2 stack.length k2, .int .i64 n] w' fun e w2 => e = .returned (.bool (valsOk n stack)) ∧ Below w'.heap.size w' w2) := fun w' hb => implValsOk_any _ _ (n : Int) _ (hs1.below hb)
  have HT : Hid (Calls Tryz.prog 93 #[.slice a1 temps.length k1, .int .i64 n] W1 fun e w2 => e = .returned (.bool (valsOk n temps)) ∧ Below W1.heap.size W1 w2) := VT
  clear VT ht1 hs1
  have zB := hB.size
  cases hd : dead
  · subst hd
    have HF : Hid (clOk ms n ⟨mn, pc, temps, stack, sender, false⟩ = (valsOk n temps && valsOk n stack)) := FIN.out rfl
    clear FIN BAD
    obtain ⟨vt1, hvt1⟩ : ∃ r, valsOk n temps = r := ⟨_, rfl⟩
    have HVT : Hid (valsOk n temps = vt1) := hvt1
    clear hvt1
    cases vt1
    · go_wp2_with (first | (go_at_call 92; refine (isPlace_any _ _ _).mono ?_; rintro e w' ⟨rfl, hw⟩; obtain rfl := hw.symm; rw [hpe, hpc]) | (go_at_call 93; refine HT.out.mono ?_; rintro e w2 ⟨rfl, hb2⟩; rw [HVT.out]))
      go_ret
      exact ⟨ret_bool (by rw [HF.out, HVT.out, Bool.false_and]), hB.trans (hb2.mono zB)⟩
    · go_wp2_with (first | (go_at_call 92; refine (isPlace_any _ _ _).mono ?_; rintro e w' ⟨rfl, hw⟩; obtain rfl := hw.symm; rw [hpe, hpc]) | (go_at_call 93; have hh := hb2; clear hh; refine (HV.out _ hb2).mono ?_; rintro e w3 ⟨rfl, hb3⟩) | (go_at_call 93; refine HT.out.mono ?_; rintro e w2 ⟨rfl, hb2⟩; rw [HVT.out]; have y3w := cell_below hb2 y3; have zb2 := hb2.size))
      go_ret
      exact ⟨ret_bool (by rw [HF.out, HVT.out, Bool.true_and]), (hB.trans (hb2.mono zB)).trans (hb3.mono (Nat.le_trans zB zb2))⟩
  · subst hd
    by_cases h0 : ¬ stack.length = 0
    · have h0' : 0 < (stack.length : Int) := by omega
      have HC : Hid (clOk ms n ⟨mn, pc, temps, stack, sender, true⟩ = false) := BAD.out (by simp [h0])
      clear HT HV FIN BAD
      go_wp2_with (go_at_call 92; refine (isPlace_any _ _ _).mono ?_; rintro e w' ⟨rfl, hw⟩; obtain rfl := hw.symm; rw [hpe, hpc])
      go_ret
      exact ⟨ret_bool HC.out.symm, hB⟩
    obtain rfl : stack = [] := List.eq_nil_of_length_eq_zero (Decidable.not_not.1 h0)
    replace HV : Hid (∀ w', Below W1.heap.size W1 w' → Calls Tryz.prog 93 #[.slice a2 0 k2, .int .i64 n] w' fun e w2 => e = .returned (.bool (valsOk n [])) ∧ Below w'.heap.size w' w2) := HV
    replace y3 : W1.cell? ⟨w.heap.size + 1, 3, none⟩ = some (.slice a2 0 k2) := y3
    clear h0 h6 h6' hst
    by_cases h1 : ¬ sender = -1
    · have e1 : (sender == -1) = false := beq_eq_false_iff_ne.2 h1
      have e1' : (sender != -1) = true := by simp [h1]
      have HC : Hid (clOk ms n ⟨mn, pc, temps, [], sender, true⟩ = false) := BAD.out (by simp [h1])
      clear HT HV FIN BAD
      go_wp2_with (go_at_call 92; refine (isPlace_any _ _ _).mono ?_; rintro e w' ⟨rfl, hw⟩; obtain rfl := hw.symm; rw [hpe, hpc])
      go_ret
      exact ⟨ret_bool HC.out.symm, hB⟩
    have h1 := Decidable.not_not.1 h1
    subst h1
    have HF : Hid (clOk ms n ⟨mn, pc, temps, [], -1, true⟩ = (valsOk n temps && valsOk n [])) := FIN.out rfl
    clear FIN BAD
    obtain ⟨vt1, hvt1⟩ : ∃ r, valsOk n temps = r := ⟨_, rfl⟩
    have HVT : Hid (valsOk n temps = vt1) := hvt1
    clear hvt1
    cases vt1
    · go_wp2_with (first | (go_at_call 92; refine (isPlace_any _ _ _).mono ?_; rintro e w' ⟨rfl, hw⟩; obtain rfl := hw.symm; rw [hpe, hpc]) | (go_at_call 93; refine HT.out.mono ?_; rintro e w2 ⟨rfl, hb2⟩; rw [HVT.out]))
      go_ret
      exact ⟨ret_bool (by rw [HF.out, HVT.out, Bool.false_and]), hB.trans (hb2.mono zB)⟩
    · go_wp2_with (first | (go_at_call 92; refine (isPlace_any _ _ _).mono ?_; rintro e w' ⟨rfl, hw⟩; obtain rfl := hw.symm; rw [hpe, hpc]) | (go_at_call 93; have hh := hb2; clear hh; refine (HV.out _ hb2).mono ?_; rintro e w3 ⟨rfl, hb3⟩) | (go_at_call 93; refine HT.out.mono ?_; rintro e w2 ⟨rfl, hb2⟩; rw [HVT.out]; have y3w := cell_below hb2 y3; have zb2 := hb2.size))
      go_ret
      exact ⟨ret_bool (by rw [HF.out, HVT.out, Bool.true_and]), (hB.trans (hb2.mono zB)).trans (hb3.mono (Nat.le_trans zB zb2))⟩
end Go.Proofs.YtmifhlkcceafkaaGreat
