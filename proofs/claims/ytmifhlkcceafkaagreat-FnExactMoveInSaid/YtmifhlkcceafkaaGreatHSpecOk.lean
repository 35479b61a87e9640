/-
  The document's model of HeapOk, its pieces: l11Val, l11Vals, l11Said, l11Form answer the plain functions; they write to nothing that was there.
-/
import Derived.Test.YtmifhlkcceafkaaGreatImplOk3
import Derived.Test.YtmifhlkcceafkaaGreatHPlain
import Derived.Test.YtmifhlkcceafkaaGreatHCopy2
import Derived.BigQuiet
import Derived.Deep.QuietTactic

namespace Go.Proofs.YtmifhlkcceafkaaGreat
open Go.RowKit
set_option maxHeartbeats 1000000 in
theorem l11Val_any (k a n : Int) (w : World) (hn0 : 0 ≤ n) (hn1 : n ≤ 9223372036854775807) :
    Calls Tryz.prog 88 #[.agg #[.int .i64 k, .int .i64 a], .int .i64 n] w fun e w' => e = .returned (.bool (valOk n k a)) ∧ Below w.heap.size w w' := by
  have hB : ∀ o, Below w.heap.size w (w.alloc o) := fun o => (Below.refl _ _).alloc (Nat.le_refl _) _
  by_cases h0 : k = 0
  · subst h0
    go_enter Tryz.func88, Tryz.ntmps88
    go_wp2
    go_ret
    exact ⟨rfl, hB _⟩
  have e0 : (k == 0) = false := beq_eq_false_iff_ne.2 h0
  by_cases h1 : k = 1
  · subst h1
    go_enter Tryz.func88, Tryz.ntmps88
    go_wp2_with (go_at_call 54; refine (l6In_any _ _ _ _).mono ?_; rintro e w' ⟨rfl, rfl⟩)
    go_ret
    exact ⟨rfl, hB _⟩
  have e1 : (k == 1) = false := beq_eq_false_iff_ne.2 h1
  by_cases h2 : k = 2
  · subst h2
    go_enter Tryz.func88, Tryz.ntmps88
    go_wp2_with (go_at_call 54; refine (l6In_any _ _ _ _).mono ?_; rintro e w' ⟨rfl, rfl⟩)
    go_ret
    exact ⟨rfl, hB _⟩
  have e2 : (k == 2) = false := beq_eq_false_iff_ne.2 h2
  go_enter Tryz.func88, Tryz.ntmps88
  go_wp2
  go_ret
  exact ⟨ret_bool (by simp [valOk, h0, h1, h2]), hB _⟩
set_option maxHeartbeats 1000000 in
theorem l11Vals_any (v : Value) (l : List (Int × Int)) (n : Int) (w : World) (h : OpsAt w v l) (hn0 : 0 ≤ n) (hn1 : n ≤ 9223372036854775807) :
    Calls Tryz.prog 89 #[v, .int .i64 n] w fun e w' => e = .returned (.bool (valsOk n l)) ∧ Below w.heap.size w w' := by
  obtain ⟨a, cap, rfl, hl, hc⟩ := h
  unfold maxLen at hl
  go_enter Tryz.func89, Tryz.ntmps89
  go_wp2
  go_loopg [5] l.length (fun g i wr => ∃ k : Nat, k ≤ l.length ∧ g = l.length - k ∧ i = .int .i64 k ∧ Below w.heap.size w wr ∧ ∀ j, (hj : j < l.length) → j < k → valOk n l[j].1 l[j].2 = true)
  case atStart => exact ⟨0, Nat.zero_le _, rfl, rfl, Below.refl _ _, fun j _ h => absurd h (Nat.not_lt_zero _)⟩
  case round =>
    obtain ⟨k, hk, rfl, rfl, hb, hall⟩ := hrel
    have H : Hid (∀ j, (hj : j < l.length) → j < k → valOk n l[j].1 l[j].2 = true) := hall
    clear hall
    by_cases hlt : k < l.length
    · obtain ⟨b, o, rfl, c0, c1⟩ := hc k hlt
      have d0 := cell_below hb c0
      have d1 := cell_below hb c1
      have hkz : (k : Int) < (l.length : Int) := by omega
      clear c0 c1
      obtain ⟨r, hr⟩ : ∃ r, valOk n l[k].1 l[k].2 = r := ⟨_, rfl⟩
      have HR : Hid (valOk n l[k].1 l[k].2 = r) := hr
      clear hr
      go_wp2_with fail
      refine (l11Val_any _ _ n _ hn0 hn1).mono ?_
      rintro e w1 ⟨rfl, hb1⟩
      have hb2 : Below w.heap.size w w1 := hb.trans (hb1.mono hb.size)
      rw [HR.out]
      clear hb hb1 d0 d1
      cases r
      · go_wp2
        go_ret
        exact ⟨ret_bool (valsOk_no hlt HR.out).symm, hb2⟩
      · go_wp2
        go_roundg (l.length - (k + 1))
        case measure => omega
        case rel =>
          refine ⟨k + 1, by omega, rfl, by go_num, hb2, fun j hj hjk => ?_⟩
          by_cases e : j = k
          · subst e; exact HR.out
          · exact H.out j hj (by omega)
    · obtain rfl : k = l.length := by omega
      go_wp2
      go_ret
      exact ⟨ret_bool (valsOk_yes (fun i hi => H.out i hi hi)).symm, hb⟩
theorem below_drewN {B : Nat} {a w : World} (h : Below B a w) : ∀ n, Below B a (w.drewN n)
  | 0 => h
  | n + 1 => by
    have := below_drewN h n
    exact ⟨this.os, this.tape, this.output, this.size, this.block⟩
theorem valOk_other {n n' k a : Int} (h : k ≠ 2) : valOk n k a = valOk n' k a := by simp [valOk, h]
set_option maxHeartbeats 2000000 in
theorem l11Said_any (vp v : Value) (ms : List (Int × Int × List (Int × Int))) (l : List (Int × Int)) (w : World) (hp : MethsAt w vp ms) (h : OpsAt w v l) :
    Calls Tryz.prog 56 #[.agg #[vp], v] w fun e w' => e = .returned (.bool (valsOk ms.length l)) ∧ Below w.heap.size w w' := by
  obtain ⟨a, cap, rfl, hl, hc⟩ := h
  obtain ⟨ap, cp, rfl, hlp, _⟩ := hp
  unfold maxLen at hl hlp
  have hA := (Below.refl w.heap.size w).alloc (Nat.le_refl _) (.cells #[.slice ap ms.length cp] 41)
  have b0 : (w.alloc (.cells #[.slice ap ms.length cp] 41)).cell? ⟨w.heap.size, 0, none⟩ = some (.slice ap ms.length cp) := by simp [go_sem]
  go_enter Tryz.func56, Tryz.ntmps56
  go_wp2
  go_loopg [5] l.length (fun g i wr => ∃ k : Nat, k ≤ l.length ∧ g = l.length - k ∧ i = .int .i64 k ∧ wr.cell? ⟨w.heap.size, 0, none⟩ = some (.slice ap ms.length cp) ∧ Below w.heap.size w wr ∧ ∀ j, (hj : j < l.length) → j < k → valOk ms.length l[j].1 l[j].2 = true)
  case atStart => exact ⟨0, Nat.zero_le _, rfl, rfl, b0, hA, fun j _ h => absurd h (Nat.not_lt_zero _)⟩
  case round =>
    obtain ⟨k, hk, rfl, rfl, br, hb, hall⟩ := hrel
    have H : Hid (∀ j, (hj : j < l.length) → j < k → valOk ms.length l[j].1 l[j].2 = true) := hall
    clear hall hA b0
    have hsz := hb.size
    have hbw : w.heap.size < wr.heap.size := World.block_lt_of_cell? _ _ br
    by_cases hlt : k < l.length
    · obtain ⟨b, o, rfl, c0, c1⟩ := hc k hlt
      have d0 := cell_below hb c0
      have d1 := cell_below hb c1
      have hkz : (k : Int) < (l.length : Int) := by omega
      clear c0 c1
      have HN : Hid (∀ r, valOk ms.length l[k].1 l[k].2 = r → r = true → ∀ j, (hj : j < l.length) → j < k + 1 → valOk ms.length l[j].1 l[j].2 = true) := fun r hr e j hj hjk => by
        by_cases e' : j = k
        · subst e'; rw [hr]; exact e
        · exact H.out j hj (by omega)
      have HF : Hid (valOk ms.length l[k].1 l[k].2 = false → valsOk ms.length l = false) := fun hr => valsOk_no hlt hr
      generalize l[k].1 = K at *
      generalize l[k].2 = A at *
      have brN := fun o => cell_below ((Below.refl _ _).alloc (Nat.le_refl _) o) br
      have hbN := fun o => hb.alloc hsz o
      by_cases h2 : K = 2
      · subst h2
        obtain ⟨r, hr⟩ : ∃ r, inR A 0 ((ms.length : Int) - 1) = r := ⟨_, rfl⟩
        have HR : Hid (inR A 0 ((ms.length : Int) - 1) = r) := hr
        clear hr
        cases r
        · go_wp2_with (go_at_call 54; refine (l6In_any _ _ _ _).mono ?_; rintro e w' ⟨rfl, hw⟩; obtain rfl := hw.symm; rw [HR.out])
          go_ret
          exact ⟨ret_bool (HF.out HR.out).symm, hbN _⟩
        · go_wp2_with (go_at_call 54; refine (l6In_any _ _ _ _).mono ?_; rintro e w' ⟨rfl, hw⟩; obtain rfl := hw.symm; rw [HR.out])
          go_roundg (l.length - (k + 1))
          case measure => omega
          case rel => exact ⟨k + 1, by omega, rfl, by go_num, brN _, hbN _, HN.out _ HR.out rfl⟩
      · have e2 : (K == 2) = false := beq_eq_false_iff_ne.2 h2
        have n2 : (K != 2) = true := bne_iff_ne.2 h2
        obtain ⟨r, hr⟩ : ∃ r, valOk 0 K A = r := ⟨_, rfl⟩
        have HR : Hid (valOk 0 K A = r) := hr
        have HR' : Hid (valOk ms.length K A = r) := (valOk_other h2).trans hr
        clear hr
        go_wp2_with fail
        refine (l11Val_any K A 0 _ (by omega) (by omega)).mono ?_
        rintro e w1 ⟨rfl, hb1⟩
        have br1 := cell_below hb1 (brN _)
        have hb2 : Below w.heap.size w w1 := (hbN _).trans (hb1.mono (by simp; omega))
        rw [HR.out]
        clear hb1 brN hbN d0 d1 br
        cases r
        · go_wp2
          go_ret
          exact ⟨ret_bool (HF.out HR'.out).symm, hb2⟩
        · go_wp2
          go_roundg (l.length - (k + 1))
          case measure => omega
          case rel => exact ⟨k + 1, by omega, rfl, by go_num, br1, hb2, HN.out _ HR'.out rfl⟩
    · obtain rfl : k = l.length := by omega
      go_wp2
      go_ret
      exact ⟨ret_bool (valsOk_yes (fun i hi => H.out i hi hi)).symm, hb⟩
theorem clOk_no1 {ms : List (Int × Int × List (Int × Int))} {n : Nat} {c : Cl} (h : inR c.m 0 ((ms.length : Int) - 1) = false) : clOk ms n c = false := by simp [clOk, h]
theorem clOk_mk {ms : List (Int × Int × List (Int × Int))} {n mn : Nat} (hm : mn < ms.length) (pc : Int) (temps stack : List (Int × Int)) (sender : Int) (dead : Bool) :
    clOk ms n ⟨mn, pc, temps, stack, sender, dead⟩ = (inR pc 0 (ms[mn].2.2.length : Int) && decide ((temps.length : Int) = ms[mn].2.1) && decide (stack.length ≤ 6) && (inR sender (-1) ((n : Int) - 1) && valsOk n temps && valsOk n stack && (!dead || (sender == -1 && stack.length == 0)))) := by
  have e : ms.getD ((mn : Int)).toNat (0, 0, []) = ms[mn] := by simp [hm]
  have h1 : inR ((mn : Int)) 0 ((ms.length : Int) - 1) = true := inR_true.2 (by omega)
  simp only [clOk, e, h1, Bool.true_and]
set_option maxHeartbeats 4000000 in
theorem l11Form_any (vp vt vs : Value) (ms : List (Int × Int × List (Int × Int))) (c : Cl) (n : Nat) (w : World) (hp : MethsAt w vp ms) (ht : OpsAt w vt c.temps) (hs : OpsAt w vs c.stack) (hn : n ≤ maxLen) :
    Calls Tryz.prog 57 #[.agg #[vp], .agg (clCells vt vs c), .int .i64 n] w fun e w' => e = .returned (.bool (clOk ms n c)) ∧ Below w.heap.size w w' := by
  unfold clCells
  obtain ⟨m, pc, temps, stack, sender, dead⟩ := c
  simp only [] at ht hs ⊢
  obtain ⟨ap, cp, rfl, hlp, hcp⟩ := hp
  obtain ⟨a1, k1, h1⟩ := ht.shape
  obtain ⟨a2, k2, h2⟩ := hs.shape
  subst h1 h2
  have hst : stack.length ≤ 9223372036854775807 := by obtain ⟨_, _, _, hx, _⟩ := hs; unfold maxLen at hx; omega
  have htt : temps.length ≤ 9223372036854775807 := by obtain ⟨_, _, _, hx, _⟩ := ht; unfold maxLen at hx; omega
  unfold maxLen at hlp hn
  have hA : Below w.heap.size w ((w.alloc (.cells #[.slice ap ms.length cp] 41)).alloc (.cells #[.int .i64 m, .int .i64 pc, .slice a1 temps.length k1, .slice a2 stack.length k2, .int .i64 sender, .bool dead] 63)) := ((Below.refl _ _).alloc (Nat.le_refl _) _).alloc (by simp) _
  have bp : ((w.alloc (.cells #[.slice ap ms.length cp] 41)).alloc (.cells #[.int .i64 m, .int .i64 pc, .slice a1 temps.length k1, .slice a2 stack.length k2, .int .i64 sender, .bool dead] 63)).cell? ⟨w.heap.size, 0, none⟩ = some (.slice ap ms.length cp) := by simp [go_sem]
  have bc := six_new (w.alloc (.cells #[.slice ap ms.length cp] 41)) 63 (.int .i64 m) (.int .i64 pc) (.slice a1 temps.length k1) (.slice a2 stack.length k2) (.int .i64 sender) (.bool dead)
  simp only [World.size_alloc] at bc
  go_enter Tryz.func57, Tryz.ntmps57
  go_upto_region 1 with fail
  generalize (w.alloc (.cells #[.slice ap ms.length cp] 41)).alloc (.cells #[.int .i64 m, .int .i64 pc, .slice a1 temps.length k1, .slice a2 stack.length k2, .int .i64 sender, .bool dead] 63) = W0 at *
  obtain ⟨⟨x0, x1, x2, x3, x4, x5⟩, _⟩ := six_cells bc
  have hAd : ∀ k, Below w.heap.size w (W0.drewN k) := fun k => below_drewN hA k
  have zA := hA.size
  clear bc
  cases hm : inR m 0 ((ms.length : Int) - 1)
  · have HC : Hid (clOk ms n ⟨m, pc, temps, stack, sender, dead⟩ = false) := clOk_no1 hm
    clear hcp ht hs
    go_quiet ((go_at_call 54; exact Calls.quiet_of_same (l6In_any _ _ _ _)))
    go_wp2
    go_ret
    exact ⟨ret_bool HC.out.symm, hAd _⟩
  have hm2 := inR_true.1 hm
  obtain ⟨mn, hmn⟩ := Int.eq_ofNat_of_zero_le hm2.1
  subst hmn
  have hml : mn < ms.length := by omega
  have hmz : (mn : Int) < (ms.length : Int) := by omega
  obtain ⟨b, o, vo, rfl, c0, c1, c2, c3⟩ := hcp mn hml
  have d1 := cell_below hA c1
  have d2 := cell_below hA c2
  obtain ⟨ao, co, hvo⟩ := c3.shape
  subst hvo
  have hol : ms[mn].2.2.length ≤ 9223372036854775807 := by obtain ⟨_, _, _, hx, _⟩ := c3; unfold maxLen at hx; omega
  have HMK : Hid (clOk ms n ⟨mn, pc, temps, stack, sender, dead⟩ = _) := clOk_mk hml pc temps stack sender dead
  clear hcp c0 c1 c2 c3
  generalize ms[mn].2.2.length = no at *
  generalize ms[mn].2.1 = T at *
  cases hpc : inR pc 0 (no : Int)
  · have HC : Hid (clOk ms n ⟨mn, pc, temps, stack, sender, dead⟩ = false) := by
      have := HMK.out
      rw [hpc] at this
      show _ = _
      simpa using this
    clear HMK ht hs
    go_quiet ((go_at_call 54; exact Calls.quiet_of_same (l6In_any _ _ _ _)))
    go_wp2
    go_ret
    exact ⟨ret_bool HC.out.symm, hAd _⟩
  by_cases htl : (temps.length : Int) = T
  · subst htl
    by_cases hsl : stack.length ≤ 6
    · have hslz : (stack.length : Int) ≤ 6 := by omega
      have HC : Hid (clOk ms n ⟨mn, pc, temps, stack, sender, dead⟩ = (inR sender (-1) ((n : Int) - 1) && valsOk n temps && valsOk n stack && (!dead || (sender == -1 && stack.length == 0)))) := by
        have := HMK.out
        rw [hpc, decide_eq_true hsl] at this
        show _ = _
        simpa using this
      clear HMK
      go_quiet ((go_at_call 54; exact Calls.quiet_of_same (l6In_any _ _ _ _)))
      clear x0 x1 bp d1 d2
      have zq : ∀ k, w.heap.size ≤ (W0.drewN k).heap.size := fun k => (hAd k).size
      cases hsd : inR sender (-1) ((n : Int) - 1)
      · go_wp2_with (go_at_call 54; refine (l6In_any _ _ _ _).mono ?_; rintro e w' ⟨rfl, hw⟩; obtain rfl := hw.symm)
        go_ret
        exact ⟨ret_bool (by rw [HC.out, hsd]; rfl), hAd _⟩
      go_wp2_with (go_at_call 54; refine (l6In_any _ _ _ _).mono ?_; rintro e w' ⟨rfl, hw⟩; obtain rfl := hw.symm)
      refine (l11Vals_any _ temps n _ (ht.below (hAd _)) (by omega) (by omega)).mono ?_
      rintro e w2 ⟨rfl, hb2⟩
      have hB2 : Below w.heap.size w w2 := (hAd _).trans (hb2.mono (zq _))
      have z2 := hB2.size
      have u3 : w2.cell? ⟨w.heap.size + 1, 3, none⟩ = some (.slice a2 stack.length k2) := cell_below hb2 x3
      have u4 : w2.cell? ⟨w.heap.size + 1, 4, none⟩ = some (.int .i64 sender) := cell_below hb2 x4
      have u5 : w2.cell? ⟨w.heap.size + 1, 5, none⟩ = some (.bool dead) := cell_below hb2 x5
      clear hb2 x2 x3 x4 x5 hA hAd zA zq
      cases hvt : valsOk n temps
      · go_wp2
        go_ret
        exact ⟨ret_bool (by rw [HC.out, hsd, hvt]; rfl), hB2⟩
      go_wp2_with fail
      refine (l11Vals_any _ stack n _ (hs.below hB2) (by omega) (by omega)).mono ?_
      rintro e w3 ⟨rfl, hb3⟩
      have hB3 : Below w.heap.size w w3 := hB2.trans (hb3.mono z2)
      have v3 := cell_below hb3 u3
      have v4 := cell_below hb3 u4
      have v5 := cell_below hb3 u5
      clear hb3 u3 u4 u5
      cases hvs : valsOk n stack
      · go_wp2
        go_ret
        exact ⟨ret_bool (by rw [HC.out, hsd, hvt, hvs]; rfl), hB3⟩
      cases dead
      · go_wp2
        go_ret
        exact ⟨ret_bool (by rw [HC.out, hsd, hvt, hvs]; rfl), hB3⟩
      by_cases hse : sender = -1
      · subst hse
        by_cases hs0 : stack.length = 0
        · have hs0z : ((stack.length : Int) == 0) = true := by rw [beq_iff_eq]; omega
          have HS0 : Hid (stack.length = 0) := hs0
          clear hs0
          go_wp2
          go_ret
          exact ⟨ret_bool (by rw [HC.out, hsd, hvt, hvs, HS0.out]; rfl), hB3⟩
        · have hs0z : ((stack.length : Int) == 0) = false := by rw [beq_eq_false_iff_ne]; omega
          have hs0b : (stack.length == 0) = false := by rw [beq_eq_false_iff_ne]; exact hs0
          go_wp2
          go_ret
          exact ⟨ret_bool (by rw [HC.out, hsd, hvt, hvs, hs0b]; rfl), hB3⟩
      · have hseb : (sender == -1) = false := beq_eq_false_iff_ne.2 hse
        go_wp2
        go_ret
        exact ⟨ret_bool (by rw [HC.out, hsd, hvt, hvs, hseb]; rfl), hB3⟩
    · have hslz : (6 : Int) < (stack.length : Int) := by omega
      have HC : Hid (clOk ms n ⟨mn, pc, temps, stack, sender, dead⟩ = false) := by
        have := HMK.out
        rw [hpc, decide_eq_false hsl] at this
        show _ = _
        simpa using this
      clear HMK ht hs hsl
      go_quiet ((go_at_call 54; exact Calls.quiet_of_same (l6In_any _ _ _ _)))
      go_wp2
      go_ret
      exact ⟨ret_bool HC.out.symm, hAd _⟩
  · have htb : ((temps.length : Int) != T) = true := bne_iff_ne.2 htl
    have HC : Hid (clOk ms n ⟨mn, pc, temps, stack, sender, dead⟩ = false) := by
      have := HMK.out
      rw [hpc, decide_eq_false htl] at this
      show _ = _
      simpa using this
    clear HMK ht hs
    go_quiet ((go_at_call 54; exact Calls.quiet_of_same (l6In_any _ _ _ _)))
    go_wp2
    go_ret
    exact ⟨ret_bool HC.out.symm, hAd _⟩
end Go.Proofs.YtmifhlkcceafkaaGreat
