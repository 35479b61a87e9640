/-
  The program's valOk, valsOk, saidOk, bornOk, codeOk and isCallOrNone answer the plain functions; they write to nothing that was there.
-/
import Derived.Test.YtldiccheboipeaaImplOk
import Derived.Test.YtldiccheboipeaaHSpecOk
namespace Go.Proofs.Ytldiccheboipeaa
open Go.RowKit

set_option maxHeartbeats 1000000 in
theorem implValOk_any (k a n : Int) (w : World) :
    Calls Try.prog 128 #[.agg #[.int .i64 k, .int .i64 a], .int .i64 n] w fun e w' => e = .returned (.bool (valOk n k a)) ∧ Below w.heap.size w w' := by
  have hB : ∀ o, Below w.heap.size w (w.alloc o) := fun o => (Below.refl _ _).alloc (Nat.le_refl _) _
  by_cases h1 : k = 1
  · subst h1
    go_enter Try.func128, Try.ntmps128
    go_wp2_with (go_at_call 56; refine (isPlace_any _ _ _).mono ?_; rintro e w' ⟨rfl, rfl⟩)
    go_ret
    exact ⟨rfl, hB _⟩
  have e1 : (k == 1) = false := beq_eq_false_iff_ne.2 h1
  by_cases h2 : k = 2
  · subst h2
    go_enter Try.func128, Try.ntmps128
    go_wp2_with (go_at_call 56; refine (isPlace_any _ _ _).mono ?_; rintro e w' ⟨rfl, rfl⟩)
    go_ret
    exact ⟨rfl, hB _⟩
  have e2 : (k == 2) = false := beq_eq_false_iff_ne.2 h2
  by_cases h0 : k = 0
  · subst h0
    go_enter Try.func128, Try.ntmps128
    by_cases ha : a = 0
    · go_wp2
      go_ret
      exact ⟨ret_bool (by simp [valOk, ha]), hB _⟩
    · go_wp2
      go_ret
      exact ⟨ret_bool (by simp [valOk, ha]), hB _⟩
  have e0 : (k == 0) = false := beq_eq_false_iff_ne.2 h0
  go_enter Try.func128, Try.ntmps128
  go_wp2
  go_ret
  exact ⟨ret_bool (by simp [valOk, h0, h1, h2]), hB _⟩

set_option maxHeartbeats 1000000 in
theorem implValsOk_any (v : Value) (l : List (Int × Int)) (n : Int) (w : World) (h : OpsAt w v l) :
    Calls Try.prog 89 #[v, .int .i64 n] w fun e w' => e = .returned (.bool (valsOk n l)) ∧ Below w.heap.size w w' := by
  obtain ⟨a, cap, rfl, hl, hc⟩ := h
  unfold maxLen at hl
  go_enter Try.func89, Try.ntmps89
  go_wp2
  go_loopg [9] l.length (fun g i wr => ∃ k : Nat, k ≤ l.length ∧ g = l.length - k ∧ i = .int .i64 k ∧ Below w.heap.size w wr ∧ ∀ j, (hj : j < l.length) → j < k → valOk n l[j].1 l[j].2 = true)
  case atStart => exact ⟨0, Nat.zero_le _, rfl, rfl, Below.refl _ _, fun j _ h => absurd h (Nat.not_lt_zero _)⟩
  case round =>
    obtain ⟨k, hk, rfl, rfl, hb, hall⟩ := hrel
    have H : Hid (∀ j, (hj : j < l.length) → j < k → valOk n l[j].1 l[j].2 = true) := hall
    clear hall
    by_cases hlt : k < l.length
    · obtain ⟨b, o, rfl, c0, c1⟩ := hc k hlt
      have d0 := cell_below hb c0
      have d1 := cell_below hb c1
      have hkz : (k : Int) < (l.length : Int) := by omega
      clear c0 c1
      obtain ⟨r, hr⟩ : ∃ r, valOk n l[k].1 l[k].2 = r := ⟨_, rfl⟩
      have HR : Hid (valOk n l[k].1 l[k].2 = r) := hr
      clear hr
      go_wp2_with fail
      refine (implValOk_any _ _ n _).mono ?_
      rintro e w1 ⟨rfl, hb1⟩
      have hb2 : Below w.heap.size w w1 := (hb.alloc hb.size _).trans (hb1.mono (by have := hb.size; simp; omega))
      rw [HR.out]
      clear hb hb1 d0 d1
      cases r
      · go_wp2
        go_ret
        exact ⟨ret_bool (valsOk_no hlt HR.out).symm, hb2⟩
      · go_wp2
        go_roundg (l.length - (k + 1))
        case measure => omega
        case rel =>
          refine ⟨k + 1, by omega, rfl, by go_num, hb2, fun j hj hjk => ?_⟩
          by_cases e : j = k
          · subst e; exact HR.out
          · exact H.out j hj (by omega)
    · obtain rfl : k = l.length := by omega
      go_wp2
      go_ret
      exact ⟨ret_bool (valsOk_yes (fun i hi => H.out i hi hi)).symm, hb⟩

theorem implBornOk_any (n : Int) (w : World) :
    Calls Try.prog 44 #[.int .i64 n] w fun e w' => e = .returned (.bool (inR n 1 30)) ∧ w' = w := by
  go_enter Try.func44, Try.ntmps44
  by_cases h : 1 ≤ n
  · go_wp2
    go_ret
    exact ⟨ret_bool (by rw [Bool.eq_iff_iff, inR_true, decide_eq_true_iff]; omega), rfl⟩
  · go_wp2
    go_ret
    exact ⟨ret_bool (by rw [eq_comm, inR_false]; omega), rfl⟩

theorem implIsCallOrNone_any (a n : Int) (w : World) :
    Calls Try.prog 129 #[.int .i64 a, .int .i64 n] w fun e w' => e = .returned (.bool (a == -1 || inR a 0 (n - 1))) ∧ w' = w := by
  by_cases h : a = -1
  · subst h
    go_enter Try.func129, Try.ntmps129
    go_wp2
    go_ret
    exact ⟨rfl, rfl⟩
  have e1 : (a == -1) = false := beq_eq_false_iff_ne.2 h
  go_enter Try.func129, Try.ntmps129
  go_wp2_with (go_at_call 56; refine (isPlace_any _ _ _).mono ?_; rintro e w' ⟨rfl, hw⟩; obtain rfl := hw.symm)
  go_ret
  exact ⟨ret_bool (by simp [e1]), rfl⟩

theorem implCodeOk_any (c a : Int) (w : World) :
    Calls Try.prog 47 #[.int .i64 c, .int .i64 a] w fun e w' => e = .returned (.bool (inR c 0 3 && ((c == 1) == (a == -1)))) ∧ w' = w := by
  by_cases h : 0 ≤ c
  · by_cases h3 : c ≤ 3
    · have hi : inR c 0 3 = true := inR_true.2 ⟨h, h3⟩
      rw [hi, Bool.true_and]
      go_enter Try.func47, Try.ntmps47
      go_wp2
      go_ret
      exact ⟨ret_bool (by first | rfl | simp), rfl⟩
    · have hi : inR c 0 3 = false := inR_false.2 (by omega)
      rw [hi, Bool.false_and]
      have h3' : 3 < c := by omega
      go_enter Try.func47, Try.ntmps47
      go_wp2
      go_ret
      exact ⟨rfl, rfl⟩
  · have hi : inR c 0 3 = false := inR_false.2 (by omega)
    rw [hi, Bool.false_and]
    have h' : c < 0 := by omega
    go_enter Try.func47, Try.ntmps47
    go_wp2
    go_ret
    exact ⟨rfl, rfl⟩

theorem implSaidOk_any (vp v : Value) (ms : List (Int × Int × List (Int × Int))) (l : List (Int × Int)) (w : World) (hp : MethsAt w vp ms) (h : OpsAt w v l) :
    Calls Try.prog 46 #[.agg #[vp], v] w fun e w' => e = .returned (.bool (valsOk ms.length l)) ∧ Below w.heap.size w w' := by
  obtain ⟨ap, cp, rfl, hlp, _⟩ := hp
  unfold maxLen at hlp
  have hB : ∀ o, Below w.heap.size w (w.alloc o) := fun o => (Below.refl _ _).alloc (Nat.le_refl _) _
  have hN : ∀ o, OpsAt (w.alloc o) v l := fun o => h.below (hB o)
  go_enter Try.func46, Try.ntmps46
  go_wp2_with (go_at_call 89; refine (implValsOk_any _ _ _ _ (hN _)).mono ?_; rintro e w1 ⟨rfl, hb1⟩)
  go_ret
  exact ⟨rfl, (hB _).trans (hb1.mono (by simp))⟩

end Go.Proofs.Ytldiccheboipeaa
