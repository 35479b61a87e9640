/-
  What draws: l71Look draws operations that look at a call.
-/
import Derived.Test.YtldiccheboipeaaDraw3
namespace Go.Proofs.Ytldiccheboipeaa
open Go.RowKit

set_option maxRecDepth 100000 in
set_option maxHeartbeats 1000000 in
theorem l71Look_fit (w : World) (b : Nat) (a : Option Addr) (len cap p : Nat) (t : Int) (hr : Rd w b a len cap p) (hp : p + 4 ≤ 1000000) (ht1 : 1 ≤ t) (ht4 : t ≤ 4) :
    Calls Try.prog 162 #[.pointer (some ⟨b, 0, none⟩), .int .i64 t] w fun e w' => ∃ v ops p', e = .returned v ∧ OpsRow w.heap.size w' v ops ∧ ops.length ≤ 3 ∧ 1 ≤ ops.length ∧ p ≤ p' ∧ p' ≤ p + 4 ∧ Rd w' b a len cap p' ∧ w.grownBy w' (some b) ∧ ∀ nm, Fits nm t ops := by
  go_enter Try.func162, Try.ntmps162
  go_wp2_with fail
  refine (opsLitF hr hr (grown_refl _ _) [11, 0] _ _ _ rfl (by decide)).mono ?_
  rintro e w1 ⟨v1, ops1, rfl, hrow1, hl1, hm1, hrd1, hgr1, hpu⟩
  have HF : Hid (∀ nm, Fits nm t ops1) := fun nm => by rw [hpu]; exact .one fit_11
  clear hpu
  go_wp2_with fail
  refine (pickIn hr hgr1 hrd1 _ (by omega) (by omega) (by omega)).mono ?_
  rintro e w2 ⟨x, rfl, hx0, hx1, hrd2, hgr2, hkp⟩
  have hrow2 := hkp _ _ hrow1
  clear hkp hrow1 hrd1 hgr1
  simp only [List.length_cons, List.length_nil] at hl1 hm1
  have hr1 := hr
  by_cases h0 : x = 0
  · subst h0
    go_wp2_with fail
    refine (pickIn hr hgr2 hrd2 _ (by omega) (by omega) (by omega)).mono ?_
    rintro e w3 ⟨u, rfl, hu0, hu1, hrd3, hgr3, _⟩
    clear hrow2 hrd2 hgr2
    go_wp2_with fail
    refine (opsLitF hr hrd3 hgr3 [2, u] _ _ _ rfl (by simp)).mono ?_
    rintro e w4 ⟨v4, ops4, rfl, hrow4, hl4, hm4, hrd4', hgr4, hpu⟩
    have HF : Hid (∀ nm, Fits nm t ops4) := fun nm => by rw [hpu]; exact .one (fit_temp hu0 hu1)
    clear hpu
    simp only [List.length_cons, List.length_nil] at hl4 hm4
    obtain ⟨q4, hq4, hq4', hrd4⟩ : ∃ q4, p + 1 ≤ q4 ∧ q4 ≤ p + 2 ∧ Rd w4 b a len cap q4 := ⟨_, by omega, by omega, hrd4'⟩
    clear hrd4' hrd3 hgr3
    clear hr1
    go_wp2_with fail
    refine (pickIn hr hgr4 hrd4 _ (by omega) (by omega) (by omega)).mono ?_
    rintro e w5 ⟨y, rfl, hy0, hy1, hrd5, hgr5, hkp⟩
    have hrow5 := hkp _ _ hrow4
    have hsz5 := hgr5.size
    clear hkp hrow4 hrd4 hgr4
    by_cases k0 : y = 0
    · subst k0
      go_wp2_with (at_builtin; refine append_op _ (by rfl) _ _ (by rfl) _ _ ops4 (by rfl) hrow5 _ _ _ (by rfl) (by omega) (by omega) ?_; intro g cp w6 hrow6 hg6 hBg hglt)
      obtain ⟨hrd6, hgr6⟩ := after_append hr hrd5 hgr5 hrow5 hg6
      clear hg6 hBg hglt
      go_wp2
      go_ret
      exact ⟨_, _, _, rfl, hrow6, by simp; omega, by simp, by omega, by omega, hrd6, hgr6, fun nm => (HF.out nm).snoc fit_12⟩
    have f0 : (y == 0) = false := beq_eq_false_iff_ne.2 k0
    by_cases k1 : y = 1
    · subst k1
      go_wp2_with fail
      refine (pickIn hr hgr5 hrd5 _ (by omega) (by omega) (by omega)).mono ?_
      rintro e w7 ⟨z, rfl, hz0, hz1, hrd7, hgr7, hkp⟩
      have hrow7 := hkp _ _ hrow5
      have hsz7 := hgr7.size
      clear hkp hrow5 hrd5 hgr5
      go_wp2_with (at_builtin; refine append_op _ (by rfl) _ _ (by rfl) _ _ ops4 (by rfl) hrow7 _ _ _ (by rfl) (by omega) (by omega) ?_; intro g cp w6 hrow6 hg6 hBg hglt)
      obtain ⟨hrd6, hgr6⟩ := after_append hr hrd7 hgr7 hrow7 hg6
      clear hg6 hBg hglt
      go_wp2
      go_ret
      exact ⟨_, _, _, rfl, hrow6, by simp; omega, by simp, by omega, by omega, hrd6, hgr6, fun nm => (HF.out nm).snoc (fit_peek hz0 hz1)⟩
    have f1 : (y == 1) = false := beq_eq_false_iff_ne.2 k1
    by_cases k2 : y = 2
    · subst k2
      go_wp2_with fail
      refine (pickIn hr hgr5 hrd5 _ (by omega) (by omega) (by omega)).mono ?_
      rintro e w7 ⟨z, rfl, hz0, hz1, hrd7, hgr7, hkp⟩
      have hrow7 := hkp _ _ hrow5
      have hsz7 := hgr7.size
      clear hkp hrow5 hrd5 hgr5
      go_wp2_with (at_builtin; refine append_op _ (by rfl) _ _ (by rfl) _ _ ops4 (by rfl) hrow7 _ _ _ (by rfl) (by omega) (by omega) ?_; intro g cp w6 hrow6 hg6 hBg hglt)
      obtain ⟨hrd6, hgr6⟩ := after_append hr hrd7 hgr7 hrow7 hg6
      clear hg6 hBg hglt
      go_wp2
      go_ret
      exact ⟨_, _, _, rfl, hrow6, by simp; omega, by simp, by omega, by omega, hrd6, hgr6, fun nm => (HF.out nm).snoc (fit_peek hz0 hz1)⟩
    have f2 : (y == 2) = false := beq_eq_false_iff_ne.2 k2
    by_cases k3 : y = 3
    · subst k3
      go_wp2_with (at_builtin; refine append_op _ (by rfl) _ _ (by rfl) _ _ ops4 (by rfl) hrow5 _ _ _ (by rfl) (by omega) (by omega) ?_; intro g cp w6 hrow6 hg6 hBg hglt)
      obtain ⟨hrd6, hgr6⟩ := after_append hr hrd5 hgr5 hrow5 hg6
      clear hg6 hBg hglt
      go_wp2
      go_ret
      exact ⟨_, _, _, rfl, hrow6, by simp; omega, by simp, by omega, by omega, hrd6, hgr6, fun nm => (HF.out nm).snoc fit_17⟩
    have f3 : (y == 3) = false := beq_eq_false_iff_ne.2 k3
    by_cases k4 : y = 4
    · subst k4
      go_wp2_with (at_builtin; refine append_op _ (by rfl) _ _ (by rfl) _ _ ops4 (by rfl) hrow5 _ _ _ (by rfl) (by omega) (by omega) ?_; intro g cp w6 hrow6 hg6 hBg hglt)
      obtain ⟨hrd6, hgr6⟩ := after_append hr hrd5 hgr5 hrow5 hg6
      clear hg6 hBg hglt
      go_wp2
      go_ret
      exact ⟨_, _, _, rfl, hrow6, by simp; omega, by simp, by omega, by omega, hrd6, hgr6, fun nm => (HF.out nm).snoc fit_18⟩
    have f4 : (y == 4) = false := beq_eq_false_iff_ne.2 k4
    go_wp2
    go_ret
    exact ⟨_, _, _, rfl, hrow5, by omega, by omega, by omega, by omega, hrd5, hgr5, fun nm => HF.out nm⟩
  have e0 : (x == 0) = false := beq_eq_false_iff_ne.2 h0
  by_cases h1 : x = 1
  · subst h1
    go_wp2_with fail
    refine (opsLitF hr hrd2 hgr2 [11, 0, 12, 0] _ _ _ rfl (by simp)).mono ?_
    rintro e w4 ⟨v4, ops4, rfl, hrow4, hl4, hm4, hrd4', hgr4, hpu⟩
    have HF : Hid (∀ nm, Fits nm t ops4) := fun nm => by rw [hpu]; exact Fits.append (.one fit_11) (.one fit_12)
    clear hpu
    simp only [List.length_cons, List.length_nil] at hl4 hm4
    obtain ⟨q4, hq4, hq4', hrd4⟩ : ∃ q4, p + 1 ≤ q4 ∧ q4 ≤ p + 2 ∧ Rd w4 b a len cap q4 := ⟨_, by omega, by omega, hrd4'⟩
    clear hrd4' hrow2 hrd2 hgr2
    clear hr1
    go_wp2_with fail
    refine (pickIn hr hgr4 hrd4 _ (by omega) (by omega) (by omega)).mono ?_
    rintro e w5 ⟨y, rfl, hy0, hy1, hrd5, hgr5, hkp⟩
    have hrow5 := hkp _ _ hrow4
    have hsz5 := hgr5.size
    clear hkp hrow4 hrd4 hgr4
    by_cases k0 : y = 0
    · subst k0
      go_wp2_with (at_builtin; refine append_op _ (by rfl) _ _ (by rfl) _ _ ops4 (by rfl) hrow5 _ _ _ (by rfl) (by omega) (by omega) ?_; intro g cp w6 hrow6 hg6 hBg hglt)
      obtain ⟨hrd6, hgr6⟩ := after_append hr hrd5 hgr5 hrow5 hg6
      clear hg6 hBg hglt
      go_wp2
      go_ret
      exact ⟨_, _, _, rfl, hrow6, by simp; omega, by simp, by omega, by omega, hrd6, hgr6, fun nm => (HF.out nm).snoc fit_12⟩
    have f0 : (y == 0) = false := beq_eq_false_iff_ne.2 k0
    by_cases k1 : y = 1
    · subst k1
      go_wp2_with fail
      refine (pickIn hr hgr5 hrd5 _ (by omega) (by omega) (by omega)).mono ?_
      rintro e w7 ⟨z, rfl, hz0, hz1, hrd7, hgr7, hkp⟩
      have hrow7 := hkp _ _ hrow5
      have hsz7 := hgr7.size
      clear hkp hrow5 hrd5 hgr5
      go_wp2_with (at_builtin; refine append_op _ (by rfl) _ _ (by rfl) _ _ ops4 (by rfl) hrow7 _ _ _ (by rfl) (by omega) (by omega) ?_; intro g cp w6 hrow6 hg6 hBg hglt)
      obtain ⟨hrd6, hgr6⟩ := after_append hr hrd7 hgr7 hrow7 hg6
      clear hg6 hBg hglt
      go_wp2
      go_ret
      exact ⟨_, _, _, rfl, hrow6, by simp; omega, by simp, by omega, by omega, hrd6, hgr6, fun nm => (HF.out nm).snoc (fit_peek hz0 hz1)⟩
    have f1 : (y == 1) = false := beq_eq_false_iff_ne.2 k1
    by_cases k2 : y = 2
    · subst k2
      go_wp2_with fail
      refine (pickIn hr hgr5 hrd5 _ (by omega) (by omega) (by omega)).mono ?_
      rintro e w7 ⟨z, rfl, hz0, hz1, hrd7, hgr7, hkp⟩
      have hrow7 := hkp _ _ hrow5
      have hsz7 := hgr7.size
      clear hkp hrow5 hrd5 hgr5
      go_wp2_with (at_builtin; refine append_op _ (by rfl) _ _ (by rfl) _ _ ops4 (by rfl) hrow7 _ _ _ (by rfl) (by omega) (by omega) ?_; intro g cp w6 hrow6 hg6 hBg hglt)
      obtain ⟨hrd6, hgr6⟩ := after_append hr hrd7 hgr7 hrow7 hg6
      clear hg6 hBg hglt
      go_wp2
      go_ret
      exact ⟨_, _, _, rfl, hrow6, by simp; omega, by simp, by omega, by omega, hrd6, hgr6, fun nm => (HF.out nm).snoc (fit_peek hz0 hz1)⟩
    have f2 : (y == 2) = false := beq_eq_false_iff_ne.2 k2
    by_cases k3 : y = 3
    · subst k3
      go_wp2_with (at_builtin; refine append_op _ (by rfl) _ _ (by rfl) _ _ ops4 (by rfl) hrow5 _ _ _ (by rfl) (by omega) (by omega) ?_; intro g cp w6 hrow6 hg6 hBg hglt)
      obtain ⟨hrd6, hgr6⟩ := after_append hr hrd5 hgr5 hrow5 hg6
      clear hg6 hBg hglt
      go_wp2
      go_ret
      exact ⟨_, _, _, rfl, hrow6, by simp; omega, by simp, by omega, by omega, hrd6, hgr6, fun nm => (HF.out nm).snoc fit_17⟩
    have f3 : (y == 3) = false := beq_eq_false_iff_ne.2 k3
    by_cases k4 : y = 4
    · subst k4
      go_wp2_with (at_builtin; refine append_op _ (by rfl) _ _ (by rfl) _ _ ops4 (by rfl) hrow5 _ _ _ (by rfl) (by omega) (by omega) ?_; intro g cp w6 hrow6 hg6 hBg hglt)
      obtain ⟨hrd6, hgr6⟩ := after_append hr hrd5 hgr5 hrow5 hg6
      clear hg6 hBg hglt
      go_wp2
      go_ret
      exact ⟨_, _, _, rfl, hrow6, by simp; omega, by simp, by omega, by omega, hrd6, hgr6, fun nm => (HF.out nm).snoc fit_18⟩
    have f4 : (y == 4) = false := beq_eq_false_iff_ne.2 k4
    go_wp2
    go_ret
    exact ⟨_, _, _, rfl, hrow5, by omega, by omega, by omega, by omega, hrd5, hgr5, fun nm => HF.out nm⟩
  have e1 : (x == 1) = false := beq_eq_false_iff_ne.2 h1
  by_cases h2 : x = 2
  · subst h2
    go_wp2_with fail
    refine (opsLitF hr hrd2 hgr2 [11, 0, 12, 0] _ _ _ rfl (by simp)).mono ?_
    rintro e w4 ⟨v4, ops4, rfl, hrow4, hl4, hm4, hrd4', hgr4, hpu⟩
    have HF : Hid (∀ nm, Fits nm t ops4) := fun nm => by rw [hpu]; exact Fits.append (.one fit_11) (.one fit_12)
    clear hpu
    simp only [List.length_cons, List.length_nil] at hl4 hm4
    obtain ⟨q4, hq4, hq4', hrd4⟩ : ∃ q4, p + 1 ≤ q4 ∧ q4 ≤ p + 2 ∧ Rd w4 b a len cap q4 := ⟨_, by omega, by omega, hrd4'⟩
    clear hrd4' hrow2 hrd2 hgr2
    clear hr1
    go_wp2_with fail
    refine (pickIn hr hgr4 hrd4 _ (by omega) (by omega) (by omega)).mono ?_
    rintro e w5 ⟨y, rfl, hy0, hy1, hrd5, hgr5, hkp⟩
    have hrow5 := hkp _ _ hrow4
    have hsz5 := hgr5.size
    clear hkp hrow4 hrd4 hgr4
    by_cases k0 : y = 0
    · subst k0
      go_wp2_with (at_builtin; refine append_op _ (by rfl) _ _ (by rfl) _ _ ops4 (by rfl) hrow5 _ _ _ (by rfl) (by omega) (by omega) ?_; intro g cp w6 hrow6 hg6 hBg hglt)
      obtain ⟨hrd6, hgr6⟩ := after_append hr hrd5 hgr5 hrow5 hg6
      clear hg6 hBg hglt
      go_wp2
      go_ret
      exact ⟨_, _, _, rfl, hrow6, by simp; omega, by simp, by omega, by omega, hrd6, hgr6, fun nm => (HF.out nm).snoc fit_12⟩
    have f0 : (y == 0) = false := beq_eq_false_iff_ne.2 k0
    by_cases k1 : y = 1
    · subst k1
      go_wp2_with fail
      refine (pickIn hr hgr5 hrd5 _ (by omega) (by omega) (by omega)).mono ?_
      rintro e w7 ⟨z, rfl, hz0, hz1, hrd7, hgr7, hkp⟩
      have hrow7 := hkp _ _ hrow5
      have hsz7 := hgr7.size
      clear hkp hrow5 hrd5 hgr5
      go_wp2_with (at_builtin; refine append_op _ (by rfl) _ _ (by rfl) _ _ ops4 (by rfl) hrow7 _ _ _ (by rfl) (by omega) (by omega) ?_; intro g cp w6 hrow6 hg6 hBg hglt)
      obtain ⟨hrd6, hgr6⟩ := after_append hr hrd7 hgr7 hrow7 hg6
      clear hg6 hBg hglt
      go_wp2
      go_ret
      exact ⟨_, _, _, rfl, hrow6, by simp; omega, by simp, by omega, by omega, hrd6, hgr6, fun nm => (HF.out nm).snoc (fit_peek hz0 hz1)⟩
    have f1 : (y == 1) = false := beq_eq_false_iff_ne.2 k1
    by_cases k2 : y = 2
    · subst k2
      go_wp2_with fail
      refine (pickIn hr hgr5 hrd5 _ (by omega) (by omega) (by omega)).mono ?_
      rintro e w7 ⟨z, rfl, hz0, hz1, hrd7, hgr7, hkp⟩
      have hrow7 := hkp _ _ hrow5
      have hsz7 := hgr7.size
      clear hkp hrow5 hrd5 hgr5
      go_wp2_with (at_builtin; refine append_op _ (by rfl) _ _ (by rfl) _ _ ops4 (by rfl) hrow7 _ _ _ (by rfl) (by omega) (by omega) ?_; intro g cp w6 hrow6 hg6 hBg hglt)
      obtain ⟨hrd6, hgr6⟩ := after_append hr hrd7 hgr7 hrow7 hg6
      clear hg6 hBg hglt
      go_wp2
      go_ret
      exact ⟨_, _, _, rfl, hrow6, by simp; omega, by simp, by omega, by omega, hrd6, hgr6, fun nm => (HF.out nm).snoc (fit_peek hz0 hz1)⟩
    have f2 : (y == 2) = false := beq_eq_false_iff_ne.2 k2
    by_cases k3 : y = 3
    · subst k3
      go_wp2_with (at_builtin; refine append_op _ (by rfl) _ _ (by rfl) _ _ ops4 (by rfl) hrow5 _ _ _ (by rfl) (by omega) (by omega) ?_; intro g cp w6 hrow6 hg6 hBg hglt)
      obtain ⟨hrd6, hgr6⟩ := after_append hr hrd5 hgr5 hrow5 hg6
      clear hg6 hBg hglt
      go_wp2
      go_ret
      exact ⟨_, _, _, rfl, hrow6, by simp; omega, by simp, by omega, by omega, hrd6, hgr6, fun nm => (HF.out nm).snoc fit_17⟩
    have f3 : (y == 3) = false := beq_eq_false_iff_ne.2 k3
    by_cases k4 : y = 4
    · subst k4
      go_wp2_with (at_builtin; refine append_op _ (by rfl) _ _ (by rfl) _ _ ops4 (by rfl) hrow5 _ _ _ (by rfl) (by omega) (by omega) ?_; intro g cp w6 hrow6 hg6 hBg hglt)
      obtain ⟨hrd6, hgr6⟩ := after_append hr hrd5 hgr5 hrow5 hg6
      clear hg6 hBg hglt
      go_wp2
      go_ret
      exact ⟨_, _, _, rfl, hrow6, by simp; omega, by simp, by omega, by omega, hrd6, hgr6, fun nm => (HF.out nm).snoc fit_18⟩
    have f4 : (y == 4) = false := beq_eq_false_iff_ne.2 k4
    go_wp2
    go_ret
    exact ⟨_, _, _, rfl, hrow5, by omega, by omega, by omega, by omega, hrd5, hgr5, fun nm => HF.out nm⟩
  have e2 : (x == 2) = false := beq_eq_false_iff_ne.2 h2
  obtain ⟨q4, hq4, hq4', hrd4⟩ : ∃ q4, p + 1 ≤ q4 ∧ q4 ≤ p + 2 ∧ Rd w2 b a len cap q4 := ⟨_, by omega, by omega, hrd2⟩
  have hrow4 := hrow2
  have hgr4 := hgr2
  have hl4 := hl1
  clear hrow2 hgr2 hrd2
  clear hr1
  go_wp2_with fail
  refine (pickIn hr hgr4 hrd4 _ (by omega) (by omega) (by omega)).mono ?_
  rintro e w5 ⟨y, rfl, hy0, hy1, hrd5, hgr5, hkp⟩
  have hrow5 := hkp _ _ hrow4
  have hsz5 := hgr5.size
  clear hkp hrow4 hrd4 hgr4
  by_cases k0 : y = 0
  · subst k0
    go_wp2_with (at_builtin; refine append_op _ (by rfl) _ _ (by rfl) _ _ ops1 (by rfl) hrow5 _ _ _ (by rfl) (by omega) (by omega) ?_; intro g cp w6 hrow6 hg6 hBg hglt)
    obtain ⟨hrd6, hgr6⟩ := after_append hr hrd5 hgr5 hrow5 hg6
    clear hg6 hBg hglt
    go_wp2
    go_ret
    exact ⟨_, _, _, rfl, hrow6, by simp; omega, by simp, by omega, by omega, hrd6, hgr6, fun nm => (HF.out nm).snoc fit_12⟩
  have f0 : (y == 0) = false := beq_eq_false_iff_ne.2 k0
  by_cases k1 : y = 1
  · subst k1
    go_wp2_with fail
    refine (pickIn hr hgr5 hrd5 _ (by omega) (by omega) (by omega)).mono ?_
    rintro e w7 ⟨z, rfl, hz0, hz1, hrd7, hgr7, hkp⟩
    have hrow7 := hkp _ _ hrow5
    have hsz7 := hgr7.size
    clear hkp hrow5 hrd5 hgr5
    go_wp2_with (at_builtin; refine append_op _ (by rfl) _ _ (by rfl) _ _ ops1 (by rfl) hrow7 _ _ _ (by rfl) (by omega) (by omega) ?_; intro g cp w6 hrow6 hg6 hBg hglt)
    obtain ⟨hrd6, hgr6⟩ := after_append hr hrd7 hgr7 hrow7 hg6
    clear hg6 hBg hglt
    go_wp2
    go_ret
    exact ⟨_, _, _, rfl, hrow6, by simp; omega, by simp, by omega, by omega, hrd6, hgr6, fun nm => (HF.out nm).snoc (fit_peek hz0 hz1)⟩
  have f1 : (y == 1) = false := beq_eq_false_iff_ne.2 k1
  by_cases k2 : y = 2
  · subst k2
    go_wp2_with fail
    refine (pickIn hr hgr5 hrd5 _ (by omega) (by omega) (by omega)).mono ?_
    rintro e w7 ⟨z, rfl, hz0, hz1, hrd7, hgr7, hkp⟩
    have hrow7 := hkp _ _ hrow5
    have hsz7 := hgr7.size
    clear hkp hrow5 hrd5 hgr5
    go_wp2_with (at_builtin; refine append_op _ (by rfl) _ _ (by rfl) _ _ ops1 (by rfl) hrow7 _ _ _ (by rfl) (by omega) (by omega) ?_; intro g cp w6 hrow6 hg6 hBg hglt)
    obtain ⟨hrd6, hgr6⟩ := after_append hr hrd7 hgr7 hrow7 hg6
    clear hg6 hBg hglt
    go_wp2
    go_ret
    exact ⟨_, _, _, rfl, hrow6, by simp; omega, by simp, by omega, by omega, hrd6, hgr6, fun nm => (HF.out nm).snoc (fit_peek hz0 hz1)⟩
  have f2 : (y == 2) = false := beq_eq_false_iff_ne.2 k2
  by_cases k3 : y = 3
  · subst k3
    go_wp2_with (at_builtin; refine append_op _ (by rfl) _ _ (by rfl) _ _ ops1 (by rfl) hrow5 _ _ _ (by rfl) (by omega) (by omega) ?_; intro g cp w6 hrow6 hg6 hBg hglt)
    obtain ⟨hrd6, hgr6⟩ := after_append hr hrd5 hgr5 hrow5 hg6
    clear hg6 hBg hglt
    go_wp2
    go_ret
    exact ⟨_, _, _, rfl, hrow6, by simp; omega, by simp, by omega, by omega, hrd6, hgr6, fun nm => (HF.out nm).snoc fit_17⟩
  have f3 : (y == 3) = false := beq_eq_false_iff_ne.2 k3
  by_cases k4 : y = 4
  · subst k4
    go_wp2_with (at_builtin; refine append_op _ (by rfl) _ _ (by rfl) _ _ ops1 (by rfl) hrow5 _ _ _ (by rfl) (by omega) (by omega) ?_; intro g cp w6 hrow6 hg6 hBg hglt)
    obtain ⟨hrd6, hgr6⟩ := after_append hr hrd5 hgr5 hrow5 hg6
    clear hg6 hBg hglt
    go_wp2
    go_ret
    exact ⟨_, _, _, rfl, hrow6, by simp; omega, by simp, by omega, by omega, hrd6, hgr6, fun nm => (HF.out nm).snoc fit_18⟩
  have f4 : (y == 4) = false := beq_eq_false_iff_ne.2 k4
  go_wp2
  go_ret
  exact ⟨_, _, _, rfl, hrow5, by omega, by omega, by omega, by omega, hrd5, hgr5, fun nm => HF.out nm⟩

theorem l71Look_any (w : World) (b : Nat) (a : Option Addr) (len cap p : Nat) (t : Int) (hr : Rd w b a len cap p) (hp : p + 4 ≤ 1000000) (ht1 : 1 ≤ t) (ht4 : t ≤ 4) :
    Calls Try.prog 162 #[.pointer (some ⟨b, 0, none⟩), .int .i64 t] w fun e w' => ∃ v ops p', e = .returned v ∧ OpsRow w.heap.size w' v ops ∧ ops.length ≤ 3 ∧ 1 ≤ ops.length ∧ p ≤ p' ∧ p' ≤ p + 4 ∧ Rd w' b a len cap p' ∧ w.grownBy w' (some b) :=
  (l71Look_fit w b a len cap p t hr hp ht1 ht4).mono fun _ _ ⟨v, ops, p', h1, h2, h3, h4, h5, h6, h7, h8, _⟩ => ⟨v, ops, p', h1, h2, h3, h4, h5, h6, h7, h8⟩

end Go.Proofs.Ytldiccheboipeaa
