/-
  What draws: l71Ops makes operations of numbers, two by two; what a pick is in the middle of a draw.
-/
import Derived.Test.YtldiccheboipeaaDraw2

namespace Go.Proofs.Ytldiccheboipeaa
open Go.RowKit
theorem below_grown {w w' : World} (h : Below w.heap.size w w') (b : Option Nat) : w.grownBy w' b := ⟨h.os, h.tape, h.output, h.size, fun k hk _ => h.block k hk⟩
theorem append_cell {w W w' : World} {v : Value} {L : List (Int × Int)} {B : Nat} (hown : OpsRow B w v L) (hg2 : W.grownBy w' v.ownBlock) {p : Addr} (hp : p.block < B) (hW : Below w.heap.size w W) {u : Value} (h : w.cell? p = some u) : w'.cell? p = some u :=
  hg2.cell (cell_below hW h) (fun e => by have := hown.lt _ e.symm; omega)
theorem append_below {w0 w W w' : World} {v : Value} {L : List (Int × Int)} (hown : OpsRow w0.heap.size w v L) (hg2 : W.grownBy w' v.ownBlock) (hW : Below w.heap.size w W) (hb : Below w0.heap.size w0 w) : Below w0.heap.size w0 w' :=
  (hb.trans (hW.mono hb.size)).grown hg2 (Nat.le_trans hb.size hW.size) (fun k e => (hown.lt k e).1)
def pairUp : List Int → List (Int × Int)
  | x :: y :: l => (x, y) :: pairUp l
  | _ => []
theorem pairUp_snoc : ∀ (k : Nat) (xs : List Int) (h : 2 * k + 1 < xs.length), pairUp (xs.take (2 * k + 2)) = pairUp (xs.take (2 * k)) ++ [(xs[2 * k], xs[2 * k + 1])]
  | 0, x :: y :: l, _ => by simp [pairUp]
  | k + 1, x :: y :: l, h => by
    have e1 : 2 * (k + 1) + 2 = (2 * k + 2) + 2 := by omega
    have e2 : 2 * (k + 1) = 2 * k + 2 := by omega
    have ih := pairUp_snoc k l (by simp at h; omega)
    simp only [e2, List.take_succ_cons, pairUp, ih, List.getElem_cons_succ, List.cons_append]
  | _, [], h => by simp at h
  | _, [x], h => by simp at h
theorem pairUp_end : ∀ (k : Nat) (xs : List Int), xs.length ≤ 2 * k + 1 → pairUp (xs.take (2 * k)) = pairUp xs
  | 0, [], _ => rfl
  | 0, [x], _ => rfl
  | 0, x :: y :: l, h => by simp at h
  | k + 1, [], _ => rfl
  | k + 1, [x], _ => by
    have e2 : 2 * (k + 1) = 2 * k + 2 := by omega
    simp only [e2, List.take_succ_cons, List.take_nil]
  | k + 1, x :: y :: l, h => by
    have e2 : 2 * (k + 1) = 2 * k + 2 := by omega
    have ih := pairUp_end k l (by simp at h; omega)
    simp only [e2, List.take_succ_cons, pairUp, ih]
set_option maxRecDepth 100000 in
set_option maxHeartbeats 1000000 in
theorem l71Ops_fit (w : World) (g cap : Nat) (xs : List Int) (hx : ∀ i, (hi : i < xs.length) → w.cell? ⟨g, i, none⟩ = some (.int .i64 xs[i])) (hl : xs.length ≤ 20) :
    Calls Try.prog 159 #[.slice (some ⟨g, 0, none⟩) xs.length cap] w fun e w' => ∃ v ops, e = .returned v ∧ OpsRow w.heap.size w' v ops ∧ ops.length * 2 ≤ xs.length ∧ xs.length ≤ ops.length * 2 + 1 ∧ Below w.heap.size w w' ∧ ops = pairUp xs := by
  go_enter Try.func159, Try.ntmps159
  go_wp2
  go_loopg [3, 4] xs.length (fun d v i wr => ∃ (L : List (Int × Int)) (k : Nat), k ≤ xs.length ∧ d = xs.length - k ∧ i = .int .i64 k ∧ OpsRow w.heap.size wr v L ∧ Below w.heap.size w wr ∧ Hid (k = L.length * 2 ∧ L = pairUp (xs.take (2 * L.length))))
  case atStart => exact ⟨[], 0, Nat.zero_le _, rfl, rfl, OpsRow.made w, (Below.refl _ _).alloc (Nat.le_refl _) _, rfl, rfl⟩
  case round =>
    obtain ⟨L, k, hk, rfl, rfl, hrow, hb, HK⟩ := hrel
    by_cases hlt : k + 1 < xs.length
    · have hkz : (k : Int) + 1 < (xs.length : Int) := by omega
      have hkz0 : (k : Int) < (xs.length : Int) := by omega
      have hk0 : (0 : Int) ≤ (k : Int) := by omega
      have hk1 : (0 : Int) ≤ (k : Int) + 1 := by omega
      have hw : IntKind.i64.wrap ((k : Int) + 1) = (k : Int) + 1 := by rw [IntKind.wrap_i64]; omega
      have d0 := cell_below hb (hx k (by omega))
      have d1 := cell_below hb (hx (k + 1) (by omega))
      have hsz := hb.size
      have hgw : g < w.heap.size := World.block_lt_of_cell? _ _ (hx k (by omega))
      have hLl : L.length ≤ 20 := by have := HK.out.1; omega
      have HP : Hid (∀ y0 y1, xs[k]? = some y0 → xs[k + 1]? = some y1 → L ++ [(y0, y1)] = pairUp (xs.take (2 * (L ++ [(y0, y1)]).length))) := by
        intro y0 y1 e0 e1
        obtain ⟨hk2, hL2⟩ := HK.out
        have ek : k = 2 * L.length := by omega
        have e2 : 2 * (L ++ [(y0, y1)]).length = 2 * L.length + 2 := by simp; omega
        have g0 := List.getElem?_eq_some_iff.1 (ek ▸ e0)
        have g1 := List.getElem?_eq_some_iff.1 (ek ▸ e1)
        rw [e2, pairUp_snoc L.length xs (by omega), ← hL2, g0.2, g1.2]
      have HP0 : Hid (xs[k]? = some xs[k]) := List.getElem?_eq_getElem (by omega)
      have HP1 : Hid (xs[k + 1]? = some xs[k + 1]) := List.getElem?_eq_getElem (by omega)
      have HPP : Hid (L ++ [(xs[k], xs[k + 1])] = pairUp (xs.take (2 * (L ++ [(xs[k], xs[k + 1])]).length))) := HP.out _ _ HP0.out HP1.out
      clear HP HP0 HP1
      generalize xs[k] = x0 at d0 HPP
      generalize xs[k + 1] = x1 at d1 HPP
      go_wp2_with fail
      go_region_held3 (fun w' => w'.cell? ⟨g, k, none⟩ = some (.int .i64 x0) ∧ w'.cell? ⟨g, k + 1, none⟩ = some (.int .i64 x1))
        (first | exact ⟨append_cell hrow hg2 hgw ((Below.refl _ _).alloc (Nat.le_refl _) _).drew d0, append_cell hrow hg2 hgw ((Below.refl _ _).alloc (Nat.le_refl _) _).drew d1⟩ | go_keep)
        ((refine step_ops _ (by rfl) _ _ (by rfl) w.heap.size _ L (by rfl) (World.ownsRow.alloc hrow _) [(x0, x1)] wr.heap.size _ (by rfl) (World.news_of_block (Go.Deep.blk_alloc_new wr _)) (by simp) (by simp; omega) (by simp; omega) ?_; intro g' cp w2 hrow2 hg2 hBg hglt))
      have hb2 : Below w.heap.size w w2 := append_below hrow hg2 ((Below.refl _ _).alloc (Nat.le_refl _) _).drew hb
      have HK2 : Hid (k + 2 = (L ++ [(x0, x1)]).length * 2 ∧ L ++ [(x0, x1)] = pairUp (xs.take (2 * (L ++ [(x0, x1)]).length))) := by have := HK.out.1; exact ⟨by simp; omega, HPP.out⟩
      clear hg2 hrow hb d0 d1 HK HPP hBg hglt hw
      go_wp2
      go_roundg (xs.length - (k + 2))
      case measure => omega
      case rel => exact ⟨_, k + 2, by omega, rfl, by go_num, hrow2, hb2, HK2⟩
    · go_wp2
      go_ret
      exact ⟨_, L, rfl, hrow, by have := HK.out.1; omega, by have := HK.out.1; omega, hb, by rw [← pairUp_end L.length xs (by have := HK.out.1; omega)]; exact HK.out.2⟩
theorem opsLitF {w0 w : World} {b : Nat} {a : Option Addr} {len cap p0 p : Nat} (h0 : Rd w0 b a len cap p0) (hr : Rd w b a len cap p) (hg : w0.grownBy w (some b)) (xs : List Int) (cs : Array Value) (t : TypeId) (c : Nat) (hcs : cs = (xs.map fun x => Value.int .i64 x).toArray) (hl : xs.length ≤ 20) :
    Calls Try.prog 159 #[.slice (some ⟨w.heap.size, 0, none⟩) xs.length c] (w.alloc (.cells cs t)) fun e w' => ∃ v ops, e = .returned v ∧ OpsRow w0.heap.size w' v ops ∧ ops.length * 2 ≤ xs.length ∧ xs.length ≤ ops.length * 2 + 1 ∧ Rd w' b a len cap p ∧ w0.grownBy w' (some b) ∧ ops = pairUp xs := by
  subst hcs
  refine (l71Ops_fit _ w.heap.size c xs (fun i hi => ?_) hl).mono ?_
  · simp [hi]
  · rintro e w' ⟨v, ops, rfl, hrow, hlen, hlen', hb, hpu⟩
    have hA := World.grownBy_alloc w (.cells (xs.map fun x => Value.int .i64 x).toArray t) none
    have hN : w.grownBy w' none := ⟨hb.os.trans hA.os, hb.tape.trans hA.tape, hb.output.trans hA.output, Nat.le_trans hA.size hb.size, fun i hi hn => (hb.block i (Nat.lt_of_lt_of_le hi hA.size)).trans (hA.block i hi hn)⟩
    exact ⟨v, ops, rfl, hrow.mono (by have := hg.size; simp; omega), hlen, hlen', Rd.kept h0 hr hg.size hN (fun g e => by cases e), grown_own hg hN (fun g e => by cases e), hpu⟩
theorem pickIn {w0 w : World} {b : Nat} {a : Option Addr} {len cap p0 p : Nat} (h0 : Rd w0 b a len cap p0) (hg : w0.grownBy w (some b)) (hr : Rd w b a len cap p) (n : Int) (hp : p ≤ 1000000) (h1 : 1 ≤ n) (h2 : n ≤ 1000000) :
    Calls Try.prog 83 #[.pointer (some ⟨b, 0, none⟩), .int .i64 n] w fun e w' => ∃ x : Int, e = .returned (.int .i64 x) ∧ 0 ≤ x ∧ x < n ∧ Rd w' b a len cap (p + 1) ∧ w0.grownBy w' (some b) ∧ ∀ v L, OpsRow w0.heap.size w v L → OpsRow w0.heap.size w' v L := by
  have hb : b < w0.heap.size := World.block_lt_of_cell? _ _ h0.s
  refine (pick_any _ _ _ _ _ _ _ hr hp h1 h2).mono ?_
  rintro e w' ⟨x, rfl, hx0, hx1, hrd, hgr⟩
  exact ⟨x, rfl, hx0, hx1, hrd, grown_trans hg hgr, fun v L h => h.kept hgr (fun g e k => by cases e; have := h.lt _ k; omega)⟩
end Go.Proofs.Ytldiccheboipeaa

/-
  What draws: l71Look draws operations that look at a call.
-/
namespace Go.Proofs.Ytldiccheboipeaa
open Go.RowKit
set_option maxRecDepth 100000 in
set_option maxHeartbeats 1000000 in
theorem l71Look_fit (w : World) (b : Nat) (a : Option Addr) (len cap p : Nat) (t : Int) (hr : Rd w b a len cap p) (hp : p + 4 ≤ 1000000) (ht1 : 1 ≤ t) (ht4 : t ≤ 4) :
    Calls Try.prog 162 #[.pointer (some ⟨b, 0, none⟩), .int .i64 t] w fun e w' => ∃ v ops p', e = .returned v ∧ OpsRow w.heap.size w' v ops ∧ ops.length ≤ 3 ∧ 1 ≤ ops.length ∧ p ≤ p' ∧ p' ≤ p + 4 ∧ Rd w' b a len cap p' ∧ w.grownBy w' (some b) ∧ ∀ nm, Fits nm t ops := by
  go_enter Try.func162, Try.ntmps162
  go_wp2_with fail
  refine (opsLitF hr hr (grown_refl _ _) [11, 0] _ _ _ rfl (by decide)).mono ?_
  rintro e w1 ⟨v1, ops1, rfl, hrow1, hl1, hm1, hrd1, hgr1, hpu⟩
  have HF : Hid (∀ nm, Fits nm t ops1) := fun nm => by rw [hpu]; exact .one fit_11
  clear hpu
  go_wp2_with fail
  refine (pickIn hr hgr1 hrd1 _ (by omega) (by omega) (by omega)).mono ?_
  rintro e w2 ⟨x, rfl, hx0, hx1, hrd2, hgr2, hkp⟩
  have hrow2 := hkp _ _ hrow1
  clear hkp hrow1 hrd1 hgr1
  simp only [List.length_cons, List.length_nil] at hl1 hm1
  have hr1 := hr
  by_cases h0 : x = 0
  · subst h0
    go_wp2_with fail
    refine (pickIn hr hgr2 hrd2 _ (by omega) (by omega) (by omega)).mono ?_
    rintro e w3 ⟨u, rfl, hu0, hu1, hrd3, hgr3, _⟩
    clear hrow2 hrd2 hgr2
    go_wp2_with fail
    refine (opsLitF hr hrd3 hgr3 [2, u] _ _ _ rfl (by simp)).mono ?_
    rintro e w4 ⟨v4, ops4, rfl, hrow4, hl4, hm4, hrd4', hgr4, hpu⟩
    have HF : Hid (∀ nm, Fits nm t ops4) := fun nm => by rw [hpu]; exact .one (fit_temp hu0 hu1)
    clear hpu
    simp only [List.length_cons, List.length_nil] at hl4 hm4
    obtain ⟨q4, hq4, hq4', hrd4⟩ : ∃ q4, p + 1 ≤ q4 ∧ q4 ≤ p + 2 ∧ Rd w4 b a len cap q4 := ⟨_, by omega, by omega, hrd4'⟩
    clear hrd4' hrd3 hgr3
    clear hr1
    go_wp2_with fail
    refine (pickIn hr hgr4 hrd4 _ (by omega) (by omega) (by omega)).mono ?_
    rintro e w5 ⟨y, rfl, hy0, hy1, hrd5, hgr5, hkp⟩
    have hrow5 := hkp _ _ hrow4
    have hsz5 := hgr5.size
    clear hkp hrow4 hrd4 hgr4
    by_cases k0 : y = 0
    · subst k0
      go_wp2_with (at_builtin; refine append_op _ (by rfl) _ _ (by rfl) _ _ ops4 (by rfl) hrow5 _ _ _ (by rfl) (by omega) (by omega) ?_; intro g cp w6 hrow6 hg6 hBg hglt)
      obtain ⟨hrd6, hgr6⟩ := after_append hr hrd5 hgr5 hrow5 hg6
      clear hg6 hBg hglt
      go_wp2
      go_ret
      exact ⟨_, _, _, rfl, hrow6, by simp; omega, by simp, by omega, by omega, hrd6, hgr6, fun nm => (HF.out nm).snoc fit_12⟩
    have f0 : (y == 0) = false := beq_eq_false_iff_ne.2 k0
    by_cases k1 : y = 1
    · subst k1
      go_wp2_with fail
      refine (pickIn hr hgr5 hrd5 _ (by omega) (by omega) (by omega)).mono ?_
      rintro e w7 ⟨z, rfl, hz0, hz1, hrd7, hgr7, hkp⟩
      have hrow7 := hkp _ _ hrow5
      have hsz7 := hgr7.size
      clear hkp hrow5 hrd5 hgr5
      go_wp2_with (at_builtin; refine append_op _ (by rfl) _ _ (by rfl) _ _ ops4 (by rfl) hrow7 _ _ _ (by rfl) (by omega) (by omega) ?_; intro g cp w6 hrow6 hg6 hBg hglt)
      obtain ⟨hrd6, hgr6⟩ := after_append hr hrd7 hgr7 hrow7 hg6
      clear hg6 hBg hglt
      go_wp2
      go_ret
      exact ⟨_, _, _, rfl, hrow6, by simp; omega, by simp, by omega, by omega, hrd6, hgr6, fun nm => (HF.out nm).snoc (fit_peek hz0 hz1)⟩
    have f1 : (y == 1) = false := beq_eq_false_iff_ne.2 k1
    by_cases k2 : y = 2
    · subst k2
      go_wp2_with fail
      refine (pickIn hr hgr5 hrd5 _ (by omega) (by omega) (by omega)).mono ?_
      rintro e w7 ⟨z, rfl, hz0, hz1, hrd7, hgr7, hkp⟩
      have hrow7 := hkp _ _ hrow5
      have hsz7 := hgr7.size
      clear hkp hrow5 hrd5 hgr5
      go_wp2_with (at_builtin; refine append_op _ (by rfl) _ _ (by rfl) _ _ ops4 (by rfl) hrow7 _ _ _ (by rfl) (by omega) (by omega) ?_; intro g cp w6 hrow6 hg6 hBg hglt)
      obtain ⟨hrd6, hgr6⟩ := after_append hr hrd7 hgr7 hrow7 hg6
      clear hg6 hBg hglt
      go_wp2
      go_ret
      exact ⟨_, _, _, rfl, hrow6, by simp; omega, by simp, by omega, by omega, hrd6, hgr6, fun nm => (HF.out nm).snoc (fit_peek hz0 hz1)⟩
    have f2 : (y == 2) = false := beq_eq_false_iff_ne.2 k2
    by_cases k3 : y = 3
    · subst k3
      go_wp2_with (at_builtin; refine append_op _ (by rfl) _ _ (by rfl) _ _ ops4 (by rfl) hrow5 _ _ _ (by rfl) (by omega) (by omega) ?_; intro g cp w6 hrow6 hg6 hBg hglt)
      obtain ⟨hrd6, hgr6⟩ := after_append hr hrd5 hgr5 hrow5 hg6
      clear hg6 hBg hglt
      go_wp2
      go_ret
      exact ⟨_, _, _, rfl, hrow6, by simp; omega, by simp, by omega, by omega, hrd6, hgr6, fun nm => (HF.out nm).snoc fit_17⟩
    have f3 : (y == 3) = false := beq_eq_false_iff_ne.2 k3
    by_cases k4 : y = 4
    · subst k4
      go_wp2_with (at_builtin; refine append_op _ (by rfl) _ _ (by rfl) _ _ ops4 (by rfl) hrow5 _ _ _ (by rfl) (by omega) (by omega) ?_; intro g cp w6 hrow6 hg6 hBg hglt)
      obtain ⟨hrd6, hgr6⟩ := after_append hr hrd5 hgr5 hrow5 hg6
      clear hg6 hBg hglt
      go_wp2
      go_ret
      exact ⟨_, _, _, rfl, hrow6, by simp; omega, by simp, by omega, by omega, hrd6, hgr6, fun nm => (HF.out nm).snoc fit_18⟩
    have f4 : (y == 4) = false := beq_eq_false_iff_ne.2 k4
    go_wp2
    go_ret
    exact ⟨_, _, _, rfl, hrow5, by omega, by omega, by omega, by omega, hrd5, hgr5, fun nm => HF.out nm⟩
  have e0 : (x == 0) = false := beq_eq_false_iff_ne.2 h0
  by_cases h1 : x = 1
  · subst h1
    go_wp2_with fail
    refine (opsLitF hr hrd2 hgr2 [11, 0, 12, 0] _ _ _ rfl (by simp)).mono ?_
    rintro e w4 ⟨v4, ops4, rfl, hrow4, hl4, hm4, hrd4', hgr4, hpu⟩
    have HF : Hid (∀ nm, Fits nm t ops4) := fun nm => by rw [hpu]; exact Fits.append (.one fit_11) (.one fit_12)
    clear hpu
    simp only [List.length_cons, List.length_nil] at hl4 hm4
    obtain ⟨q4, hq4, hq4', hrd4⟩ : ∃ q4, p + 1 ≤ q4 ∧ q4 ≤ p + 2 ∧ Rd w4 b a len cap q4 := ⟨_, by omega, by omega, hrd4'⟩
    clear hrd4' hrow2 hrd2 hgr2
    clear hr1
    go_wp2_with fail
    refine (pickIn hr hgr4 hrd4 _ (by omega) (by omega) (by omega)).mono ?_
    rintro e w5 ⟨y, rfl, hy0, hy1, hrd5, hgr5, hkp⟩
    have hrow5 := hkp _ _ hrow4
    have hsz5 := hgr5.size
    clear hkp hrow4 hrd4 hgr4
    by_cases k0 : y = 0
    · subst k0
      go_wp2_with (at_builtin; refine append_op _ (by rfl) _ _ (by rfl) _ _ ops4 (by rfl) hrow5 _ _ _ (by rfl) (by omega) (by omega) ?_; intro g cp w6 hrow6 hg6 hBg hglt)
      obtain ⟨hrd6, hgr6⟩ := after_append hr hrd5 hgr5 hrow5 hg6
      clear hg6 hBg hglt
      go_wp2
      go_ret
      exact ⟨_, _, _, rfl, hrow6, by simp; omega, by simp, by omega, by omega, hrd6, hgr6, fun nm => (HF.out nm).snoc fit_12⟩
    have f0 : (y == 0) = false := beq_eq_false_iff_ne.2 k0
    by_cases k1 : y = 1
    · subst k1
      go_wp2_with fail
      refine (pickIn hr hgr5 hrd5 _ (by omega) (by omega) (by omega)).mono ?_
      rintro e w7 ⟨z, rfl, hz0, hz1, hrd7, hgr7, hkp⟩
      have hrow7 := hkp _ _ hrow5
      have hsz7 := hgr7.size
      clear hkp hrow5 hrd5 hgr5
      go_wp2_with (at_builtin; refine append_op _ (by rfl) _ _ (by rfl) _ _ ops4 (by rfl) hrow7 _ _ _ (by rfl) (by omega) (by omega) ?_; intro g cp w6 hrow6 hg6 hBg hglt)
      obtain ⟨hrd6, hgr6⟩ := after_append hr hrd7 hgr7 hrow7 hg6
      clear hg6 hBg hglt
      go_wp2
      go_ret
      exact ⟨_, _, _, rfl, hrow6, by simp; omega, by simp, by omega, by omega, hrd6, hgr6, fun nm => (HF.out nm).snoc (fit_peek hz0 hz1)⟩
    have f1 : (y == 1) = false := beq_eq_false_iff_ne.2 k1
    by_cases k2 : y = 2
    · subst k2
      go_wp2_with fail
      refine (pickIn hr hgr5 hrd5 _ (by omega) (by omega) (by omega)).mono ?_
      rintro e w7 ⟨z, rfl, hz0, hz1, hrd7, hgr7, hkp⟩
      have hrow7 := hkp _ _ hrow5
      have hsz7 := hgr7.size
      clear hkp hrow5 hrd5 hgr5
      go_wp2_with (at_builtin; refine append_op _ (by rfl) _ _ (by rfl) _ _ ops4 (by rfl) hrow7 _ _ _ (by rfl) (by omega) (by omega) ?_; intro g cp w6 hrow6 hg6 hBg hglt)
      obtain ⟨hrd6, hgr6⟩ := after_append hr hrd7 hgr7 hrow7 hg6
      clear hg6 hBg hglt
      go_wp2
      go_ret
      exact ⟨_, _, _, rfl, hrow6, by simp; omega, by simp, by omega, by omega, hrd6, hgr6, fun nm => (HF.out nm).snoc (fit_peek hz0 hz1)⟩
    have f2 : (y == 2) = false := beq_eq_false_iff_ne.2 k2
    by_cases k3 : y = 3
    · subst k3
      go_wp2_with (at_builtin; refine append_op _ (by rfl) _ _ (by rfl) _ _ ops4 (by rfl) hrow5 _ _ _ (by rfl) (by omega) (by omega) ?_; intro g cp w6 hrow6 hg6 hBg hglt)
      obtain ⟨hrd6, hgr6⟩ := after_append hr hrd5 hgr5 hrow5 hg6
      clear hg6 hBg hglt
      go_wp2
      go_ret
      exact ⟨_, _, _, rfl, hrow6, by simp; omega, by simp, by omega, by omega, hrd6, hgr6, fun nm => (HF.out nm).snoc fit_17⟩
    have f3 : (y == 3) = false := beq_eq_false_iff_ne.2 k3
    by_cases k4 : y = 4
    · subst k4
      go_wp2_with (at_builtin; refine append_op _ (by rfl) _ _ (by rfl) _ _ ops4 (by rfl) hrow5 _ _ _ (by rfl) (by omega) (by omega) ?_; intro g cp w6 hrow6 hg6 hBg hglt)
      obtain ⟨hrd6, hgr6⟩ := after_append hr hrd5 hgr5 hrow5 hg6
      clear hg6 hBg hglt
      go_wp2
      go_ret
      exact ⟨_, _, _, rfl, hrow6, by simp; omega, by simp, by omega, by omega, hrd6, hgr6, fun nm => (HF.out nm).snoc fit_18⟩
    have f4 : (y == 4) = false := beq_eq_false_iff_ne.2 k4
    go_wp2
    go_ret
    exact ⟨_, _, _, rfl, hrow5, by omega, by omega, by omega, by omega, hrd5, hgr5, fun nm => HF.out nm⟩
  have e1 : (x == 1) = false := beq_eq_false_iff_ne.2 h1
  by_cases h2 : x = 2
  · subst h2
    go_wp2_with fail
    refine (opsLitF hr hrd2 hgr2 [11, 0, 12, 0] _ _ _ rfl (by simp)).mono ?_
    rintro e w4 ⟨v4, ops4, rfl, hrow4, hl4, hm4, hrd4', hgr4, hpu⟩
    have HF : Hid (∀ nm, Fits nm t ops4) := fun nm => by rw [hpu]; exact Fits.append (.one fit_11) (.one fit_12)
    clear hpu
    simp only [List.length_cons, List.length_nil] at hl4 hm4
    obtain ⟨q4, hq4, hq4', hrd4⟩ : ∃ q4, p + 1 ≤ q4 ∧ q4 ≤ p + 2 ∧ Rd w4 b a len cap q4 := ⟨_, by omega, by omega, hrd4'⟩
    clear hrd4' hrow2 hrd2 hgr2
    clear hr1
    go_wp2_with fail
    refine (pickIn hr hgr4 hrd4 _ (by omega) (by omega) (by omega)).mono ?_
    rintro e w5 ⟨y, rfl, hy0, hy1, hrd5, hgr5, hkp⟩
    have hrow5 := hkp _ _ hrow4
    have hsz5 := hgr5.size
    clear hkp hrow4 hrd4 hgr4
    by_cases k0 : y = 0
    · subst k0
      go_wp2_with (at_builtin; refine append_op _ (by rfl) _ _ (by rfl) _ _ ops4 (by rfl) hrow5 _ _ _ (by rfl) (by omega) (by omega) ?_; intro g cp w6 hrow6 hg6 hBg hglt)
      obtain ⟨hrd6, hgr6⟩ := after_append hr hrd5 hgr5 hrow5 hg6
      clear hg6 hBg hglt
      go_wp2
      go_ret
      exact ⟨_, _, _, rfl, hrow6, by simp; omega, by simp, by omega, by omega, hrd6, hgr6, fun nm => (HF.out nm).snoc fit_12⟩
    have f0 : (y == 0) = false := beq_eq_false_iff_ne.2 k0
    by_cases k1 : y = 1
    · subst k1
      go_wp2_with fail
      refine (pickIn hr hgr5 hrd5 _ (by omega) (by omega) (by omega)).mono ?_
      rintro e w7 ⟨z, rfl, hz0, hz1, hrd7, hgr7, hkp⟩
      have hrow7 := hkp _ _ hrow5
      have hsz7 := hgr7.size
      clear hkp hrow5 hrd5 hgr5
      go_wp2_with (at_builtin; refine append_op _ (by rfl) _ _ (by rfl) _ _ ops4 (by rfl) hrow7 _ _ _ (by rfl) (by omega) (by omega) ?_; intro g cp w6 hrow6 hg6 hBg hglt)
      obtain ⟨hrd6, hgr6⟩ := after_append hr hrd7 hgr7 hrow7 hg6
      clear hg6 hBg hglt
      go_wp2
      go_ret
      exact ⟨_, _, _, rfl, hrow6, by simp; omega, by simp, by omega, by omega, hrd6, hgr6, fun nm => (HF.out nm).snoc (fit_peek hz0 hz1)⟩
    have f1 : (y == 1) = false := beq_eq_false_iff_ne.2 k1
    by_cases k2 : y = 2
    · subst k2
      go_wp2_with fail
      refine (pickIn hr hgr5 hrd5 _ (by omega) (by omega) (by omega)).mono ?_
      rintro e w7 ⟨z, rfl, hz0, hz1, hrd7, hgr7, hkp⟩
      have hrow7 := hkp _ _ hrow5
      have hsz7 := hgr7.size
      clear hkp hrow5 hrd5 hgr5
      go_wp2_with (at_builtin; refine append_op _ (by rfl) _ _ (by rfl) _ _ ops4 (by rfl) hrow7 _ _ _ (by rfl) (by omega) (by omega) ?_; intro g cp w6 hrow6 hg6 hBg hglt)
      obtain ⟨hrd6, hgr6⟩ := after_append hr hrd7 hgr7 hrow7 hg6
      clear hg6 hBg hglt
      go_wp2
      go_ret
      exact ⟨_, _, _, rfl, hrow6, by simp; omega, by simp, by omega, by omega, hrd6, hgr6, fun nm => (HF.out nm).snoc (fit_peek hz0 hz1)⟩
    have f2 : (y == 2) = false := beq_eq_false_iff_ne.2 k2
    by_cases k3 : y = 3
    · subst k3
      go_wp2_with (at_builtin; refine append_op _ (by rfl) _ _ (by rfl) _ _ ops4 (by rfl) hrow5 _ _ _ (by rfl) (by omega) (by omega) ?_; intro g cp w6 hrow6 hg6 hBg hglt)
      obtain ⟨hrd6, hgr6⟩ := after_append hr hrd5 hgr5 hrow5 hg6
      clear hg6 hBg hglt
      go_wp2
      go_ret
      exact ⟨_, _, _, rfl, hrow6, by simp; omega, by simp, by omega, by omega, hrd6, hgr6, fun nm => (HF.out nm).snoc fit_17⟩
    have f3 : (y == 3) = false := beq_eq_false_iff_ne.2 k3
    by_cases k4 : y = 4
    · subst k4
      go_wp2_with (at_builtin; refine append_op _ (by rfl) _ _ (by rfl) _ _ ops4 (by rfl) hrow5 _ _ _ (by rfl) (by omega) (by omega) ?_; intro g cp w6 hrow6 hg6 hBg hglt)
      obtain ⟨hrd6, hgr6⟩ := after_append hr hrd5 hgr5 hrow5 hg6
      clear hg6 hBg hglt
      go_wp2
      go_ret
      exact ⟨_, _, _, rfl, hrow6, by simp; omega, by simp, by omega, by omega, hrd6, hgr6, fun nm => (HF.out nm).snoc fit_18⟩
    have f4 : (y == 4) = false := beq_eq_false_iff_ne.2 k4
    go_wp2
    go_ret
    exact ⟨_, _, _, rfl, hrow5, by omega, by omega, by omega, by omega, hrd5, hgr5, fun nm => HF.out nm⟩
  have e2 : (x == 2) = false := beq_eq_false_iff_ne.2 h2
  obtain ⟨q4, hq4, hq4', hrd4⟩ : ∃ q4, p + 1 ≤ q4 ∧ q4 ≤ p + 2 ∧ Rd w2 b a len cap q4 := ⟨_, by omega, by omega, hrd2⟩
  have hrow4 := hrow2
  have hgr4 := hgr2
  have hl4 := hl1
  clear hrow2 hgr2 hrd2
  clear hr1
  go_wp2_with fail
  refine (pickIn hr hgr4 hrd4 _ (by omega) (by omega) (by omega)).mono ?_
  rintro e w5 ⟨y, rfl, hy0, hy1, hrd5, hgr5, hkp⟩
  have hrow5 := hkp _ _ hrow4
  have hsz5 := hgr5.size
  clear hkp hrow4 hrd4 hgr4
  by_cases k0 : y = 0
  · subst k0
    go_wp2_with (at_builtin; refine append_op _ (by rfl) _ _ (by rfl) _ _ ops1 (by rfl) hrow5 _ _ _ (by rfl) (by omega) (by omega) ?_; intro g cp w6 hrow6 hg6 hBg hglt)
    obtain ⟨hrd6, hgr6⟩ := after_append hr hrd5 hgr5 hrow5 hg6
    clear hg6 hBg hglt
    go_wp2
    go_ret
    exact ⟨_, _, _, rfl, hrow6, by simp; omega, by simp, by omega, by omega, hrd6, hgr6, fun nm => (HF.out nm).snoc fit_12⟩
  have f0 : (y == 0) = false := beq_eq_false_iff_ne.2 k0
  by_cases k1 : y = 1
  · subst k1
    go_wp2_with fail
    refine (pickIn hr hgr5 hrd5 _ (by omega) (by omega) (by omega)).mono ?_
    rintro e w7 ⟨z, rfl, hz0, hz1, hrd7, hgr7, hkp⟩
    have hrow7 := hkp _ _ hrow5
    have hsz7 := hgr7.size
    clear hkp hrow5 hrd5 hgr5
    go_wp2_with (at_builtin; refine append_op _ (by rfl) _ _ (by rfl) _ _ ops1 (by rfl) hrow7 _ _ _ (by rfl) (by omega) (by omega) ?_; intro g cp w6 hrow6 hg6 hBg hglt)
    obtain ⟨hrd6, hgr6⟩ := after_append hr hrd7 hgr7 hrow7 hg6
    clear hg6 hBg hglt
    go_wp2
    go_ret
    exact ⟨_, _, _, rfl, hrow6, by simp; omega, by simp, by omega, by omega, hrd6, hgr6, fun nm => (HF.out nm).snoc (fit_peek hz0 hz1)⟩
  have f1 : (y == 1) = false := beq_eq_false_iff_ne.2 k1
  by_cases k2 : y = 2
  · subst k2
    go_wp2_with fail
    refine (pickIn hr hgr5 hrd5 _ (by omega) (by omega) (by omega)).mono ?_
    rintro e w7 ⟨z, rfl, hz0, hz1, hrd7, hgr7, hkp⟩
    have hrow7 := hkp _ _ hrow5
    have hsz7 := hgr7.size
    clear hkp hrow5 hrd5 hgr5
    go_wp2_with (at_builtin; refine append_op _ (by rfl) _ _ (by rfl) _ _ ops1 (by rfl) hrow7 _ _ _ (by rfl) (by omega) (by omega) ?_; intro g cp w6 hrow6 hg6 hBg hglt)
    obtain ⟨hrd6, hgr6⟩ := after_append hr hrd7 hgr7 hrow7 hg6
    clear hg6 hBg hglt
    go_wp2
    go_ret
    exact ⟨_, _, _, rfl, hrow6, by simp; omega, by simp, by omega, by omega, hrd6, hgr6, fun nm => (HF.out nm).snoc (fit_peek hz0 hz1)⟩
  have f2 : (y == 2) = false := beq_eq_false_iff_ne.2 k2
  by_cases k3 : y = 3
  · subst k3
    go_wp2_with (at_builtin; refine append_op _ (by rfl) _ _ (by rfl) _ _ ops1 (by rfl) hrow5 _ _ _ (by rfl) (by omega) (by omega) ?_; intro g cp w6 hrow6 hg6 hBg hglt)
    obtain ⟨hrd6, hgr6⟩ := after_append hr hrd5 hgr5 hrow5 hg6
    clear hg6 hBg hglt
    go_wp2
    go_ret
    exact ⟨_, _, _, rfl, hrow6, by simp; omega, by simp, by omega, by omega, hrd6, hgr6, fun nm => (HF.out nm).snoc fit_17⟩
  have f3 : (y == 3) = false := beq_eq_false_iff_ne.2 k3
  by_cases k4 : y = 4
  · subst k4
    go_wp2_with (at_builtin; refine append_op _ (by rfl) _ _ (by rfl) _ _ ops1 (by rfl) hrow5 _ _ _ (by rfl) (by omega) (by omega) ?_; intro g cp w6 hrow6 hg6 hBg hglt)
    obtain ⟨hrd6, hgr6⟩ := after_append hr hrd5 hgr5 hrow5 hg6
    clear hg6 hBg hglt
    go_wp2
    go_ret
    exact ⟨_, _, _, rfl, hrow6, by simp; omega, by simp, by omega, by omega, hrd6, hgr6, fun nm => (HF.out nm).snoc fit_18⟩
  have f4 : (y == 4) = false := beq_eq_false_iff_ne.2 k4
  go_wp2
  go_ret
  exact ⟨_, _, _, rfl, hrow5, by omega, by omega, by omega, by omega, hrd5, hgr5, fun nm => HF.out nm⟩
end Go.Proofs.Ytldiccheboipeaa
