/-
  What draws: l71Ops makes operations of numbers, two by two; what a pick is in the middle of a draw.
-/
import Derived.Test.YtfpodljalccpnaaGreatDoorDraw2
import Derived.Test.YtfpodljalccpnaaGreatDoorDeep
import Derived.Test.YtfpodljalccpnaaGreatDoorOwn

namespace Go.Proofs.YtfpodljalccpnaaGreatDoor
open Go.RowKit
theorem below_grown {w w' : World} (h : Below w.heap.size w w') (b : Option Nat) : w.grownBy w' b := ⟨h.os, h.tape, h.output, h.size, fun k hk _ => h.block k hk⟩
theorem append_cell {w W w' : World} {v : Value} {L : List (Int × Int)} {B : Nat} (hown : OpsRow B w v L) (hg2 : W.grownBy w' v.ownBlock) {p : Addr} (hp : p.block < B) (hW : Below w.heap.size w W) {u : Value} (h : w.cell? p = some u) : w'.cell? p = some u :=
  hg2.cell (cell_below hW h) (fun e => by have := hown.lt _ e.symm; omega)
theorem append_below {w0 w W w' : World} {v : Value} {L : List (Int × Int)} (hown : OpsRow w0.heap.size w v L) (hg2 : W.grownBy w' v.ownBlock) (hW : Below w.heap.size w W) (hb : Below w0.heap.size w0 w) : Below w0.heap.size w0 w' :=
  (hb.trans (hW.mono hb.size)).grown hg2 (Nat.le_trans hb.size hW.size) (fun k e => (hown.lt k e).1)
def pairUp : List Int → List (Int × Int)
  | x :: y :: l => (x, y) :: pairUp l
  | _ => []
theorem pairUp_snoc : ∀ (k : Nat) (xs : List Int) (h : 2 * k + 1 < xs.length), pairUp (xs.take (2 * k + 2)) = pairUp (xs.take (2 * k)) ++ [(xs[2 * k], xs[2 * k + 1])]
  | 0, x :: y :: l, _ => by simp [pairUp]
  | k + 1, x :: y :: l, h => by
    have e1 : 2 * (k + 1) + 2 = (2 * k + 2) + 2 := by omega
    have e2 : 2 * (k + 1) = 2 * k + 2 := by omega
    have ih := pairUp_snoc k l (by simp at h; omega)
    simp only [e2, List.take_succ_cons, pairUp, ih, List.getElem_cons_succ, List.cons_append]
  | _, [], h => by simp at h
  | _, [x], h => by simp at h
theorem pairUp_end : ∀ (k : Nat) (xs : List Int), xs.length ≤ 2 * k + 1 → pairUp (xs.take (2 * k)) = pairUp xs
  | 0, [], _ => rfl
  | 0, [x], _ => rfl
  | 0, x :: y :: l, h => by simp at h
  | k + 1, [], _ => rfl
  | k + 1, [x], _ => by
    have e2 : 2 * (k + 1) = 2 * k + 2 := by omega
    simp only [e2, List.take_succ_cons, List.take_nil]
  | k + 1, x :: y :: l, h => by
    have e2 : 2 * (k + 1) = 2 * k + 2 := by omega
    have ih := pairUp_end k l (by simp at h; omega)
    simp only [e2, List.take_succ_cons, pairUp, ih]
set_option maxRecDepth 100000 in
set_option maxHeartbeats 1000000 in
theorem l71Ops_fit (w : World) (g cap : Nat) (xs : List Int) (hx : ∀ i, (hi : i < xs.length) → w.cell? ⟨g, i, none⟩ = some (.int .i64 xs[i])) (hl : xs.length ≤ 20) :
    Calls Tryz.prog 117 #[.slice (some ⟨g, 0, none⟩) xs.length cap] w fun e w' => ∃ v ops, e = .returned v ∧ OpsRow w.heap.size w' v ops ∧ ops.length * 2 ≤ xs.length ∧ xs.length ≤ ops.length * 2 + 1 ∧ Below w.heap.size w w' ∧ ops = pairUp xs := by
  go_enter Tryz.func117, Tryz.ntmps117
  go_wp2
  go_loopg [3, 4] xs.length (fun d v i wr => ∃ (L : List (Int × Int)) (k : Nat), k ≤ xs.length ∧ d = xs.length - k ∧ i = .int .i64 k ∧ OpsRow w.heap.size wr v L ∧ Below w.heap.size w wr ∧ Hid (k = L.length * 2 ∧ L = pairUp (xs.take (2 * L.length))))
  case atStart => exact ⟨[], 0, Nat.zero_le _, rfl, rfl, OpsRow.made w, (Below.refl _ _).alloc (Nat.le_refl _) _, rfl, rfl⟩
  case round =>
    obtain ⟨L, k, hk, rfl, rfl, hrow, hb, HK⟩ := hrel
    by_cases hlt : k + 1 < xs.length
    · have hkz : (k : Int) + 1 < (xs.length : Int) := by omega
      have hkz0 : (k : Int) < (xs.length : Int) := by omega
      have hk0 : (0 : Int) ≤ (k : Int) := by omega
      have hk1 : (0 : Int) ≤ (k : Int) + 1 := by omega
      have hw : IntKind.i64.wrap ((k : Int) + 1) = (k : Int) + 1 := by rw [IntKind.wrap_i64]; omega
      have d0 := cell_below hb (hx k (by omega))
      have d1 := cell_below hb (hx (k + 1) (by omega))
      have hsz := hb.size
      have hgw : g < w.heap.size := World.block_lt_of_cell? _ _ (hx k (by omega))
      have hLl : L.length ≤ 20 := by have := HK.out.1; omega
      have HP : Hid (∀ y0 y1, xs[k]? = some y0 → xs[k + 1]? = some y1 → L ++ [(y0, y1)] = pairUp (xs.take (2 * (L ++ [(y0, y1)]).length))) := by
        intro y0 y1 e0 e1
        obtain ⟨hk2, hL2⟩ := HK.out
        have ek : k = 2 * L.length := by omega
        have e2 : 2 * (L ++ [(y0, y1)]).length = 2 * L.length + 2 := by simp; omega
        have g0 := List.getElem?_eq_some_iff.1 (ek ▸ e0)
        have g1 := List.getElem?_eq_some_iff.1 (ek ▸ e1)
        rw [e2, pairUp_snoc L.length xs (by omega), ← hL2, g0.2, g1.2]
      have HP0 : Hid (xs[k]? = some xs[k]) := List.getElem?_eq_getElem (by omega)
      have HP1 : Hid (xs[k + 1]? = some xs[k + 1]) := List.getElem?_eq_getElem (by omega)
      have HPP : Hid (L ++ [(xs[k], xs[k + 1])] = pairUp (xs.take (2 * (L ++ [(xs[k], xs[k + 1])]).length))) := HP.out _ _ HP0.out HP1.out
      clear HP HP0 HP1
      generalize xs[k] = x0 at d0 HPP
      generalize xs[k + 1] = x1 at d1 HPP
      go_wp2_with fail
      go_region_held3 (fun w' => w'.cell? ⟨g, k, none⟩ = some (.int .i64 x0) ∧ w'.cell? ⟨g, k + 1, none⟩ = some (.int .i64 x1))
        (first | exact ⟨append_cell hrow hg2 hgw ((Below.refl _ _).alloc (Nat.le_refl _) _).drew d0, append_cell hrow hg2 hgw ((Below.refl _ _).alloc (Nat.le_refl _) _).drew d1⟩ | go_keep)
        ((refine step_ops _ (by rfl) _ _ (by rfl) w.heap.size _ L (by rfl) (World.ownsRow.alloc hrow _) [(x0, x1)] wr.heap.size _ (by rfl) (World.news_of_block (Go.Deep.blk_alloc_new wr _)) (by simp) (by simp; omega) (by simp; omega) ?_; intro g' cp w2 hrow2 hg2 hBg hglt))
      have hb2 : Below w.heap.size w w2 := append_below hrow hg2 ((Below.refl _ _).alloc (Nat.le_refl _) _).drew hb
      have HK2 : Hid (k + 2 = (L ++ [(x0, x1)]).length * 2 ∧ L ++ [(x0, x1)] = pairUp (xs.take (2 * (L ++ [(x0, x1)]).length))) := by have := HK.out.1; exact ⟨by simp; omega, HPP.out⟩
      clear hg2 hrow hb d0 d1 HK HPP hBg hglt hw
      go_wp2
      go_roundg (xs.length - (k + 2))
      case measure => omega
      case rel => exact ⟨_, k + 2, by omega, rfl, by go_num, hrow2, hb2, HK2⟩
    · go_wp2
      go_ret
      exact ⟨_, L, rfl, hrow, by have := HK.out.1; omega, by have := HK.out.1; omega, hb, by rw [← pairUp_end L.length xs (by have := HK.out.1; omega)]; exact HK.out.2⟩
theorem opsLitF {w0 w : World} {b : Nat} {a : Option Addr} {len cap p0 p : Nat} (h0 : Rd w0 b a len cap p0) (hr : Rd w b a len cap p) (hg : w0.grownBy w (some b)) (xs : List Int) (cs : Array Value) (t : TypeId) (c : Nat) (hcs : cs = (xs.map fun x => Value.int .i64 x).toArray) (hl : xs.length ≤ 20) :
    Calls Tryz.prog 117 #[.slice (some ⟨w.heap.size, 0, none⟩) xs.length c] (w.alloc (.cells cs t)) fun e w' => ∃ v ops, e = .returned v ∧ OpsRow w0.heap.size w' v ops ∧ ops.length * 2 ≤ xs.length ∧ xs.length ≤ ops.length * 2 + 1 ∧ Rd w' b a len cap p ∧ w0.grownBy w' (some b) ∧ ops = pairUp xs := by
  subst hcs
  refine (l71Ops_fit _ w.heap.size c xs (fun i hi => ?_) hl).mono ?_
  · simp [hi]
  · rintro e w' ⟨v, ops, rfl, hrow, hlen, hlen', hb, hpu⟩
    have hA := World.grownBy_alloc w (.cells (xs.map fun x => Value.int .i64 x).toArray t) none
    have hN : w.grownBy w' none := ⟨hb.os.trans hA.os, hb.tape.trans hA.tape, hb.output.trans hA.output, Nat.le_trans hA.size hb.size, fun i hi hn => (hb.block i (Nat.lt_of_lt_of_le hi hA.size)).trans (hA.block i hi hn)⟩
    exact ⟨v, ops, rfl, hrow.mono (by have := hg.size; simp; omega), hlen, hlen', Rd.kept h0 hr hg.size hN (fun g e => by cases e), grown_own hg hN (fun g e => by cases e), hpu⟩
theorem pickIn {w0 w : World} {b : Nat} {a : Option Addr} {len cap p0 p : Nat} (h0 : Rd w0 b a len cap p0) (hg : w0.grownBy w (some b)) (hr : Rd w b a len cap p) (n : Int) (hp : p ≤ 1000000) (h1 : 1 ≤ n) (h2 : n ≤ 1000000) :
    Calls Tryz.prog 39 #[.pointer (some ⟨b, 0, none⟩), .int .i64 n] w fun e w' => ∃ x : Int, e = .returned (.int .i64 x) ∧ 0 ≤ x ∧ x < n ∧ Rd w' b a len cap (p + 1) ∧ w0.grownBy w' (some b) ∧ ∀ v L, OpsRow w0.heap.size w v L → OpsRow w0.heap.size w' v L := by
  have hb : b < w0.heap.size := World.block_lt_of_cell? _ _ h0.s
  refine (pick_any _ _ _ _ _ _ _ hr hp h1 h2).mono ?_
  rintro e w' ⟨x, rfl, hx0, hx1, hrd, hgr⟩
  exact ⟨x, rfl, hx0, hx1, hrd, grown_trans hg hgr, fun v L h => h.kept hgr (fun g e k => by cases e; have := h.lt _ k; omega)⟩
end Go.Proofs.YtfpodljalccpnaaGreatDoor

/-
  What draws: l71Look draws operations that look at a call.
-/
namespace Go.Proofs.YtfpodljalccpnaaGreatDoor
open Go.RowKit
set_option maxRecDepth 100000 in
set_option maxHeartbeats 1000000 in
theorem l71Look_fit (w : World) (b : Nat) (a : Option Addr) (len cap p : Nat) (t : Int) (hr : Rd w b a len cap p) (hp : p + 4 ≤ 1000000) (ht1 : 1 ≤ t) (ht4 : t ≤ 4) :
    Calls Tryz.prog 120 #[.pointer (some ⟨b, 0, none⟩), .int .i64 t] w fun e w' => ∃ v ops p', e = .returned v ∧ OpsRow w.heap.size w' v ops ∧ ops.length ≤ 3 ∧ 1 ≤ ops.length ∧ p ≤ p' ∧ p' ≤ p + 4 ∧ Rd w' b a len cap p' ∧ w.grownBy w' (some b) ∧ ∀ nm, Fits nm t ops := by
  go_enter Tryz.func120, Tryz.ntmps120
  go_wp2_with fail
  refine (opsLitF hr hr (grown_refl _ _) [11, 0] _ _ _ rfl (by decide)).mono ?_
  rintro e w1 ⟨v1, ops1, rfl, hrow1, hl1, hm1, hrd1, hgr1, hpu⟩
  have HF : Hid (∀ nm, Fits nm t ops1) := fun nm => by rw [hpu]; exact .one fit_11
  clear hpu
  go_wp2_with fail
  refine (pickIn hr hgr1 hrd1 _ (by omega) (by omega) (by omega)).mono ?_
  rintro e w2 ⟨x, rfl, hx0, hx1, hrd2, hgr2, hkp⟩
  have hrow2 := hkp _ _ hrow1
  clear hkp hrow1 hrd1 hgr1
  simp only [List.length_cons, List.length_nil] at hl1 hm1
  have hr1 := hr
  by_cases h0 : x = 0
  · subst h0
    go_wp2_with fail
    refine (pickIn hr hgr2 hrd2 _ (by omega) (by omega) (by omega)).mono ?_
    rintro e w3 ⟨u, rfl, hu0, hu1, hrd3, hgr3, _⟩
    clear hrow2 hrd2 hgr2
    go_wp2_with fail
    refine (opsLitF hr hrd3 hgr3 [2, u] _ _ _ rfl (by simp)).mono ?_
    rintro e w4 ⟨v4, ops4, rfl, hrow4, hl4, hm4, hrd4', hgr4, hpu⟩
    have HF : Hid (∀ nm, Fits nm t ops4) := fun nm => by rw [hpu]; exact .one (fit_temp hu0 hu1)
    clear hpu
    simp only [List.length_cons, List.length_nil] at hl4 hm4
    obtain ⟨q4, hq4, hq4', hrd4⟩ : ∃ q4, p + 1 ≤ q4 ∧ q4 ≤ p + 2 ∧ Rd w4 b a len cap q4 := ⟨_, by omega, by omega, hrd4'⟩
    clear hrd4' hrd3 hgr3
    clear hr1
    go_wp2_with fail
    refine (pickIn hr hgr4 hrd4 _ (by omega) (by omega) (by omega)).mono ?_
    rintro e w5 ⟨y, rfl, hy0, hy1, hrd5, hgr5, hkp⟩
    have hrow5 := hkp _ _ hrow4
    have hsz5 := hgr5.size
    clear hkp hrow4 hrd4 hgr4
    by_cases k0 : y = 0
    · subst k0
      go_wp2_with (at_builtin; refine append_op _ (by rfl) _ _ (by rfl) _ _ ops4 (by rfl) hrow5 _ _ _ (by rfl) (by omega) (by omega) ?_; intro g cp w6 hrow6 hg6 hBg hglt)
      obtain ⟨hrd6, hgr6⟩ := after_append hr hrd5 hgr5 hrow5 hg6
      clear hg6 hBg hglt
      go_wp2
      go_ret
      exact ⟨_, _, _, rfl, hrow6, by simp; omega, by simp, by omega, by omega, hrd6, hgr6, fun nm => (HF.out nm).snoc fit_12⟩
    have f0 : (y == 0) = false := beq_eq_false_iff_ne.2 k0
    by_cases k1 : y = 1
    · subst k1
      go_wp2_with fail
      refine (pickIn hr hgr5 hrd5 _ (by omega) (by omega) (by omega)).mono ?_
      rintro e w7 ⟨z, rfl, hz0, hz1, hrd7, hgr7, hkp⟩
      have hrow7 := hkp _ _ hrow5
      have hsz7 := hgr7.size
      clear hkp hrow5 hrd5 hgr5
      go_wp2_with (at_builtin; refine append_op _ (by rfl) _ _ (by rfl) _ _ ops4 (by rfl) hrow7 _ _ _ (by rfl) (by omega) (by omega) ?_; intro g cp w6 hrow6 hg6 hBg hglt)
      obtain ⟨hrd6, hgr6⟩ := after_append hr hrd7 hgr7 hrow7 hg6
      clear hg6 hBg hglt
      go_wp2
      go_ret
      exact ⟨_, _, _, rfl, hrow6, by simp; omega, by simp, by omega, by omega, hrd6, hgr6, fun nm => (HF.out nm).snoc (fit_peek hz0 hz1)⟩
    have f1 : (y == 1) = false := beq_eq_false_iff_ne.2 k1
    by_cases k2 : y = 2
    · subst k2
      go_wp2_with fail
      refine (pickIn hr hgr5 hrd5 _ (by omega) (by omega) (by omega)).mono ?_
      rintro e w7 ⟨z, rfl, hz0, hz1, hrd7, hgr7, hkp⟩
      have hrow7 := hkp _ _ hrow5
      have hsz7 := hgr7.size
      clear hkp hrow5 hrd5 hgr5
      go_wp2_with (at_builtin; refine append_op _ (by rfl) _ _ (by rfl) _ _ ops4 (by rfl) hrow7 _ _ _ (by rfl) (by omega) (by omega) ?_; intro g cp w6 hrow6 hg6 hBg hglt)
      obtain ⟨hrd6, hgr6⟩ := after_append hr hrd7 hgr7 hrow7 hg6
      clear hg6 hBg hglt
      go_wp2
      go_ret
      exact ⟨_, _, _, rfl, hrow6, by simp; omega, by simp, by omega, by omega, hrd6, hgr6, fun nm => (HF.out nm).snoc (fit_peek hz0 hz1)⟩
    have f2 : (y == 2) = false := beq_eq_false_iff_ne.2 k2
    by_cases k3 : y = 3
    · subst k3
      go_wp2_with (at_builtin; refine append_op _ (by rfl) _ _ (by rfl) _ _ ops4 (by rfl) hrow5 _ _ _ (by rfl) (by omega) (by omega) ?_; intro g cp w6 hrow6 hg6 hBg hglt)
      obtain ⟨hrd6, hgr6⟩ := after_append hr hrd5 hgr5 hrow5 hg6
      clear hg6 hBg hglt
      go_wp2
      go_ret
      exact ⟨_, _, _, rfl, hrow6, by simp; omega, by simp, by omega, by omega, hrd6, hgr6, fun nm => (HF.out nm).snoc fit_17⟩
    have f3 : (y == 3) = false := beq_eq_false_iff_ne.2 k3
    by_cases k4 : y = 4
    · subst k4
      go_wp2_with (at_builtin; refine append_op _ (by rfl) _ _ (by rfl) _ _ ops4 (by rfl) hrow5 _ _ _ (by rfl) (by omega) (by omega) ?_; intro g cp w6 hrow6 hg6 hBg hglt)
      obtain ⟨hrd6, hgr6⟩ := after_append hr hrd5 hgr5 hrow5 hg6
      clear hg6 hBg hglt
      go_wp2
      go_ret
      exact ⟨_, _, _, rfl, hrow6, by simp; omega, by simp, by omega, by omega, hrd6, hgr6, fun nm => (HF.out nm).snoc fit_18⟩
    have f4 : (y == 4) = false := beq_eq_false_iff_ne.2 k4
    go_wp2
    go_ret
    exact ⟨_, _, _, rfl, hrow5, by omega, by omega, by omega, by omega, hrd5, hgr5, fun nm => HF.out nm⟩
  have e0 : (x == 0) = false := beq_eq_false_iff_ne.2 h0
  by_cases h1 : x = 1
  · subst h1
    go_wp2_with fail
    refine (opsLitF hr hrd2 hgr2 [11, 0, 12, 0] _ _ _ rfl (by simp)).mono ?_
    rintro e w4 ⟨v4, ops4, rfl, hrow4, hl4, hm4, hrd4', hgr4, hpu⟩
    have HF : Hid (∀ nm, Fits nm t ops4) := fun nm => by rw [hpu]; exact Fits.append (.one fit_11) (.one fit_12)
    clear hpu
    simp only [List.length_cons, List.length_nil] at hl4 hm4
    obtain ⟨q4, hq4, hq4', hrd4⟩ : ∃ q4, p + 1 ≤ q4 ∧ q4 ≤ p + 2 ∧ Rd w4 b a len cap q4 := ⟨_, by omega, by omega, hrd4'⟩
    clear hrd4' hrow2 hrd2 hgr2
    clear hr1
    go_wp2_with fail
    refine (pickIn hr hgr4 hrd4 _ (by omega) (by omega) (by omega)).mono ?_
    rintro e w5 ⟨y, rfl, hy0, hy1, hrd5, hgr5, hkp⟩
    have hrow5 := hkp _ _ hrow4
    have hsz5 := hgr5.size
    clear hkp hrow4 hrd4 hgr4
    by_cases k0 : y = 0
    · subst k0
      go_wp2_with (at_builtin; refine append_op _ (by rfl) _ _ (by rfl) _ _ ops4 (by rfl) hrow5 _ _ _ (by rfl) (by omega) (by omega) ?_; intro g cp w6 hrow6 hg6 hBg hglt)
      obtain ⟨hrd6, hgr6⟩ := after_append hr hrd5 hgr5 hrow5 hg6
      clear hg6 hBg hglt
      go_wp2
      go_ret
      exact ⟨_, _, _, rfl, hrow6, by simp; omega, by simp, by omega, by omega, hrd6, hgr6, fun nm => (HF.out nm).snoc fit_12⟩
    have f0 : (y == 0) = false := beq_eq_false_iff_ne.2 k0
    by_cases k1 : y = 1
    · subst k1
      go_wp2_with fail
      refine (pickIn hr hgr5 hrd5 _ (by omega) (by omega) (by omega)).mono ?_
      rintro e w7 ⟨z, rfl, hz0, hz1, hrd7, hgr7, hkp⟩
      have hrow7 := hkp _ _ hrow5
      have hsz7 := hgr7.size
      clear hkp hrow5 hrd5 hgr5
      go_wp2_with (at_builtin; refine append_op _ (by rfl) _ _ (by rfl) _ _ ops4 (by rfl) hrow7 _ _ _ (by rfl) (by omega) (by omega) ?_; intro g cp w6 hrow6 hg6 hBg hglt)
      obtain ⟨hrd6, hgr6⟩ := after_append hr hrd7 hgr7 hrow7 hg6
      clear hg6 hBg hglt
      go_wp2
      go_ret
      exact ⟨_, _, _, rfl, hrow6, by simp; omega, by simp, by omega, by omega, hrd6, hgr6, fun nm => (HF.out nm).snoc (fit_peek hz0 hz1)⟩
    have f1 : (y == 1) = false := beq_eq_false_iff_ne.2 k1
    by_cases k2 : y = 2
    · subst k2
      go_wp2_with fail
      refine (pickIn hr hgr5 hrd5 _ (by omega) (by omega) (by omega)).mono ?_
      rintro e w7 ⟨z, rfl, hz0, hz1, hrd7, hgr7, hkp⟩
      have hrow7 := hkp _ _ hrow5
      have hsz7 := hgr7.size
      clear hkp hrow5 hrd5 hgr5
      go_wp2_with (at_builtin; refine append_op _ (by rfl) _ _ (by rfl) _ _ ops4 (by rfl) hrow7 _ _ _ (by rfl) (by omega) (by omega) ?_; intro g cp w6 hrow6 hg6 hBg hglt)
      obtain ⟨hrd6, hgr6⟩ := after_append hr hrd7 hgr7 hrow7 hg6
      clear hg6 hBg hglt
      go_wp2
      go_ret
      exact ⟨_, _, _, rfl, hrow6, by simp; omega, by simp, by omega, by omega, hrd6, hgr6, fun nm => (HF.out nm).snoc (fit_peek hz0 hz1)⟩
    have f2 : (y == 2) = false := beq_eq_false_iff_ne.2 k2
    by_cases k3 : y = 3
    · subst k3
      go_wp2_with (at_builtin; refine append_op _ (by rfl) _ _ (by rfl) _ _ ops4 (by rfl) hrow5 _ _ _ (by rfl) (by omega) (by omega) ?_; intro g cp w6 hrow6 hg6 hBg hglt)
      obtain ⟨hrd6, hgr6⟩ := after_append hr hrd5 hgr5 hrow5 hg6
      clear hg6 hBg hglt
      go_wp2
      go_ret
      exact ⟨_, _, _, rfl, hrow6, by simp; omega, by simp, by omega, by omega, hrd6, hgr6, fun nm => (HF.out nm).snoc fit_17⟩
    have f3 : (y == 3) = false := beq_eq_false_iff_ne.2 k3
    by_cases k4 : y = 4
    · subst k4
      go_wp2_with (at_builtin; refine append_op _ (by rfl) _ _ (by rfl) _ _ ops4 (by rfl) hrow5 _ _ _ (by rfl) (by omega) (by omega) ?_; intro g cp w6 hrow6 hg6 hBg hglt)
      obtain ⟨hrd6, hgr6⟩ := after_append hr hrd5 hgr5 hrow5 hg6
      clear hg6 hBg hglt
      go_wp2
      go_ret
      exact ⟨_, _, _, rfl, hrow6, by simp; omega, by simp, by omega, by omega, hrd6, hgr6, fun nm => (HF.out nm).snoc fit_18⟩
    have f4 : (y == 4) = false := beq_eq_false_iff_ne.2 k4
    go_wp2
    go_ret
    exact ⟨_, _, _, rfl, hrow5, by omega, by omega, by omega, by omega, hrd5, hgr5, fun nm => HF.out nm⟩
  have e1 : (x == 1) = false := beq_eq_false_iff_ne.2 h1
  by_cases h2 : x = 2
  · subst h2
    go_wp2_with fail
    refine (opsLitF hr hrd2 hgr2 [11, 0, 12, 0] _ _ _ rfl (by simp)).mono ?_
    rintro e w4 ⟨v4, ops4, rfl, hrow4, hl4, hm4, hrd4', hgr4, hpu⟩
    have HF : Hid (∀ nm, Fits nm t ops4) := fun nm => by rw [hpu]; exact Fits.append (.one fit_11) (.one fit_12)
    clear hpu
    simp only [List.length_cons, List.length_nil] at hl4 hm4
    obtain ⟨q4, hq4, hq4', hrd4⟩ : ∃ q4, p + 1 ≤ q4 ∧ q4 ≤ p + 2 ∧ Rd w4 b a len cap q4 := ⟨_, by omega, by omega, hrd4'⟩
    clear hrd4' hrow2 hrd2 hgr2
    clear hr1
    go_wp2_with fail
    refine (pickIn hr hgr4 hrd4 _ (by omega) (by omega) (by omega)).mono ?_
    rintro e w5 ⟨y, rfl, hy0, hy1, hrd5, hgr5, hkp⟩
    have hrow5 := hkp _ _ hrow4
    have hsz5 := hgr5.size
    clear hkp hrow4 hrd4 hgr4
    by_cases k0 : y = 0
    · subst k0
      go_wp2_with (at_builtin; refine append_op _ (by rfl) _ _ (by rfl) _ _ ops4 (by rfl) hrow5 _ _ _ (by rfl) (by omega) (by omega) ?_; intro g cp w6 hrow6 hg6 hBg hglt)
      obtain ⟨hrd6, hgr6⟩ := after_append hr hrd5 hgr5 hrow5 hg6
      clear hg6 hBg hglt
      go_wp2
      go_ret
      exact ⟨_, _, _, rfl, hrow6, by simp; omega, by simp, by omega, by omega, hrd6, hgr6, fun nm => (HF.out nm).snoc fit_12⟩
    have f0 : (y == 0) = false := beq_eq_false_iff_ne.2 k0
    by_cases k1 : y = 1
    · subst k1
      go_wp2_with fail
      refine (pickIn hr hgr5 hrd5 _ (by omega) (by omega) (by omega)).mono ?_
      rintro e w7 ⟨z, rfl, hz0, hz1, hrd7, hgr7, hkp⟩
      have hrow7 := hkp _ _ hrow5
      have hsz7 := hgr7.size
      clear hkp hrow5 hrd5 hgr5
      go_wp2_with (at_builtin; refine append_op _ (by rfl) _ _ (by rfl) _ _ ops4 (by rfl) hrow7 _ _ _ (by rfl) (by omega) (by omega) ?_; intro g cp w6 hrow6 hg6 hBg hglt)
      obtain ⟨hrd6, hgr6⟩ := after_append hr hrd7 hgr7 hrow7 hg6
      clear hg6 hBg hglt
      go_wp2
      go_ret
      exact ⟨_, _, _, rfl, hrow6, by simp; omega, by simp, by omega, by omega, hrd6, hgr6, fun nm => (HF.out nm).snoc (fit_peek hz0 hz1)⟩
    have f1 : (y == 1) = false := beq_eq_false_iff_ne.2 k1
    by_cases k2 : y = 2
    · subst k2
      go_wp2_with fail
      refine (pickIn hr hgr5 hrd5 _ (by omega) (by omega) (by omega)).mono ?_
      rintro e w7 ⟨z, rfl, hz0, hz1, hrd7, hgr7, hkp⟩
      have hrow7 := hkp _ _ hrow5
      have hsz7 := hgr7.size
      clear hkp hrow5 hrd5 hgr5
      go_wp2_with (at_builtin; refine append_op _ (by rfl) _ _ (by rfl) _ _ ops4 (by rfl) hrow7 _ _ _ (by rfl) (by omega) (by omega) ?_; intro g cp w6 hrow6 hg6 hBg hglt)
      obtain ⟨hrd6, hgr6⟩ := after_append hr hrd7 hgr7 hrow7 hg6
      clear hg6 hBg hglt
      go_wp2
      go_ret
      exact ⟨_, _, _, rfl, hrow6, by simp; omega, by simp, by omega, by omega, hrd6, hgr6, fun nm => (HF.out nm).snoc (fit_peek hz0 hz1)⟩
    have f2 : (y == 2) = false := beq_eq_false_iff_ne.2 k2
    by_cases k3 : y = 3
    · subst k3
      go_wp2_with (at_builtin; refine append_op _ (by rfl) _ _ (by rfl) _ _ ops4 (by rfl) hrow5 _ _ _ (by rfl) (by omega) (by omega) ?_; intro g cp w6 hrow6 hg6 hBg hglt)
      obtain ⟨hrd6, hgr6⟩ := after_append hr hrd5 hgr5 hrow5 hg6
      clear hg6 hBg hglt
      go_wp2
      go_ret
      exact ⟨_, _, _, rfl, hrow6, by simp; omega, by simp, by omega, by omega, hrd6, hgr6, fun nm => (HF.out nm).snoc fit_17⟩
    have f3 : (y == 3) = false := beq_eq_false_iff_ne.2 k3
    by_cases k4 : y = 4
    · subst k4
      go_wp2_with (at_builtin; refine append_op _ (by rfl) _ _ (by rfl) _ _ ops4 (by rfl) hrow5 _ _ _ (by rfl) (by omega) (by omega) ?_; intro g cp w6 hrow6 hg6 hBg hglt)
      obtain ⟨hrd6, hgr6⟩ := after_append hr hrd5 hgr5 hrow5 hg6
      clear hg6 hBg hglt
      go_wp2
      go_ret
      exact ⟨_, _, _, rfl, hrow6, by simp; omega, by simp, by omega, by omega, hrd6, hgr6, fun nm => (HF.out nm).snoc fit_18⟩
    have f4 : (y == 4) = false := beq_eq_false_iff_ne.2 k4
    go_wp2
    go_ret
    exact ⟨_, _, _, rfl, hrow5, by omega, by omega, by omega, by omega, hrd5, hgr5, fun nm => HF.out nm⟩
  have e2 : (x == 2) = false := beq_eq_false_iff_ne.2 h2
  obtain ⟨q4, hq4, hq4', hrd4⟩ : ∃ q4, p + 1 ≤ q4 ∧ q4 ≤ p + 2 ∧ Rd w2 b a len cap q4 := ⟨_, by omega, by omega, hrd2⟩
  have hrow4 := hrow2
  have hgr4 := hgr2
  have hl4 := hl1
  clear hrow2 hgr2 hrd2
  clear hr1
  go_wp2_with fail
  refine (pickIn hr hgr4 hrd4 _ (by omega) (by omega) (by omega)).mono ?_
  rintro e w5 ⟨y, rfl, hy0, hy1, hrd5, hgr5, hkp⟩
  have hrow5 := hkp _ _ hrow4
  have hsz5 := hgr5.size
  clear hkp hrow4 hrd4 hgr4
  by_cases k0 : y = 0
  · subst k0
    go_wp2_with (at_builtin; refine append_op _ (by rfl) _ _ (by rfl) _ _ ops1 (by rfl) hrow5 _ _ _ (by rfl) (by omega) (by omega) ?_; intro g cp w6 hrow6 hg6 hBg hglt)
    obtain ⟨hrd6, hgr6⟩ := after_append hr hrd5 hgr5 hrow5 hg6
    clear hg6 hBg hglt
    go_wp2
    go_ret
    exact ⟨_, _, _, rfl, hrow6, by simp; omega, by simp, by omega, by omega, hrd6, hgr6, fun nm => (HF.out nm).snoc fit_12⟩
  have f0 : (y == 0) = false := beq_eq_false_iff_ne.2 k0
  by_cases k1 : y = 1
  · subst k1
    go_wp2_with fail
    refine (pickIn hr hgr5 hrd5 _ (by omega) (by omega) (by omega)).mono ?_
    rintro e w7 ⟨z, rfl, hz0, hz1, hrd7, hgr7, hkp⟩
    have hrow7 := hkp _ _ hrow5
    have hsz7 := hgr7.size
    clear hkp hrow5 hrd5 hgr5
    go_wp2_with (at_builtin; refine append_op _ (by rfl) _ _ (by rfl) _ _ ops1 (by rfl) hrow7 _ _ _ (by rfl) (by omega) (by omega) ?_; intro g cp w6 hrow6 hg6 hBg hglt)
    obtain ⟨hrd6, hgr6⟩ := after_append hr hrd7 hgr7 hrow7 hg6
    clear hg6 hBg hglt
    go_wp2
    go_ret
    exact ⟨_, _, _, rfl, hrow6, by simp; omega, by simp, by omega, by omega, hrd6, hgr6, fun nm => (HF.out nm).snoc (fit_peek hz0 hz1)⟩
  have f1 : (y == 1) = false := beq_eq_false_iff_ne.2 k1
  by_cases k2 : y = 2
  · subst k2
    go_wp2_with fail
    refine (pickIn hr hgr5 hrd5 _ (by omega) (by omega) (by omega)).mono ?_
    rintro e w7 ⟨z, rfl, hz0, hz1, hrd7, hgr7, hkp⟩
    have hrow7 := hkp _ _ hrow5
    have hsz7 := hgr7.size
    clear hkp hrow5 hrd5 hgr5
    go_wp2_with (at_builtin; refine append_op _ (by rfl) _ _ (by rfl) _ _ ops1 (by rfl) hrow7 _ _ _ (by rfl) (by omega) (by omega) ?_; intro g cp w6 hrow6 hg6 hBg hglt)
    obtain ⟨hrd6, hgr6⟩ := after_append hr hrd7 hgr7 hrow7 hg6
    clear hg6 hBg hglt
    go_wp2
    go_ret
    exact ⟨_, _, _, rfl, hrow6, by simp; omega, by simp, by omega, by omega, hrd6, hgr6, fun nm => (HF.out nm).snoc (fit_peek hz0 hz1)⟩
  have f2 : (y == 2) = false := beq_eq_false_iff_ne.2 k2
  by_cases k3 : y = 3
  · subst k3
    go_wp2_with (at_builtin; refine append_op _ (by rfl) _ _ (by rfl) _ _ ops1 (by rfl) hrow5 _ _ _ (by rfl) (by omega) (by omega) ?_; intro g cp w6 hrow6 hg6 hBg hglt)
    obtain ⟨hrd6, hgr6⟩ := after_append hr hrd5 hgr5 hrow5 hg6
    clear hg6 hBg hglt
    go_wp2
    go_ret
    exact ⟨_, _, _, rfl, hrow6, by simp; omega, by simp, by omega, by omega, hrd6, hgr6, fun nm => (HF.out nm).snoc fit_17⟩
  have f3 : (y == 3) = false := beq_eq_false_iff_ne.2 k3
  by_cases k4 : y = 4
  · subst k4
    go_wp2_with (at_builtin; refine append_op _ (by rfl) _ _ (by rfl) _ _ ops1 (by rfl) hrow5 _ _ _ (by rfl) (by omega) (by omega) ?_; intro g cp w6 hrow6 hg6 hBg hglt)
    obtain ⟨hrd6, hgr6⟩ := after_append hr hrd5 hgr5 hrow5 hg6
    clear hg6 hBg hglt
    go_wp2
    go_ret
    exact ⟨_, _, _, rfl, hrow6, by simp; omega, by simp, by omega, by omega, hrd6, hgr6, fun nm => (HF.out nm).snoc fit_18⟩
  have f4 : (y == 4) = false := beq_eq_false_iff_ne.2 k4
  go_wp2
  go_ret
  exact ⟨_, _, _, rfl, hrow5, by omega, by omega, by omega, by omega, hrd5, hgr5, fun nm => HF.out nm⟩
end Go.Proofs.YtfpodljalccpnaaGreatDoor

/-
  The program's walk over a method, its first step: (*deepWalk).come.
-/
namespace Go.Proofs.YtfpodljalccpnaaGreatDoor
open Go.RowKit
theorem Tryz.infoInt : (Tryz.prog.info? 3).map (fun i => (i.zero, i.size, i.bytes)) = some (some (.int .i64 0), 1, 8) := by kernel_rfl
structure Walk (B bw : Nat) (w : World) (va vq : Value) (ah q : List Int) : Prop where
  a : w.cell? ⟨bw, 0, none⟩ = some va
  c : w.cell? ⟨bw, 1, none⟩ = some vq
  f : w.frozen? ⟨bw, 1, none⟩ = false
  ra : IntRow B w va ah
  rq : IntRow B w vq q
  apart : ∀ g, va.ownBlock = some g → vq.ownBlock ≠ some g
  na : va.ownBlock ≠ some bw
  nq : vq.ownBlock ≠ some bw
  hB : B ≤ bw
theorem Walk.lt {B bw : Nat} {w : World} {va vq : Value} {ah q : List Int} (h : Walk B bw w va vq ah q) : bw < w.heap.size := World.block_lt_of_cell? _ _ h.a
theorem cell_grown {w w' : World} {row : Option Nat} (hg : w.grownBy w' row) {a : Addr} {v : Value} (h : w.cell? a = some v) (hne : row ≠ some a.block) : w'.cell? a = some v := hg.cell h (fun e => hne e.symm)
theorem frozen_grown {w w' : World} {row : Option Nat} (hg : w.grownBy w' row) {a : Addr} (hlt : a.block < w.heap.size) (hne : row ≠ some a.block) : w'.frozen? a = w.frozen? a := World.frozen?_of_block (hg.block a.block hlt (fun e => hne e.symm))
theorem IntRow.grown {B : Nat} {w w' : World} {v : Value} {xs : List Int} {row : Option Nat} (h : IntRow B w v xs) (hg : w.grownBy w' row) (hne : ∀ g, v.ownBlock = some g → row ≠ some g) : IntRow B w' v xs :=
  h.kept hg.size fun g e => hg.block g (h.lt g e).2 (fun q => hne g e q.symm)
theorem below_grow2 {B : Nat} {w0 w w' : World} {row : Option Nat} (h : Below B w0 w) (hg : w.grownBy w' row) (hB : B ≤ w0.heap.size) (hr : ∀ g, row = some g → B ≤ g) : Below B w0 w' :=
  h.trans ⟨hg.os, hg.tape, hg.output, hg.size, fun k hk => hg.block k (by have := h.size; omega) (fun e => by have := hr k e.symm; omega)⟩
theorem below_set {B : Nat} {w0 w : World} (h : Below B w0 w) (g o : Nat) (v : Value) (hg : B ≤ g) : Below B w0 (w.setCell ⟨g, o, none⟩ v) :=
  h.trans ⟨rfl, rfl, rfl, by simp [World.setCell], fun k hk => Below.heap_setCell _ _ _ _ (fun e => by have : k = g := e; omega)⟩
theorem come_out {ah q : List Int} {k v : Int} (h : inR k 0 ((ah.length : Int) - 1) = false) : dd_comeP ah q k v = (false, ah, q) := by simp [dd_comeP, h]
theorem come_new {ah q : List Int} {n : Nat} {v : Int} (h : n < ah.length) (h1 : ah[n] = -1) : dd_comeP ah q n v = (true, ah.set n v, q ++ [(n : Int)]) := by
  unfold dd_comeP
  rw [if_pos (inR_true.2 (by omega)), if_pos (by rw [gt_nat _ _ h]; exact h1)]
  simp
theorem come_old {ah q : List Int} {n : Nat} {v : Int} (h : n < ah.length) (h1 : ah[n] ≠ -1) : dd_comeP ah q n v = (ah[n] == v, ah, q) := by
  unfold dd_comeP
  rw [if_pos (inR_true.2 (by omega)), if_neg (by rw [gt_nat _ _ h]; exact h1), gt_nat _ _ h]
set_option maxRecDepth 100000 in
set_option maxHeartbeats 1000000 in
theorem dd_come_any (B bw : Nat) (va vq : Value) (ah q : List Int) (k v : Int) (w : World) (h : Walk B bw w va vq ah q) (hl : ah.length ≤ 14) (hq : q.length ≤ 100) :
    Calls Tryz.prog 71 #[.pointer (some ⟨bw, 0, none⟩), .int .i64 k, .int .i64 v] w fun e w' => e = .returned (.bool (dd_comeP ah q k v).1) ∧ Below B w w' ∧ ∃ vq', Walk B bw w' va vq' (dd_comeP ah q k v).2.1 (dd_comeP ah q k v).2.2 := by
  obtain ⟨aa, ca, hva, hlm⟩ := h.ra.slice
  have ha := h.a
  have hbw := h.lt
  have hBw := h.hB
  rw [hva] at ha
  cases hr : inR k 0 ((ah.length : Int) - 1)
  · rw [come_out hr]
    go_enter Tryz.func71, Tryz.ntmps71
    go_wp2_with (go_at_call 64; refine (isPlace_any _ _ _).mono ?_; rintro e w' ⟨rfl, hw⟩; obtain rfl := hw.symm)
    go_ret
    exact ⟨rfl, Below.refl _ _, vq, h⟩
  have hr' := inR_true.1 hr
  obtain ⟨n, rfl⟩ := Int.eq_ofNat_of_zero_le hr'.1
  have hn : n < ah.length := by omega
  have hnz : (n : Int) < ah.length := by omega
  obtain ⟨ga, oa, ca', hva', hga, hgal⟩ := h.ra.form (by omega)
  have hra := h.ra
  rw [hva'] at hra
  obtain ⟨hcn, hfn⟩ := hra.cell hn
  have hne : ga ≠ bw := fun e => h.na (by rw [hva', e]; rfl)
  obtain ⟨rfl, rfl⟩ : aa = some ⟨ga, oa, none⟩ ∧ ca = ca' := by rw [hva] at hva'; injection hva' with e1 _ e2; exact ⟨e1, e2⟩
  clear hva'
  subst hva
  by_cases h1 : ah[n] = -1
  · rw [come_new hn h1]
    rw [h1] at hcn
    have hset := hra.set n hn v
    have hrq := h.rq.set_other (p := ⟨ga, oa + n, none⟩) (.int .i64 v) (h.apart ga rfl)
    have hq0 := h.c
    have hf0 := h.f
    have hap := h.apart ga rfl
    have hnq := h.nq
    have hcb0 : (w.setCell ⟨ga, oa + n, none⟩ (.int .i64 v)).cell? ⟨bw, 0, none⟩ = some (.slice (some ⟨ga, oa, none⟩) ah.length ca) := by rw [World.cell?_setCell_far _ _ _ _ (by exact hne)]; exact ha
    have hcb1 : (w.setCell ⟨ga, oa + n, none⟩ (.int .i64 v)).cell? ⟨bw, 1, none⟩ = some vq := by rw [World.cell?_setCell_far _ _ _ _ (by exact hne)]; exact hq0
    have hfb : (w.setCell ⟨ga, oa + n, none⟩ (.int .i64 v)).frozen? ⟨bw, 1, none⟩ = false := by rw [World.frozen?_setCell]; exact hf0
    have hnew := World.cell?_setCell_same w ⟨ga, oa + n, none⟩ (.int .i64 v) hcn
    have hb1 := below_set (Below.refl B w) ga (oa + n) (.int .i64 v) hga
    have hs1 : (w.setCell ⟨ga, oa + n, none⟩ (.int .i64 v)).heap.size = w.heap.size := by simp [World.setCell]
    obtain ⟨i0, hi, hz0, hz1, hz2⟩ := info_parts Tryz.infoInt
    clear h hra hq0 hf0
    go_enter Tryz.func71, Tryz.ntmps71
    go_wp2_with (first | (go_at_call 64; refine (isPlace_any _ _ _).mono ?_; rintro e w' ⟨rfl, hw⟩; obtain rfl := hw.symm) | (at_builtin; (refine append_int Tryz.underlying63 hi hz0 hz1 hz2 _ (by rfl) _ _ (by rfl) vq q (by rfl) hrq (n : Int) w.heap.size _ hs1 (by rfl) (by omega) (by omega) ?_); intro g off cap w2 h2 hg2 hat hlt2; have c0 := cell_grown hg2 hcb0 hnq; have c1 := cell_grown hg2 hcb1 hnq; have f1 := (frozen_grown hg2 (a := ⟨bw, 1, none⟩) (by rw [hs1]; exact hbw) hnq).trans hfb; have cn := cell_grown hg2 hnew hap; have c0' : ∀ u, (w2.setCell ⟨bw, 1, none⟩ u).cell? ⟨bw, 0, none⟩ = some (.slice (some ⟨ga, oa, none⟩) ah.length ca) := (fun u => by rw [World.cell?_setCell_other _ _ _ _ (fun e => by have := congrArg Addr.off e; simp at this)]; exact c0); have cn' : ∀ u, (w2.setCell ⟨bw, 1, none⟩ u).cell? ⟨ga, oa + n, none⟩ = some (.int .i64 v) := (fun u => by rw [World.cell?_setCell_far _ _ _ _ (by exact Ne.symm hne)]; exact cn)))
    go_ret
    have hga2 : g ≠ ga := fun e => by
      rcases hat with hat | hat
      · exact hap (by rw [hat, e])
      · omega
    have hgb2 : g ≠ bw := fun e => by
      rcases hat with hat | hat
      · exact hnq (by rw [hat, e])
      · omega
    refine ⟨rfl, ?_, _, ⟨c0' _, World.cell?_setCell_same _ _ _ c1, by rw [World.frozen?_setCell]; exact f1, ?_, ?_, ?_, ?_, ?_, hBw⟩⟩
    · exact below_set (below_grow2 hb1 hg2 (by omega) (fun g' e => (hrq.lt g' e).1)) bw 1 _ hBw
    · exact (hset.grown hg2 (fun g' e q => by cases e; exact hap q)).set_other _ (by simp [Value.ownBlock]; exact hne)
    · exact h2.set_other _ (by simp [Value.ownBlock]; exact hgb2)
    · intro g' e q; cases e; simp [Value.ownBlock] at q; exact hga2 q
    · simp [Value.ownBlock]; exact hne
    · simp [Value.ownBlock]; exact hgb2
  · rw [come_old hn h1]
    have h1' : (ah[n] == -1) = false := beq_eq_false_iff_ne.2 h1
    go_enter Tryz.func71, Tryz.ntmps71
    go_wp2_with (go_at_call 64; refine (isPlace_any _ _ _).mono ?_; rintro e w' ⟨rfl, hw⟩; obtain rfl := hw.symm)
    go_ret
    exact ⟨rfl, Below.refl _ _, vq, h⟩
end Go.Proofs.YtfpodljalccpnaaGreatDoor
