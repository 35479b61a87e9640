/-
  What is seen of a heap, by the program: slices.Clone of values, renumberedVals, renumbered.
-/
import Derived.Test.YtldiccheboipeaaVImpl
import Derived.Test.YtldiccheboipeaaVSpec2
import Derived.Lib.SliceRun

namespace Go.Proofs.Ytldiccheboipeaa
open Go.RowKit
set_option maxRecDepth 100000 in
set_option maxHeartbeats 1000000 in
theorem clone_any (v : Value) (xs : List (Int × Int)) (w : World) (h : OpsAt w v xs) (hl : xs.length ≤ 1000) :
    Calls Try.prog 148 #[v] w fun e w' => ∃ v', e = .returned v' ∧ PairRow w.heap.size w' v' xs ∧ Below w.heap.size w w' := by
  obtain ⟨a, c, rfl, hlm, hc⟩ := id h
  have hnil : ∀ (W : World) (a : Option Addr) (n c : Nat), (binOp .eql 31 (.slice a n c) (.slice none 0 0)).run Try.prog W = .ok (.bool a.isNone) W := fun W a n c => Lib.run_eql_slice_nil W _ _ a n c 0 0 Try.underlying31
  cases a with
  | none =>
    have hx : xs = [] := by
      cases xs with
      | nil => rfl
      | cons y t => obtain ⟨b, o, e, _⟩ := hc 0 (by simp); cases e
    subst hx
    go_enter Try.func148, Try.ntmps148
    go_wp2
    go_ret
    exact ⟨_, rfl, PairRow.nil _ _, Below.refl _ _⟩
  | some ad =>
    have N1 := (Below.refl w.heap.size w).alloc (Nat.le_refl _) (.cells #[] 130)
    have mk := PairRow.made (B := w.heap.size) (w := w) (e := 130) (Nat.le_refl _)
    have h1 := h.below N1
    go_enter Try.func148, Try.ntmps148
    go_wp2_with (at_builtin; refine append_vals _ (by rfl) _ _ (by rfl) w.heap.size _ _ [] xs (by rfl) (by rfl) mk h1 (by simp; omega) N1.size ?_; intro v2 w2 hrow2 hg2 hb2; rw [List.nil_append] at hrow2)
    have B2 := N1.grown hg2 N1.size (fun q e => (mk.lt q e).1)
    clear hg2 hb2
    go_ret
    exact ⟨_, rfl, hrow2, B2⟩
theorem PairRow.set1 {B : Nat} {w : World} {g off n cap : Nat} {xs : List (Int × Int)} (h : PairRow B w (.slice (some ⟨g, off, none⟩) n cap) xs) (i : Nat) (hi : i < xs.length) (y : Int) :
    PairRow B (w.setCell ⟨g, off + i * 2 + 1, none⟩ (.int .i64 y)) (.slice (some ⟨g, off, none⟩) n cap) (xs.set i (xs[i].1, y)) := by
  obtain ⟨⟨hc, hd⟩, _⟩ := h.cell hi
  rcases h with ⟨h, _⟩ | ⟨g', off', cap', hv, hB, hg, hl, hm, hsp, hx⟩
  · cases h
  · cases hv
    refine .inr ⟨g, off, cap, by simp, hB, by simp [World.setCell]; exact hg, by simpa using hl, hm, fun j hj => ?_, fun j hj => ?_⟩
    · rw [World.frozen?_setCell]
      refine ⟨?_, (hsp j hj).2⟩
      by_cases e : j = i * 2 + 1
      · subst e; rw [show off + (i * 2 + 1) = off + i * 2 + 1 by omega, World.cell?_setCell_same _ _ _ hd]; rfl
      · rw [World.cell?_setCell_other _ _ _ _ (fun q => by have := congrArg Addr.off q; simp at this; omega)]; exact (hsp j hj).1
    · rw [List.length_set] at hj
      by_cases e : j = i
      · subst e
        rw [List.getElem_set_self]
        refine ⟨?_, World.cell?_setCell_same _ _ _ hd⟩
        rw [World.cell?_setCell_other _ _ _ _ (fun q => by have := congrArg Addr.off q; simp at this)]; exact hc
      · rw [List.getElem_set_ne (Ne.symm e), World.cell?_setCell_other _ _ _ _ (fun q => by have := congrArg Addr.off q; simp at this; omega), World.cell?_setCell_other _ _ _ _ (fun q => by have := congrArg Addr.off q; simp at this; omega)]
        exact hx j hj
theorem Ord.below {A : Nat → Prop} {B bo n : Nat} {ps : List Nat} {vp vn : Value} {w w' : World} (h : Ord A B bo n ps vp vn w) (hb : Below w.heap.size w w') : Ord A B bo n ps vp vn w' :=
  ⟨h.le, row_below hb h.box, h.p.below hb, h.n.below hb, h.pb, h.nb, h.pn, fun g hg => ⟨(h.av g hg).1, Nat.lt_of_lt_of_le (h.av g hg).2.1 hb.size, (h.av g hg).2.2⟩⟩
theorem Ord.set {A : Nat → Prop} {B bo n : Nat} {ps : List Nat} {vp vn : Value} {w : World} (h : Ord A B bo n ps vp vn w) {p : Addr} (u : Value) (h1 : bo ≠ p.block) (h2 : vp.ownBlock ≠ some p.block) (h3 : vn.ownBlock ≠ some p.block) : Ord A B bo n ps vp vn (w.setCell p u) :=
  ⟨h.le, h.box.of_block (Below.heap_setCell _ _ _ _ h1), h.p.set_other u h2, h.n.set_other u h3, h.pb, h.nb, h.pn, fun g hg => ⟨(h.av g hg).1, by simp [World.setCell]; exact (h.av g hg).2.1, (h.av g hg).2.2⟩⟩
set_option maxRecDepth 100000 in
set_option maxHeartbeats 2000000 in
theorem renumberedVals_any (A : Nat → Prop) (B bo n : Nat) (ps : List Nat) (vp vn vl : Value) (vals : List (Int × Int)) (w : World) (h : Ord A B bo n ps vp vn w) (hps : PsOk n ps) (hn : n ≤ 1000) (hl : OpsAt w vl vals) (hll : vals.length ≤ 1000) :
    Calls Try.prog 132 #[vl, .func (.func 106) #[.pointer (some ⟨bo, 0, none⟩)] #[]] w fun e w' => ∃ v, e = .returned v ∧ PairRow w.heap.size w' v (vals.map (ren ps)) ∧ Below w.heap.size w w' := by
  obtain ⟨al, cl, rfl, _, _⟩ := id hl
  go_enter Try.func132, Try.ntmps132
  go_wp2_with fail
  refine (clone_any _ vals _ hl hll).mono ?_
  rintro e w1 ⟨v1, rfl, hr1, hb1⟩
  obtain ⟨a1, c1, hv1, _⟩ := hr1.slice
  subst hv1
  have hO1 := h.below hb1
  have hz1 := hb1.size
  have HLT : Hid (bo < w.heap.size ∧ (∀ g, vp.ownBlock = some g → g < w.heap.size) ∧ (∀ g, vn.ownBlock = some g → g < w.heap.size)) := ⟨h.box.lt, fun g e => (h.p.lt g e).2, fun g e => (h.n.lt g e).2⟩
  go_wp2
  go_loopg [12] vals.length (fun g i wr => ∃ (k : Nat) (ys : List (Int × Int)), k ≤ vals.length ∧ g = vals.length - k ∧ i = .int .i64 k ∧ ys.length = vals.length ∧ PairRow w.heap.size wr (.slice a1 vals.length c1) ys ∧ (∀ q, (hq : q < ys.length) → (hq' : q < vals.length) → (q < k → ys[q] = ren ps vals[q]) ∧ (k ≤ q → ys[q] = vals[q])) ∧ Ord A B bo n ps vp vn wr ∧ Below w.heap.size w wr)
  case atStart => exact ⟨0, vals, Nat.zero_le _, rfl, rfl, rfl, hr1, fun q _ _ => ⟨fun hq => absurd hq (Nat.not_lt_zero _), fun _ => rfl⟩, hO1, hb1⟩
  case round =>
    obtain ⟨k, ys, hk, rfl, rfl, hyl, hr, hys, hO, hb⟩ := hrel
    have HY : Hid (∀ q, (hq : q < ys.length) → (hq' : q < vals.length) → (q < k → ys[q] = ren ps vals[q]) ∧ (k ≤ q → ys[q] = vals[q])) := hys
    clear hys
    by_cases hlt : k < vals.length
    · obtain ⟨g1, o1, c2, e1, hgB, hgl⟩ := hr.form (by omega)
      obtain rfl : a1 = some ⟨g1, o1, none⟩ := by injection e1
      clear e1
      have hky : k < ys.length := by omega
      have hyk : ys[k] = vals[k] := (HY.out k hky hlt).2 (Nat.le_refl _)
      obtain ⟨⟨d0, d1⟩, f0, f1⟩ := hr.cell hky
      have hkz : (k : Int) < (vals.length : Int) := by omega
      have N1 := (Below.refl wr.heap.size wr).alloc (Nat.le_refl _) (.cells #[.int .i64 vals[k].1, .int .i64 vals[k].2] 130)
      have hrA := hr.below N1
      have hOA := hO.below N1
      have hbA := hb.trans (N1.mono hb.size)
      have hset0 := hr.set1 k hky (numOf ps vals[k].2)
      have hset := hset0.below ((Below.refl _ _).alloc (Nat.le_refl _) (.cells #[.int .i64 vals[k].1, .int .i64 vals[k].2] 130))
      clear hset0
      have d1A := cell_below N1 d1
      have f1A : (wr.alloc (.cells #[.int .i64 vals[k].1, .int .i64 vals[k].2] 130)).frozen? ⟨g1, o1 + k * 2 + 1, none⟩ = false := (World.frozen?_of_block (a := ⟨g1, o1 + k * 2 + 1, none⟩) (N1.block g1 hgl)).trans f1
      rw [hyk] at d0 d1 d1A hset
      have hren : vals[k].1 = 2 → ren ps vals[k] = (vals[k].1, numOf ps vals[k].2) := fun e => by unfold ren; rw [if_pos e, e]
      have hren2 : ¬ vals[k].1 = 2 → ren ps vals[k] = vals[k] := fun e => by unfold ren; rw [if_neg e]
      have HREN : Hid _ := hren
      have HREN2 : Hid _ := hren2
      have HB3 := HLT.out
      have hOS := (hO.set (p := ⟨g1, o1 + k * 2 + 1, none⟩) (.int .i64 (numOf ps vals[k].2)) (by show bo ≠ g1; omega) (fun e => by have h1 : g1 < w.heap.size := HB3.2.1 _ e; omega) (fun e => by have h1 : g1 < w.heap.size := HB3.2.2 _ e; omega)).alloc (.cells #[.int .i64 vals[k].1, .int .i64 vals[k].2] 130)
      have hbS0 := hb.setCell (p := ⟨g1, o1 + k * 2 + 1, none⟩) hgB (.int .i64 (numOf ps vals[k].2))
      have hbS := hbS0.alloc hbS0.size (.cells #[.int .i64 vals[k].1, .int .i64 vals[k].2] 130)
      clear hren hren2 hr hO hb HLT hbS0
      by_cases hkd : vals[k].1 = 2
      · have hE := HREN.out hkd
        have HE : Hid (ren ps vals[k] = (vals[k].1, numOf ps vals[k].2)) := hE
        clear hE
        have hds : ∀ x0 : Int, x0 = vals[k].1 → x0 = 2 := fun x0 e => by rw [e]; exact hkd
        clear hds
        have HYK : Hid (ys[k] = vals[k]) := hyk
        clear hyk
        have hd02 : wr.cell? ⟨g1, o1 + k * 2, none⟩ = some (.int .i64 2) := by rw [d0, hkd]
        clear d0
        rw [hkd] at hset hOS hbS hOA d1A f1A
        go_wp2_with (go_at_call 106; refine (numberOf_any A B bo n ps vp vn _ _ hOA hps hn).mono ?_; rintro e w' ⟨rfl, hw⟩; obtain rfl := hw.symm)
        go_roundg (vals.length - (k + 1))
        case measure => omega
        case rel => exact ⟨k + 1, _, by omega, rfl, by go_num, by rw [List.length_set]; exact hyl, hset, fun q h1 h2 => by
            rw [List.length_set] at h1
            refine ⟨fun hq => ?_, fun hq => ?_⟩
            · by_cases e : q = k
              · subst e; rw [List.getElem_set_self, HE.out, hkd]
              · rw [List.getElem_set_ne (fun x => e x.symm)]; exact (HY.out q h1 h2).1 (by omega)
            · rw [List.getElem_set_ne (by omega)]; exact (HY.out q h1 h2).2 (by omega), hOS, hbS⟩
      · have hE := HREN2.out hkd
        have HE : Hid (ren ps vals[k] = vals[k]) := hE
        have HYK : Hid (ys[k] = vals[k]) := hyk
        clear hE hyk hset hOS hbS
        go_wp2
        go_roundg (vals.length - (k + 1))
        case measure => omega
        case rel => exact ⟨k + 1, ys, by omega, rfl, by go_num, hyl, hrA, fun q h1 h2 => by
            refine ⟨fun hq => ?_, fun hq => (HY.out q h1 h2).2 (by omega)⟩
            by_cases e : q = k
            · subst e; rw [HYK.out, HE.out]
            · exact (HY.out q h1 h2).1 (by omega), hOA, hbA⟩
    · obtain rfl : k = vals.length := by omega
      have hE : ys = vals.map (ren ps) := List.ext_getElem (by simpa using hyl) fun q h1 h2 => by rw [(HY.out q h1 (by simpa using h2)).1 (by simpa using h2)]; simp
      subst hE
      go_wp2
      go_ret
      exact ⟨_, rfl, hr, hb⟩
end Go.Proofs.Ytldiccheboipeaa

/-
  What is seen of a heap, by the program: renumbered.
-/
namespace Go.Proofs.Ytldiccheboipeaa
open Go.RowKit
set_option maxRecDepth 100000 in
set_option maxHeartbeats 2000000 in
theorem renumbered_any (A : Nat → Prop) (B bo n : Nat) (ps : List Nat) (vp vn vt vs : Value) (c : Cl) (w : World) (h : Ord A B bo n ps vp vn w) (hps : PsOk n ps) (hn : n ≤ 1000) (ht : OpsAt w vt c.temps) (hs : OpsAt w vs c.stack) (hb : c.temps.length ≤ 1000 ∧ c.stack.length ≤ 1000) :
    Calls Try.prog 105 #[.agg (clCells vt vs c), .func (.func 106) #[.pointer (some ⟨bo, 0, none⟩)] #[]] w fun e w' => ∃ vt' vs', e = .returned (.agg (clCells vt' vs' (viewC ps c))) ∧ PairRow w.heap.size w' vt' (c.temps.map (ren ps)) ∧ PairRow w.heap.size w' vs' (c.stack.map (ren ps)) ∧ (∀ g, vt'.ownBlock = some g → vs'.ownBlock ≠ some g) ∧ Below w.heap.size w w' := by
  obtain ⟨at', ct', hvt⟩ := ht.shape
  obtain ⟨as', cs', hvs⟩ := hs.shape
  subst hvt hvs
  unfold clCells viewC
  obtain ⟨hb1, hb2⟩ := hb
  have hA : Below w.heap.size w ((w.alloc (.cells #[.int .i64 c.m, .int .i64 c.pc, .slice at' c.temps.length ct', .slice as' c.stack.length cs', .int .i64 c.sender, .bool c.dead] 88)).alloc (.cells #[.int .i64 0, .int .i64 0, .slice none 0 0, .slice none 0 0, .int .i64 0, .bool false] 88)) := ((Below.refl _ _).alloc (Nat.le_refl _) _).alloc (by simp) _
  have bc := (six_new w 88 (.int .i64 c.m) (.int .i64 c.pc) (.slice at' c.temps.length ct') (.slice as' c.stack.length cs') (.int .i64 c.sender) (.bool c.dead)).alloc (.cells #[.int .i64 0, .int .i64 0, .slice none 0 0, .slice none 0 0, .int .i64 0, .bool false] 88)
  have bz := six_new (w.alloc (.cells #[.int .i64 c.m, .int .i64 c.pc, .slice at' c.temps.length ct', .slice as' c.stack.length cs', .int .i64 c.sender, .bool c.dead] 88)) 88 (.int .i64 0) (.int .i64 0) (.slice none 0 0) (.slice none 0 0) (.int .i64 0) (.bool false)
  simp only [World.size_alloc] at bz
  have HLT : Hid (bo < w.heap.size ∧ (∀ g, vp.ownBlock = some g → g < w.heap.size) ∧ (∀ g, vn.ownBlock = some g → g < w.heap.size)) := ⟨h.box.lt, fun g e => (h.p.lt g e).2, fun g e => (h.n.lt g e).2⟩
  go_enter Try.func105, Try.ntmps105
  go_upto_region 1 with fail
  generalize (w.alloc (.cells #[.int .i64 c.m, .int .i64 c.pc, .slice at' c.temps.length ct', .slice as' c.stack.length cs', .int .i64 c.sender, .bool c.dead] 88)).alloc (.cells #[.int .i64 0, .int .i64 0, .slice none 0 0, .slice none 0 0, .int .i64 0, .bool false] 88) = W1 at *
  have zA := hA.size
  have yA := bz.lt
  have hO1 := h.below hA
  obtain ⟨⟨x0, x1, x2, x3, x4, x5⟩, f0, f1, f2, f3, f4, f5⟩ := six_cells bc
  have nb : bo ≠ w.heap.size ∧ vp.ownBlock ≠ some w.heap.size ∧ vn.ownBlock ≠ some w.heap.size := ⟨by have := HLT.out.1; omega, fun e => by have := HLT.out.2.1 _ e; omega, fun e => by have := HLT.out.2.2 _ e; omega⟩
  go_upto_region 2 with (go_at_call 106; refine (numberOf_any A B bo n ps vp vn _ _ hO1 hps hn).mono ?_; rintro e w' ⟨rfl, hw⟩; obtain rfl := hw.symm)
  have bc2 := six_set4 bc (.int .i64 (numOf ps c.sender))
  have bz2 := row_set (k := w.heap.size) (o := 4) bz (by omega) (.int .i64 (numOf ps c.sender))
  have hO2 := hO1.set (p := ⟨w.heap.size, 4, none⟩) (.int .i64 (numOf ps c.sender)) nb.1 nb.2.1 nb.2.2
  have B2 := hA.setCell (p := ⟨w.heap.size, 4, none⟩) (Nat.le_refl _) (.int .i64 (numOf ps c.sender))
  have z2 : (W1.setCell ⟨w.heap.size, 4, none⟩ (.int .i64 (numOf ps c.sender))).heap.size ≥ W1.heap.size := by simp [World.setCell]
  generalize W1.setCell ⟨w.heap.size, 4, none⟩ (.int .i64 (numOf ps c.sender)) = w2 at *
  clear bc bz hO1 hA x0 x1 x2 x3 x4 x5 f0 f1 f2 f3 f4 f5
  obtain ⟨⟨x0, x1, x2, x3, x4, x5⟩, f0, f1, f2, f3, f4, f5⟩ := six_cells bc2
  have ht2 := ht.below B2
  have y2 := bz2.lt
  go_upto_region 3 with (go_at_call 132; refine (renumberedVals_any A B bo n ps vp vn _ c.temps _ hO2 hps hn ht2 hb1).mono ?_; rintro e w3 ⟨v3, rfl, hr3, hb3⟩; obtain ⟨a3, c3, hv3, _⟩ := hr3.slice; rw [List.length_map] at hv3; subst hv3; have bc3 := row_below hb3 bc2; obtain ⟨⟨y0, y1, y2, y3, y4, y5⟩, k0, k1, k2, k3, k4, k5⟩ := six_cells bc3)
  have bz3 := row_below hb3 bz2
  have hO3 := hO2.below hb3
  have B3 := B2.trans (hb3.mono B2.size)
  have z3 := hb3.size
  clear bc2 bz2 hO2 B2 hb3 x0 x1 x2 x3 x4 x5 f0 f1 f2 f3 f4 f5 y0 y1 y2 y3 y4 y5 k0 k1 k2 k3 k4 k5 ht2
  have nt3 : (Value.slice a3 c.temps.length c3).ownBlock ≠ some w.heap.size := fun e => by have := (hr3.lt _ e).1; omega
  have bc4 := six_set2 bc3 (.slice a3 c.temps.length c3)
  have bz4 := row_set (k := w.heap.size) (o := 2) bz3 (by omega) (.slice a3 c.temps.length c3)
  have hO4 := hO3.set (p := ⟨w.heap.size, 2, none⟩) (.slice a3 c.temps.length c3) nb.1 nb.2.1 nb.2.2
  have P4 := hr3.set_other (p := ⟨w.heap.size, 2, none⟩) (.slice a3 c.temps.length c3) nt3
  have B4 := B3.setCell (p := ⟨w.heap.size, 2, none⟩) (Nat.le_refl _) (.slice a3 c.temps.length c3)
  have z4 : (w3.setCell ⟨w.heap.size, 2, none⟩ (.slice a3 c.temps.length c3)).heap.size ≥ w3.heap.size := by simp [World.setCell]
  generalize w3.setCell ⟨w.heap.size, 2, none⟩ (.slice a3 c.temps.length c3) = w4 at *
  clear bc3 bz3 hO3 hr3 B3
  obtain ⟨⟨x0, x1, x2, x3, x4, x5⟩, f0, f1, f2, f3, f4, f5⟩ := six_cells bc4
  have hs4 := hs.below B4
  go_upto_region 4 with (go_at_call 132; refine (renumberedVals_any A B bo n ps vp vn _ c.stack _ hO4 hps hn hs4 hb2).mono ?_; rintro e w5 ⟨v5, rfl, hr5, hb5⟩; obtain ⟨a5, c5, hv5, _⟩ := hr5.slice; rw [List.length_map] at hv5; subst hv5; have bc5 := row_below hb5 bc4; obtain ⟨⟨y0, y1, y2, y3, y4, y5⟩, k0, k1, k2, k3, k4, k5⟩ := six_cells bc5)
  have bz5 := row_below hb5 bz4
  have P5 := P4.below hb5
  have B5 := B4.trans (hb5.mono B4.size)
  have z5 := hb5.size
  have hap : ∀ q, (Value.slice a3 c.temps.length c3).ownBlock = some q → (Value.slice a5 c.stack.length c5).ownBlock ≠ some q := fun q e e2 => by have h1 := (P4.lt q e).2; have h2 := (hr5.lt q e2).1; omega
  clear bc4 bz4 hO4 B4 hb5 x0 x1 x2 x3 x4 x5 f0 f1 f2 f3 f4 f5 y0 y1 y2 y3 y4 y5 k0 k1 k2 k3 k4 k5 hs4 P4
  have ns5 : (Value.slice a5 c.stack.length c5).ownBlock ≠ some w.heap.size := fun e => by have := (hr5.lt _ e).1; omega
  have bc6 := six_set3 bc5 (.slice a5 c.stack.length c5)
  have bz6 := row_set (k := w.heap.size) (o := 3) bz5 (by omega) (.slice a5 c.stack.length c5)
  have P6 := P5.set_other (p := ⟨w.heap.size, 3, none⟩) (.slice a5 c.stack.length c5) nt3
  have Q6 := hr5.set_other (p := ⟨w.heap.size, 3, none⟩) (.slice a5 c.stack.length c5) ns5
  have B6 := B5.setCell (p := ⟨w.heap.size, 3, none⟩) (Nat.le_refl _) (.slice a5 c.stack.length c5)
  generalize w5.setCell ⟨w.heap.size, 3, none⟩ (.slice a5 c.stack.length c5) = w6 at *
  clear bc5 bz5 P5 hr5 B5
  have nt1 : (Value.slice a3 c.temps.length c3).ownBlock ≠ some (w.heap.size + 1) := fun e => by have := (P6.lt _ e).1; omega
  have ns1 : (Value.slice a5 c.stack.length c5).ownBlock ≠ some (w.heap.size + 1) := fun e => by have := (Q6.lt _ e).1; omega
  obtain ⟨⟨x0, x1, x2, x3, x4, x5⟩, xf⟩ := six_cells bc6
  obtain ⟨⟨y0, y1, y2, y3, y4, y5⟩, k0, k1, k2, k3, k4, k5⟩ := six_cells bz6
  clear xf
  have R9 := six_set5 (six_set4 (six_set3 (six_set2 (six_set1 (six_set0 bz6 (.int .i64 c.m)) (.int .i64 c.pc)) (.slice a3 c.temps.length c3)) (.slice a5 c.stack.length c5)) (.int .i64 (numOf ps c.sender))) (.bool c.dead)
  have P9 := (((((P6.set_other (p := ⟨w.heap.size + 1, 0, none⟩) (.int .i64 c.m) nt1).set_other (p := ⟨w.heap.size + 1, 1, none⟩) (.int .i64 c.pc) nt1).set_other (p := ⟨w.heap.size + 1, 2, none⟩) (.slice a3 c.temps.length c3) nt1).set_other (p := ⟨w.heap.size + 1, 3, none⟩) (.slice a5 c.stack.length c5) nt1).set_other (p := ⟨w.heap.size + 1, 4, none⟩) (.int .i64 (numOf ps c.sender)) nt1).set_other (p := ⟨w.heap.size + 1, 5, none⟩) (.bool c.dead) nt1
  have Q9 := (((((Q6.set_other (p := ⟨w.heap.size + 1, 0, none⟩) (.int .i64 c.m) ns1).set_other (p := ⟨w.heap.size + 1, 1, none⟩) (.int .i64 c.pc) ns1).set_other (p := ⟨w.heap.size + 1, 2, none⟩) (.slice a3 c.temps.length c3) ns1).set_other (p := ⟨w.heap.size + 1, 3, none⟩) (.slice a5 c.stack.length c5) ns1).set_other (p := ⟨w.heap.size + 1, 4, none⟩) (.int .i64 (numOf ps c.sender)) ns1).set_other (p := ⟨w.heap.size + 1, 5, none⟩) (.bool c.dead) ns1
  have B9 := (((((B6.setCell (p := ⟨w.heap.size + 1, 0, none⟩) (Nat.le_succ _) (.int .i64 c.m)).setCell (p := ⟨w.heap.size + 1, 1, none⟩) (Nat.le_succ _) (.int .i64 c.pc)).setCell (p := ⟨w.heap.size + 1, 2, none⟩) (Nat.le_succ _) (.slice a3 c.temps.length c3)).setCell (p := ⟨w.heap.size + 1, 3, none⟩) (Nat.le_succ _) (.slice a5 c.stack.length c5)).setCell (p := ⟨w.heap.size + 1, 4, none⟩) (Nat.le_succ _) (.int .i64 (numOf ps c.sender))).setCell (p := ⟨w.heap.size + 1, 5, none⟩) (Nat.le_succ _) (.bool c.dead)
  go_wp2
  generalize (((((w6.setCell ⟨w.heap.size + 1, 0, none⟩ (.int .i64 c.m)).setCell ⟨w.heap.size + 1, 1, none⟩ (.int .i64 c.pc)).setCell ⟨w.heap.size + 1, 2, none⟩ (.slice a3 c.temps.length c3)).setCell ⟨w.heap.size + 1, 3, none⟩ (.slice a5 c.stack.length c5)).setCell ⟨w.heap.size + 1, 4, none⟩ (.int .i64 (numOf ps c.sender))).setCell ⟨w.heap.size + 1, 5, none⟩ (.bool c.dead) = W9 at *
  obtain ⟨⟨q0, q1, q2, q3, q4, q5⟩, _⟩ := six_cells R9
  exact bodyPost_ret (v := .agg #[.int .i64 c.m, .int .i64 c.pc, .slice a3 c.temps.length c3, .slice a5 c.stack.length c5, .int .i64 (numOf ps c.sender), .bool c.dead]) (by simp [results, Try.results105, go_sem, q0, q1, q2, q3, q4, q5]) rfl ⟨_, _, rfl, P9.mono (by omega), Q9.mono (by omega), hap, B9⟩
end Go.Proofs.Ytldiccheboipeaa
