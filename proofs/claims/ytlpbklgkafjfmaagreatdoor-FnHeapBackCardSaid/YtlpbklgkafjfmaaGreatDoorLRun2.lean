/-
  A heap at work that the program hands out: in memory of its own.
-/
import Derived.Test.YtlpbklgkafjfmaaGreatDoorLList2
import Derived.Test.YtlpbklgkafjfmaaGreatDoorLStep5
import Derived.Test.YtlpbklgkafjfmaaGreatDoorStepT
import Derived.Test.YtlpbklgkafjfmaaGreatDoorTrim
import Derived.Test.YtlpbklgkafjfmaaGreatDoorVImpl
import Derived.Test.YtlpbklgkafjfmaaGreatDoorDHMem

namespace Go.Proofs.YtlpbklgkafjfmaaGreatDoor
open Go.RowKit
variable {B : Nat} {w w' : World} {bl br : Nat} {vp vcs vsd : Value} {C D : Nat → Nat} {T : Nat → Value × Value} {h h' : Hp}
theorem LV.lstBlk (q : Nat) : (lst T q).ownBlock = (if q % 2 = 0 then Blk.temps (q / 2) else Blk.stack (q / 2)).at bl br vcs vsd C D T := by
  unfold lst
  by_cases e : q % 2 = 0
  · rw [if_pos e, if_pos e]; rfl
  · rw [if_neg e, if_neg e]; rfl
theorem LV.out (k : LV B w bl br vp vcs vsd C D T h) {v : Value} (hr : CallRow w.heap.size w' v (outL h T h.calls.length)) (hb : Below w.heap.size w w') (hB : B ≤ w.heap.size) : OwnHeap B w' v vsd h T := by
  have kb := k.below hb
  have hok : ∀ q, q < h.calls.length * 2 → (if q % 2 = 0 then Blk.temps (q / 2) else Blk.stack (q / 2)).ok h.calls.length := fun q hq => by
    by_cases e : q % 2 = 0
    · rw [if_pos e]; show q / 2 < _; omega
    · rw [if_neg e]; show q / 2 < _; omega
  have hlow : ∀ q, q < h.calls.length * 2 → ∀ g, (lst T q).ownBlock = some g → g < w.heap.size := fun q hq g e => by
    rw [LV.lstBlk (bl := bl) (br := br) (vcs := vcs) (vsd := vsd) (C := C) (D := D)] at e
    exact (k.lo _ (hok q hq) g e).2
  refine ⟨⟨?_, fun i hi => kb.ts i hi, fun q hq g e => ⟨fun e2 => ?_, fun q' hq' hne e2 => ?_⟩⟩, kb.sd, fun g e hcb => ?_⟩
  · rcases hr.2 with ⟨h0, h1⟩ | ⟨g, off, cap, hv, hg, hgl, hl, hc, hsp, hx⟩
    · rw [outL_len] at h1
      exact .inl ⟨h0, List.eq_nil_of_length_eq_zero h1⟩
    · rw [outL_len] at hv hl
      refine .inr ⟨g, off, cap, hv, by omega, hgl, hl, hc, hsp, fun i hi => ?_⟩
      have hi' : i < (outL h T h.calls.length).length := by rw [outL_len]; exact hi
      obtain ⟨r0, r1, r2, r3, r4, r5⟩ := rowC_at (outL h T h.calls.length) i hi'
      have hget : ∀ (j : Nat) (u : Value), (rowC (outL h T h.calls.length))[j]? = some u → w'.cell? ⟨g, off + j, none⟩ = some u := fun j u hu => by
        have hj : j < (rowC (outL h T h.calls.length)).length := by
          by_cases q : j < (rowC (outL h T h.calls.length)).length
          · exact q
          · rw [List.getElem?_eq_none (by omega)] at hu; cases hu
        rw [hx j hj, ← List.getElem?_eq_getElem, hu]
      have ea := outL_at h T hi (Nat.le_refl _)
      rw [ea] at r0 r1 r2 r3 r4 r5
      refine ⟨hget _ _ r0, ?_, ?_, ?_, ?_, ?_⟩
      · simpa [Nat.add_assoc] using hget _ _ r1
      · simpa [Nat.add_assoc] using hget _ _ r2
      · simpa [Nat.add_assoc] using hget _ _ r3
      · simpa [Nat.add_assoc] using hget _ _ r4
      · simpa [Nat.add_assoc] using hget _ _ r5
  · have := hlow q hq g e
    have := (hr.lt g e2).1
    omega
  · have e1 := e
    rw [LV.lstBlk (bl := bl) (br := br) (vcs := vcs) (vsd := vsd) (C := C) (D := D)] at e1 e2
    have := k.ap _ _ (hok q hq) (hok q' hq') g e1 e2
    by_cases m : q % 2 = 0
    · by_cases m' : q' % 2 = 0
      · rw [if_pos m, if_pos m'] at this; injection this with z; omega
      · rw [if_pos m, if_neg m'] at this; cases this
    · by_cases m' : q' % 2 = 0
      · rw [if_neg m, if_pos m'] at this; cases this
      · rw [if_neg m, if_neg m'] at this; injection this with z; omega
  · rcases hcb with e2 | ⟨q, hq, e2⟩
    · have := (hr.lt g e2).1
      have := (k.lo .said trivial g e).2
      omega
    · rw [LV.lstBlk (bl := bl) (br := br) (vcs := vcs) (vsd := vsd) (C := C) (D := D)] at e2
      have := k.ap _ .said (hok q hq) trivial g e2 e
      by_cases m : q % 2 = 0
      · rw [if_pos m] at this; cases this
      · rw [if_neg m] at this; cases this
set_option maxRecDepth 100000 in
theorem stepsOk_any (n : Int) (w : World) : Calls Tryz.prog 30 #[.int .i64 n] w fun e w' => e = .returned (.bool (inR n 0 400)) ∧ w' = w := by
  by_cases h0 : 0 ≤ n
  · by_cases h1 : n ≤ 400
    · rw [inR_true.2 ⟨h0, h1⟩]
      go_enter Tryz.func30, Tryz.ntmps30
      go_wp2
      go_ret
      exact ⟨ret_bool (by first | rfl | simp), rfl⟩
    · rw [inR_false.2 (by omega)]
      go_enter Tryz.func30, Tryz.ntmps30
      go_wp2
      go_ret
      exact ⟨ret_bool (by first | rfl | simp), rfl⟩
  · rw [inR_false.2 (by omega)]
    go_enter Tryz.func30, Tryz.ntmps30
    go_wp2
    go_ret
    exact ⟨ret_bool (by first | rfl | simp [h0]), rfl⟩
end Go.Proofs.YtlpbklgkafjfmaaGreatDoor

/-
  HeapRun, the program: as hRun says; its answer in memory of its own.
-/
namespace Go.Proofs.YtlpbklgkafjfmaaGreatDoor
open Go.RowKit
attribute [local go_sem ↓] Go.wp_at_zero Go.wp_at_succ
set_option maxRecDepth 100000 in
set_option maxHeartbeats 8000000 in
theorem implHeapRun_any (vp vc vs : Value) (ms : Ms) (h : Hp) (n : Int) (w : World) (hp : MethsAt w vp ms) (hT : TabAt w) (hh : HeapAt w vc vs h) (hn : h.calls.length ≤ 1048576) (hsd : h.said.length ≤ 1048576) :
    Calls Tryz.prog 16 #[.agg #[vp], .agg (hpCells vc vs h), .int .i64 n] w fun e w' => (∃ vc' vs' V', e = .returned (.tuple #[.agg (hpCells vc' vs' (hRun ms h n)), .bool (heapOk ms h && inR n 0 400)]) ∧ OwnHeap w.heap.size w' vc' vs' (hRun ms h n) V') ∧ Below w.heap.size w w' := by
  obtain ⟨ac, kc, hvc⟩ := hh.c.shape
  obtain ⟨aD, kD, hvs⟩ := hh.s.shape
  obtain ⟨ap, cp, hvp, hlp, _⟩ := id hp
  subst hvc hvs hvp
  unfold hpCells
  have hA : Below w.heap.size w (((w.alloc (.cells #[.slice ap ms.length cp] 25)).alloc (.cells #[.slice ac h.calls.length kc, .int .i64 h.now, .int .i64 h.born, .slice aD h.said.length kD, .int .i64 h.code] 29)).alloc (.cells #[.slice none 0 0, .int .i64 0, .int .i64 0, .slice none 0 0, .int .i64 0] 29)) := (((Below.refl _ _).alloc (Nat.le_refl _) _).alloc (by simp) _).alloc (by simp; omega) _
  have bp := ((box_row w 25 (.slice ap ms.length cp)).alloc (.cells #[.slice ac h.calls.length kc, .int .i64 h.now, .int .i64 h.born, .slice aD h.said.length kD, .int .i64 h.code] 29)).alloc (.cells #[.slice none 0 0, .int .i64 0, .int .i64 0, .slice none 0 0, .int .i64 0] 29)
  have bh := (five_new (w.alloc (.cells #[.slice ap ms.length cp] 25)) 29 (.slice ac h.calls.length kc) (.int .i64 h.now) (.int .i64 h.born) (.slice aD h.said.length kD) (.int .i64 h.code)).alloc (.cells #[.slice none 0 0, .int .i64 0, .int .i64 0, .slice none 0 0, .int .i64 0] 29)
  have bz := five_new ((w.alloc (.cells #[.slice ap ms.length cp] 25)).alloc (.cells #[.slice ac h.calls.length kc, .int .i64 h.now, .int .i64 h.born, .slice aD h.said.length kD, .int .i64 h.code] 29)) 29 (.slice none 0 0) (.int .i64 0) (.int .i64 0) (.slice none 0 0) (.int .i64 0)
  simp only [World.size_alloc] at bh bz
  go_enter Tryz.func16, Tryz.ntmps16
  go_upto_region 1 with fail
  generalize ((w.alloc (.cells #[.slice ap ms.length cp] 25)).alloc (.cells #[.slice ac h.calls.length kc, .int .i64 h.now, .int .i64 h.born, .slice aD h.said.length kD, .int .i64 h.code] 29)).alloc (.cells #[.slice none 0 0, .int .i64 0, .int .i64 0, .slice none 0 0, .int .i64 0] 29) = W0 at *
  obtain ⟨⟨x0, x1, x2, x3, x4⟩, _⟩ := five_cells bh
  have v0 := bp.cell (i := 0) (by decide)
  have zA := hA.size
  go_wp2_with fail
  refine (implHeapOk_any _ _ _ ms h _ (hp.below hA) (hh.below hA) hn).mono ?_
  rintro e w1 ⟨rfl, hb1⟩
  have hB1 : Below w.heap.size w w1 := hA.trans (hb1.mono zA)
  have bp1 := row_below hb1 bp
  have bh1 := row_below hb1 bh
  have bz1 := row_below hb1 bz
  have z1 := hb1.size
  have hbz : w.heap.size + 1 + 1 < w1.heap.size := bz1.lt
  clear hA bp bh bz x0 x1 x2 x3 x4 v0
  obtain ⟨⟨x0, x1, x2, x3, x4⟩, _⟩ := five_cells bh1
  obtain ⟨⟨t0, t1, t2, t3, t4⟩, j0, j1, j2, j3, j4⟩ := five_cells bz1
  have v0 := bp1.cell (i := 0) (by decide)
  have hz2 : w.heap.size ≤ w.heap.size + 1 + 1 := by omega
  have RF := (five_set4 (five_set3 (five_set2 (five_set1 (five_set0 bz1 (.slice none 0 0)) (.int .i64 0)) (.int .i64 0)) (.slice none 0 0)) (.int .i64 0))
  have BF := (((((hB1.setCell (p := ⟨w.heap.size + 1 + 1, 0, none⟩) hz2 (.slice none 0 0)).setCell (p := ⟨w.heap.size + 1 + 1, 1, none⟩) hz2 (.int .i64 0)).setCell (p := ⟨w.heap.size + 1 + 1, 2, none⟩) hz2 (.int .i64 0)).setCell (p := ⟨w.heap.size + 1 + 1, 3, none⟩) hz2 (.slice none 0 0)).setCell (p := ⟨w.heap.size + 1 + 1, 4, none⟩) hz2 (.int .i64 0))
  cases h1 : heapOk ms h
  · have hR : Hid (hRun ms h n = ⟨[], 0, 0, [], 0⟩) := by show _ = _; simp [hRun, h1]
    have hE : Hid ((heapOk ms h && inR n 0 400) = false) := by show _ = _; simp [h1]
    go_wp2
    generalize (((((w1.setCell ⟨w.heap.size + 1 + 1, 0, none⟩ (.slice none 0 0)).setCell ⟨w.heap.size + 1 + 1, 1, none⟩ (.int .i64 0)).setCell ⟨w.heap.size + 1 + 1, 2, none⟩ (.int .i64 0)).setCell ⟨w.heap.size + 1 + 1, 3, none⟩ (.slice none 0 0)).setCell ⟨w.heap.size + 1 + 1, 4, none⟩ (.int .i64 0)) = WF at *
    obtain ⟨⟨q0, q1, q2, q3, q4⟩, _⟩ := five_cells RF
    exact bodyPost_ret (v := .tuple #[.agg #[.slice none 0 0, .int .i64 0, .int .i64 0, .slice none 0 0, .int .i64 0], .bool false]) (by simp [results, Tryz.results16, go_sem, q0, q1, q2, q3, q4]) rfl ⟨⟨.slice none 0 0, .slice none 0 0, _, by rw [hR.out, hE.out], by rw [hR.out]; exact OwnHeap.none _ _⟩, BF⟩
  cases h2 : inR n 0 400
  · have hR : Hid (hRun ms h n = ⟨[], 0, 0, [], 0⟩) := by show _ = _; simp [hRun, h2]
    have hE : Hid ((heapOk ms h && inR n 0 400) = false) := by show _ = _; simp [h2]
    have hso := stepsOk_any n w1
    rw [h2] at hso
    go_wp2_with (go_at_call 30; refine hso.mono ?_; rintro e w' ⟨rfl, hw⟩; obtain rfl := hw.symm)
    generalize (((((w1.setCell ⟨w.heap.size + 1 + 1, 0, none⟩ (.slice none 0 0)).setCell ⟨w.heap.size + 1 + 1, 1, none⟩ (.int .i64 0)).setCell ⟨w.heap.size + 1 + 1, 2, none⟩ (.int .i64 0)).setCell ⟨w.heap.size + 1 + 1, 3, none⟩ (.slice none 0 0)).setCell ⟨w.heap.size + 1 + 1, 4, none⟩ (.int .i64 0)) = WF at *
    obtain ⟨⟨q0, q1, q2, q3, q4⟩, _⟩ := five_cells RF
    exact bodyPost_ret (v := .tuple #[.agg #[.slice none 0 0, .int .i64 0, .int .i64 0, .slice none 0 0, .int .i64 0], .bool false]) (by simp [results, Tryz.results16, go_sem, q0, q1, q2, q3, q4]) rfl ⟨⟨.slice none 0 0, .slice none 0 0, _, by rw [hR.out, hE.out], by rw [hR.out]; exact OwnHeap.none _ _⟩, BF⟩
  clear RF BF
  have hR : Hid (hRun ms h n = runH ms n.toNat h) := by show _ = _; simp [hRun, h1, h2]
  have hE : Hid ((heapOk ms h && inR n 0 400) = true) := by show _ = _; simp [h1, h2]
  have hg := good_iff.1 h1
  have hn' := inR_true.1 h2
  obtain ⟨N, rfl⟩ := Int.eq_ofNat_of_zero_le hn'.1
  have hN : N ≤ 400 := by omega
  have hl := hg.lens
  have hso := stepsOk_any N w1
  rw [h2] at hso
  have hLO := liveOf_any _ _ h w1 (hh.below hB1) (by omega) (fun i hi => by have := hl.2 i hi; omega) hg.head.now (fun i hi => (hg.cl i hi).sd)
  unfold hpCells at hLO
  have HENV : Hid (LEnv w1.heap.size w1 (.slice ap ms.length cp) ms) := ⟨w1, rfl, Below.refl _ _, hp.below hB1, hT.below hB1⟩
  have HG : Hid (Good ms h ∧ OpsAt w1 (.slice aD h.said.length kD) h.said) := ⟨hg, (hh.below hB1).s⟩
  clear hp hT hh h1 h2 hn' hg hlp t0 t1 t2 t3 t4 j0 j1 j2 j3 j4
  go_upto_region 4 with (first
    | (go_at_call 30; refine hso.mono ?_; rintro e w' ⟨rfl, hw⟩; obtain rfl := hw.symm)
    | (go_at_call 31; refine hLO.mono ?_; rintro e w2 ⟨bl, vcs, C, D, T, rfl, kH, hb2⟩))
  have hz12 := hb2.size
  have bp2 := row_below hb2 bp1
  have bh2 := row_below hb2 bh1
  have bz2 := row_below hb2 bz1
  clear x0 x1 x2 x3 x4 v0 hso hLO bp1 bh1 bz1
  obtain ⟨⟨x0, x1, x2, x3, x4⟩, _⟩ := five_cells bh2
  have v0 := bp2.cell (i := 0) (by decide)
  have HS : ∀ w' : World, Below w2.heap.size w2 w' → ((w'.cell? ⟨w.heap.size, 0, none⟩ = some (.slice ap ms.length cp) ∧ w'.cell? ⟨w.heap.size + 1, 2, none⟩ = some (.int .i64 h.born) ∧ w'.cell? ⟨w.heap.size + 1, 3, none⟩ = some (.slice aD h.said.length kD) ∧ w'.cell? ⟨w.heap.size + 1, 4, none⟩ = some (.int .i64 h.code)) ∧ Below w2.heap.size w2 w') := fun w' hb => ⟨⟨cell_below hb v0, cell_below hb x2, cell_below hb x3, cell_below hb x4⟩, hb⟩
  have HCL : Hid (∀ W, Below w2.heap.size w2 W → Calls Tryz.prog 32 #[.slice aD h.said.length kD] W fun e w' => ∃ v', e = .returned v' ∧ PairRow W.heap.size w' v' h.said ∧ Below W.heap.size W w') := fun W hb => clone_big _ _ _ ((HG.out.2.below hb2).below hb) (by omega)
  go_region_held3 (fun w' => (w'.cell? ⟨w.heap.size, 0, none⟩ = some (.slice ap ms.length cp) ∧ w'.cell? ⟨w.heap.size + 1, 2, none⟩ = some (.int .i64 h.born) ∧ w'.cell? ⟨w.heap.size + 1, 3, none⟩ = some (.slice aD h.said.length kD) ∧ w'.cell? ⟨w.heap.size + 1, 4, none⟩ = some (.int .i64 h.code)) ∧ Below w2.heap.size w2 w')
    ((refine HS _ ?_; first
      | (with_reducible exact (‹(_ ∧ _ ∧ _ ∧ _) ∧ Below w2.heap.size w2 _›).2)
      | (with_reducible exact (Below.refl _ _).drew)
      | (with_reducible exact hBA)
      | (with_reducible exact ((Below.refl _ _).alloc (Nat.le_refl _) _).drew)
      | (with_reducible exact hBA.alloc hBA.size _)
      | (with_reducible exact ((((hBA.setCell (p := ⟨_, 0, none⟩) (by first | omega | simp) _).setCell (p := ⟨_, 1, none⟩) (by first | omega | simp) _).setCell (p := ⟨_, 2, none⟩) (by first | omega | simp) _).setCell (p := ⟨_, 3, none⟩) (by first | omega | simp) _).setCell (p := ⟨_, 4, none⟩) (by first | omega | simp) _)))
    (first
      | (go_at_call 32; refine (HCL.out _ (‹(_ ∧ _ ∧ _ ∧ _) ∧ Below w2.heap.size w2 _›).2).mono ?_; rintro e wA ⟨vA, rfl, hrA, hbA⟩; have hBA := Below.trans (‹(_ ∧ _ ∧ _ ∧ _) ∧ Below w2.heap.size w2 _›).2 (hbA.mono ((‹(_ ∧ _ ∧ _ ∧ _) ∧ Below w2.heap.size w2 _›).2).size); have hzA := hBA.size; obtain ⟨aA, kA, hvA, _⟩ := hrA.slice; subst hvA; first | (have rC := row_below hbA (show ((w2.alloc (.cells #[.slice none 0 0, .nilIface, .int .i64 0, .slice none 0 0, .int .i64 0] 76)).drew).rowIs _ _ 5 _ from five_new w2 76 (.slice none 0 0) .nilIface (.int .i64 0) (.slice none 0 0) (.int .i64 0)); obtain ⟨⟨n0, n1, n2, n3, n4⟩, l0, l1, l2, l3, l4⟩ := five_cells rC) | skip))
  all_goals first
    | (have rn := five_new wA 76 (.slice ap ms.length cp) (.iface 70 (.pointer (some ⟨bl, 0, none⟩))) (.int .i64 h.born) (.slice aA h.said.length kA) (.int .i64 h.code);
       have BW := (‹(_ ∧ _ ∧ _ ∧ _) ∧ Below w2.heap.size w2 (wA.alloc _)›).2;
       have hbrw : w2.heap.size ≤ wA.heap.size := hzA;
       have sdW := (hrA.below ((Below.refl wA.heap.size wA).alloc (Nat.le_refl _) (.cells #[.slice ap ms.length cp, .iface 70 (.pointer (some ⟨bl, 0, none⟩)), .int .i64 h.born, .slice aA h.said.length kA, .int .i64 h.code] 76))).mono (B' := w2.heap.size) (by first | exact Nat.le_refl _ | (simp; done) | omega);
       have hnbr : (Value.slice aA h.said.length kA).ownBlock ≠ some wA.heap.size := fun e => (by have := (hrA.lt _ e).2; omega);
       clear HS HCL hbA hBA hzA hrA;
       generalize wA.alloc (.cells #[.slice ap ms.length cp, .iface 70 (.pointer (some ⟨bl, 0, none⟩)), .int .i64 h.born, .slice aA h.said.length kA, .int .i64 h.code] 76) = W at *;
       generalize wA.heap.size = br at *)
    | (have rn := five_set4 (five_set3 (five_set2 (five_set1 (five_set0 rC (.slice ap ms.length cp)) (.iface 70 (.pointer (some ⟨bl, 0, none⟩)))) (.int .i64 h.born)) (.slice aA h.said.length kA)) (.int .i64 h.code);
       have BW := (‹(_ ∧ _ ∧ _ ∧ _) ∧ Below w2.heap.size w2 (World.setCell _ _ _)›).2;
       have hnbr : (Value.slice aA h.said.length kA).ownBlock ≠ some w2.heap.size := fun e => (by have := (hrA.lt _ e).1; simp at this; omega);
       have sdW := ((((((hrA.mono (B' := w2.heap.size) (by simp)).set_other (p := ⟨w2.heap.size, 0, none⟩) (.slice ap ms.length cp) hnbr).set_other (p := ⟨w2.heap.size, 1, none⟩) (.iface 70 (.pointer (some ⟨bl, 0, none⟩))) hnbr).set_other (p := ⟨w2.heap.size, 2, none⟩) (.int .i64 h.born) hnbr).set_other (p := ⟨w2.heap.size, 3, none⟩) (.slice aA h.said.length kA) hnbr).set_other (p := ⟨w2.heap.size, 4, none⟩) (.int .i64 h.code) hnbr);
       clear HS HCL hbA hBA hzA hrA rC n0 n1 n2 n3 n4 l0 l1 l2 l3 l4;
       generalize (((((wA.setCell ⟨w2.heap.size, 0, none⟩ (.slice ap ms.length cp)).setCell ⟨w2.heap.size, 1, none⟩ (.iface 70 (.pointer (some ⟨bl, 0, none⟩)))).setCell ⟨w2.heap.size, 2, none⟩ (.int .i64 h.born)).setCell ⟨w2.heap.size, 3, none⟩ (.slice aA h.said.length kA)).setCell ⟨w2.heap.size, 4, none⟩ (.int .i64 h.code)) = W at *;
       obtain ⟨br, hbr⟩ : ∃ br, br = w2.heap.size := ⟨_, rfl⟩;
       have hbrw : w2.heap.size ≤ br := (by omega);
       rw [← hbr] at rn hnbr;
       rw [← hbr];
       clear hbr)
  all_goals
    have kV := kH.run (h := h) (vp := .slice ap ms.length cp) rn BW hbrw hz12 sdW hnbr
    have E1 := HENV.out.go (hb2.trans (BW.mono hz12))
    have hzW := BW.size
    have hBW : w1.heap.size ≤ W.heap.size := by omega
    have HST := stepsProg_any kV hBW E1 HG.out.1 N (by omega)
    have bz3 := row_below BW bz2
    have HZ : Hid (W.rowIs (w.heap.size + 1 + 1) 29 5 (five (.slice none 0 0) (.int .i64 0) (.int .i64 0) (.slice none 0 0) (.int .i64 0)) ∧ Below w.heap.size w W) := ⟨bz3, (hB1.trans (hb2.mono hB1.size)).trans (BW.mono (by have := hB1.size; omega))⟩
    clear kV E1 rn sdW hnbr bz3 bz2 bp2 bh2 x0 x1 x2 x3 x4 v0 kH
    go_upto_region 6 with (go_at_call 33; refine HST.mono ?_; rintro e w3 ⟨rfl, vcs', vsd', C', D', T', k3, g3⟩)
    have gR := Good.run N h HG.out.1
    have hlR := gR.lens
    have hz3 := g3.b.size
    obtain ⟨aS, kS, hvS, _⟩ := k3.sd.slice
    subst hvS
    obtain ⟨⟨p0, p1⟩, _⟩ := two_cells k3.hp
    obtain ⟨⟨y0, y1, y2, y3, y4⟩, _⟩ := five_cells k3.rn
    have hblL := k3.lo .heap trivial bl rfl
    have hbrL := k3.lo .run trivial br rfl
    obtain ⟨pn, hpn⟩ : ∃ pn, ptrN C' (runH ms N h).now = .pointer pn := by
      unfold ptrN
      split
      · exact ⟨_, rfl⟩
      · exact ⟨_, rfl⟩
    rw [hpn] at p1
    have HPLa : ∀ W', Below w3.heap.size w3 W' → Calls Tryz.prog 35 #[.pointer pn] W' fun e w' => e = .returned (.int .i64 (runH ms N h).now) ∧ w' = W' := fun W' hb' => by
      rw [← hpn]
      by_cases hs : (runH ms N h).now = -1
      · rw [hs, ptrN_neg (by decide)]
        exact placeOf_none _
      · have hnw := gR.head.now
        obtain ⟨q, hq⟩ := Int.eq_ofNat_of_zero_le (show 0 ≤ (runH ms N h).now by omega)
        have hql : q < (runH ms N h).calls.length := by omega
        rw [hq, ptrN_at]
        exact placeOf_at (C' q) q _ (trio_cells ((k3.below hb').cl q hql)).1.2.1
    have HPL : Hid (∀ W', Below w3.heap.size w3 W' → Calls Tryz.prog 35 #[.pointer pn] W' fun e w' => e = .returned (.int .i64 (runH ms N h).now) ∧ w' = W') := HPLa
    have HLI := list_any (k3.below (Below.refl _ _).drew) (by omega) (fun i hi => (gR.cl i hi).sd)
    have HLIH : Hid (Calls Tryz.prog 34 #[.pointer (some ⟨bl, 0, none⟩)] w3.drew fun e w' => ∃ v, e = .returned v ∧ CallRow w3.drew.heap.size w' v (outL (runH ms N h) T' (runH ms N h).calls.length) ∧ Below w3.drew.heap.size w3.drew w') := HLI
    have bz4 := HZ.out.1.of_block (g3.b.block _ hbz)
    have B3 : Below w.heap.size w w3 := HZ.out.2.trans (g3.b.mono (by have := hB1.size; omega))
    have HFIN : Hid (∀ (w4 : World) (aL : Option Addr) (kL : Nat), CallRow w3.heap.size w4 (.slice aL (runH ms N h).calls.length kL) (outL (runH ms N h) T' (runH ms N h).calls.length) → Below w3.heap.size w3 w4 → (w4.rowIs (w.heap.size + 1 + 1) 29 5 (five (.slice none 0 0) (.int .i64 0) (.int .i64 0) (.slice none 0 0) (.int .i64 0)) ∧ ((((((w4.setCell ⟨w.heap.size + 1 + 1, 0, none⟩ (.slice aL (runH ms N h).calls.length kL)).setCell ⟨w.heap.size + 1 + 1, 1, none⟩ (.int .i64 (runH ms N h).now)).setCell ⟨w.heap.size + 1 + 1, 2, none⟩ (.int .i64 (runH ms N h).born)).setCell ⟨w.heap.size + 1 + 1, 3, none⟩ (.slice aS (runH ms N h).said.length kS)).setCell ⟨w.heap.size + 1 + 1, 4, none⟩ (.int .i64 (runH ms N h).code))).rowIs (w.heap.size + 1 + 1) 29 5 (five (.slice aL (runH ms N h).calls.length kL) (.int .i64 (runH ms N h).now) (.int .i64 (runH ms N h).born) (.slice aS (runH ms N h).said.length kS) (.int .i64 (runH ms N h).code)) ∧ OwnHeap w.heap.size ((((((w4.setCell ⟨w.heap.size + 1 + 1, 0, none⟩ (.slice aL (runH ms N h).calls.length kL)).setCell ⟨w.heap.size + 1 + 1, 1, none⟩ (.int .i64 (runH ms N h).now)).setCell ⟨w.heap.size + 1 + 1, 2, none⟩ (.int .i64 (runH ms N h).born)).setCell ⟨w.heap.size + 1 + 1, 3, none⟩ (.slice aS (runH ms N h).said.length kS)).setCell ⟨w.heap.size + 1 + 1, 4, none⟩ (.int .i64 (runH ms N h).code))) (.slice aL (runH ms N h).calls.length kL) (.slice aS (runH ms N h).said.length kS) (runH ms N h) T' ∧ Below w.heap.size w ((((((w4.setCell ⟨w.heap.size + 1 + 1, 0, none⟩ (.slice aL (runH ms N h).calls.length kL)).setCell ⟨w.heap.size + 1 + 1, 1, none⟩ (.int .i64 (runH ms N h).now)).setCell ⟨w.heap.size + 1 + 1, 2, none⟩ (.int .i64 (runH ms N h).born)).setCell ⟨w.heap.size + 1 + 1, 3, none⟩ (.slice aS (runH ms N h).said.length kS)).setCell ⟨w.heap.size + 1 + 1, 4, none⟩ (.int .i64 (runH ms N h).code))))) := fun w4 aL kL hr hb4 => by
      have rz := row_below hb4 bz4
      have O4 := k3.out hr hb4 (by omega)
      have O9 := ((((O4.setLow (p := ⟨w.heap.size + 1 + 1, 0, none⟩) hbz (.slice aL (runH ms N h).calls.length kL)).setLow (p := ⟨w.heap.size + 1 + 1, 1, none⟩) hbz (.int .i64 (runH ms N h).now)).setLow (p := ⟨w.heap.size + 1 + 1, 2, none⟩) hbz (.int .i64 (runH ms N h).born)).setLow (p := ⟨w.heap.size + 1 + 1, 3, none⟩) hbz (.slice aS (runH ms N h).said.length kS)).setLow (p := ⟨w.heap.size + 1 + 1, 4, none⟩) hbz (.int .i64 (runH ms N h).code)
      have hz : w.heap.size ≤ w1.heap.size := hB1.size
      refine ⟨rz, five_set4 (five_set3 (five_set2 (five_set1 (five_set0 rz _) _) _) _) _, ⟨O9.c.mono hz, O9.s.mono hz, O9.apart⟩, ?_⟩
      exact (((((B3.trans (hb4.mono B3.size)).setCell (p := ⟨w.heap.size + 1 + 1, 0, none⟩) hz2 _).setCell (p := ⟨w.heap.size + 1 + 1, 1, none⟩) hz2 _).setCell (p := ⟨w.heap.size + 1 + 1, 2, none⟩) hz2 _).setCell (p := ⟨w.heap.size + 1 + 1, 3, none⟩) hz2 _).setCell (p := ⟨w.heap.size + 1 + 1, 4, none⟩) hz2 _
    have HSX : ∀ w' : World, w'.heap[bl]? = w3.heap[bl]? → w'.heap[br]? = w3.heap[br]? → (w'.cell? ⟨bl, 1, none⟩ = some (.pointer pn) ∧ w'.cell? ⟨br, 2, none⟩ = some (.int .i64 (runH ms N h).born) ∧ w'.cell? ⟨br, 3, none⟩ = some (.slice aS (runH ms N h).said.length kS) ∧ w'.cell? ⟨br, 4, none⟩ = some (.int .i64 (runH ms N h).code)) := fun w' e1 e2 => ⟨(World.cell?_of_block (a := ⟨bl, 1, none⟩) e1).trans p1, (World.cell?_of_block (a := ⟨br, 2, none⟩) e2).trans y2, (World.cell?_of_block (a := ⟨br, 3, none⟩) e2).trans y3, (World.cell?_of_block (a := ⟨br, 4, none⟩) e2).trans y4⟩
    have S0 : w3.drew.cell? ⟨bl, 1, none⟩ = some (.pointer pn) ∧ w3.drew.cell? ⟨br, 2, none⟩ = some (.int .i64 (runH ms N h).born) ∧ w3.drew.cell? ⟨br, 3, none⟩ = some (.slice aS (runH ms N h).said.length kS) ∧ w3.drew.cell? ⟨br, 4, none⟩ = some (.int .i64 (runH ms N h).code) := HSX _ rfl rfl
    have hnl : bl ≠ w.heap.size + 1 + 1 := by omega
    have hnr : br ≠ w.heap.size + 1 + 1 := by omega
    have HRS : Hid (hRun ms h N = runH ms N h) := by show _ = _; rw [hR.out, Int.toNat_natCast]
    clear k3 g3 HLI HPLa gR hlR p0 y0 y1 bz4 HG hpn HST HZ
    go_region_held3 (fun w' => w'.cell? ⟨bl, 1, none⟩ = some (.pointer pn) ∧ w'.cell? ⟨br, 2, none⟩ = some (.int .i64 (runH ms N h).born) ∧ w'.cell? ⟨br, 3, none⟩ = some (.slice aS (runH ms N h).said.length kS) ∧ w'.cell? ⟨br, 4, none⟩ = some (.int .i64 (runH ms N h).code))
      (first | with_reducible exact S0 | with_reducible exact S4 | with_reducible exact S9)
      (first
        | (go_at_call 35; refine (HPL.out _ (Below.refl _ _).drew).mono ?_; rintro e w6 ⟨rfl, hw⟩; obtain rfl := hw.symm)
        | (go_at_call 35; refine (HPL.out _ hB4).mono ?_; rintro e w6 ⟨rfl, hw⟩; obtain rfl := hw.symm)
        | (go_at_call 34; refine HLIH.out.mono ?_; rintro e w4 ⟨v4, rfl, hr4, hb4⟩; have hB4 : Below w3.heap.size w3 w4 := (Below.refl _ _).drew.trans hb4; obtain ⟨aL, kL, hv4, _⟩ := hr4.slice; rw [outL_len] at hv4; subst hv4; obtain ⟨rz4, rF, oF, bF⟩ := HFIN.out w4 aL kL hr4 hB4; obtain ⟨⟨c0, c1, c2, c3, c4⟩, f0, f1, f2, f3, f4⟩ := five_cells rz4; have S4 : w4.cell? ⟨bl, 1, none⟩ = some (.pointer pn) ∧ w4.cell? ⟨br, 2, none⟩ = some (.int .i64 (runH ms N h).born) ∧ w4.cell? ⟨br, 3, none⟩ = some (.slice aS (runH ms N h).said.length kS) ∧ w4.cell? ⟨br, 4, none⟩ = some (.int .i64 (runH ms N h).code) := HSX _ (hB4.block _ hblL.2) (hB4.block _ hbrL.2); have S9 : (((((w4.setCell ⟨w.heap.size + 1 + 1, 0, none⟩ (.slice aL (runH ms N h).calls.length kL)).setCell ⟨w.heap.size + 1 + 1, 1, none⟩ (.int .i64 (runH ms N h).now)).setCell ⟨w.heap.size + 1 + 1, 2, none⟩ (.int .i64 (runH ms N h).born)).setCell ⟨w.heap.size + 1 + 1, 3, none⟩ (.slice aS (runH ms N h).said.length kS)).setCell ⟨w.heap.size + 1 + 1, 4, none⟩ (.int .i64 (runH ms N h).code)).cell? ⟨bl, 1, none⟩ = some (.pointer pn) ∧ (((((w4.setCell ⟨w.heap.size + 1 + 1, 0, none⟩ (.slice aL (runH ms N h).calls.length kL)).setCell ⟨w.heap.size + 1 + 1, 1, none⟩ (.int .i64 (runH ms N h).now)).setCell ⟨w.heap.size + 1 + 1, 2, none⟩ (.int .i64 (runH ms N h).born)).setCell ⟨w.heap.size + 1 + 1, 3, none⟩ (.slice aS (runH ms N h).said.length kS)).setCell ⟨w.heap.size + 1 + 1, 4, none⟩ (.int .i64 (runH ms N h).code)).cell? ⟨br, 2, none⟩ = some (.int .i64 (runH ms N h).born) ∧ (((((w4.setCell ⟨w.heap.size + 1 + 1, 0, none⟩ (.slice aL (runH ms N h).calls.length kL)).setCell ⟨w.heap.size + 1 + 1, 1, none⟩ (.int .i64 (runH ms N h).now)).setCell ⟨w.heap.size + 1 + 1, 2, none⟩ (.int .i64 (runH ms N h).born)).setCell ⟨w.heap.size + 1 + 1, 3, none⟩ (.slice aS (runH ms N h).said.length kS)).setCell ⟨w.heap.size + 1 + 1, 4, none⟩ (.int .i64 (runH ms N h).code)).cell? ⟨br, 3, none⟩ = some (.slice aS (runH ms N h).said.length kS) ∧ (((((w4.setCell ⟨w.heap.size + 1 + 1, 0, none⟩ (.slice aL (runH ms N h).calls.length kL)).setCell ⟨w.heap.size + 1 + 1, 1, none⟩ (.int .i64 (runH ms N h).now)).setCell ⟨w.heap.size + 1 + 1, 2, none⟩ (.int .i64 (runH ms N h).born)).setCell ⟨w.heap.size + 1 + 1, 3, none⟩ (.slice aS (runH ms N h).said.length kS)).setCell ⟨w.heap.size + 1 + 1, 4, none⟩ (.int .i64 (runH ms N h).code)).cell? ⟨br, 4, none⟩ = some (.int .i64 (runH ms N h).code) := HSX _ (by rw [Below.heap_setCell _ _ _ _ hnl, Below.heap_setCell _ _ _ _ hnl, Below.heap_setCell _ _ _ _ hnl, Below.heap_setCell _ _ _ _ hnl, Below.heap_setCell _ _ _ _ hnl]; exact hB4.block _ hblL.2) (by rw [Below.heap_setCell _ _ _ _ hnr, Below.heap_setCell _ _ _ _ hnr, Below.heap_setCell _ _ _ _ hnr, Below.heap_setCell _ _ _ _ hnr, Below.heap_setCell _ _ _ _ hnr]; exact hB4.block _ hbrL.2)))
    all_goals
      generalize (((((w4.setCell ⟨w.heap.size + 1 + 1, 0, none⟩ (.slice aL (runH ms N h).calls.length kL)).setCell ⟨w.heap.size + 1 + 1, 1, none⟩ (.int .i64 (runH ms N h).now)).setCell ⟨w.heap.size + 1 + 1, 2, none⟩ (.int .i64 (runH ms N h).born)).setCell ⟨w.heap.size + 1 + 1, 3, none⟩ (.slice aS (runH ms N h).said.length kS)).setCell ⟨w.heap.size + 1 + 1, 4, none⟩ (.int .i64 (runH ms N h).code)) = WF at *
      obtain ⟨⟨q0, q1, q2, q3, q4⟩, _⟩ := five_cells rF
      go_wp2
      exact bodyPost_ret (v := .tuple #[.agg #[.slice aL (runH ms N h).calls.length kL, .int .i64 (runH ms N h).now, .int .i64 (runH ms N h).born, .slice aS (runH ms N h).said.length kS, .int .i64 (runH ms N h).code], .bool true]) (by simp [results, Tryz.results16, go_sem, q0, q1, q2, q3, q4]) rfl ⟨⟨.slice aL (runH ms N h).calls.length kL, .slice aS (runH ms N h).said.length kS, T', by rw [HRS.out, hE.out], by rw [HRS.out]; exact oF⟩, bF⟩
end Go.Proofs.YtlpbklgkafjfmaaGreatDoor
