/-
  The model's HeapRun, walked.
-/
import Derived.Test.YtileneepajcbgaaDoorSWalkA
import Derived.Test.YtileneepajcbgaaDoorHHeapOk
import Derived.Test.YtileneepajcbgaaDoorStepT
import Derived.Test.YtileneepajcbgaaDoorVSpec

namespace Go.Proofs.YtileneepajcbgaaDoor
open Go.RowKit
set_option maxRecDepth 100000 in
set_option maxHeartbeats 8000000 in
theorem specHeapRun_any (vp vc vs : Value) (ms : Ms) (h : Hp) (n : Int) (w : World) (hp : MethsAt w vp ms) (hh : HeapAt w vc vs h) (hn : h.calls.length ≤ 1048576) (hsd : h.said.length ≤ 1048576) :
    Calls Tryd.prog 26 #[.agg #[vp], .agg (hpCells vc vs h), .int .i64 n] w fun e w' => (∃ vc' vs' V', e = .returned (.tuple #[.agg (hpCells vc' vs' (hRun ms h n)), .bool (heapOk ms h && inR n 0 400)]) ∧ OwnHeap w.heap.size w' vc' vs' (hRun ms h n) V') ∧ Below w.heap.size w w' := by
  obtain ⟨ac, kc, hvc⟩ := hh.c.shape
  obtain ⟨aD, kD, hvs⟩ := hh.s.shape
  obtain ⟨ap, cp, hvp, hlp, _⟩ := id hp
  subst hvc hvs hvp
  unfold hpCells
  have hA : Below w.heap.size w (((w.alloc (.cells #[.slice ap ms.length cp] 29)).alloc (.cells #[.slice ac h.calls.length kc, .int .i64 h.now, .int .i64 h.born, .slice aD h.said.length kD, .int .i64 h.code] 32)).alloc (.cells #[.slice none 0 0, .int .i64 0, .int .i64 0, .slice none 0 0, .int .i64 0] 32)) := (((Below.refl _ _).alloc (Nat.le_refl _) _).alloc (by simp) _).alloc (by simp; omega) _
  have bp : (((w.alloc (.cells #[.slice ap ms.length cp] 29)).alloc (.cells #[.slice ac h.calls.length kc, .int .i64 h.now, .int .i64 h.born, .slice aD h.said.length kD, .int .i64 h.code] 32)).alloc (.cells #[.slice none 0 0, .int .i64 0, .int .i64 0, .slice none 0 0, .int .i64 0] 32)).cell? ⟨w.heap.size, 0, none⟩ = some (.slice ap ms.length cp) := by simp [go_sem]
  have bh : (((w.alloc (.cells #[.slice ap ms.length cp] 29)).alloc (.cells #[.slice ac h.calls.length kc, .int .i64 h.now, .int .i64 h.born, .slice aD h.said.length kD, .int .i64 h.code] 32)).alloc (.cells #[.slice none 0 0, .int .i64 0, .int .i64 0, .slice none 0 0, .int .i64 0] 32)).rowIs (w.heap.size + 1) 32 5 (five (.slice ac h.calls.length kc) (.int .i64 h.now) (.int .i64 h.born) (.slice aD h.said.length kD) (.int .i64 h.code)) := by
    have := (five_new (w.alloc (.cells #[.slice ap ms.length cp] 29)) 32 (.slice ac h.calls.length kc) (.int .i64 h.now) (.int .i64 h.born) (.slice aD h.said.length kD) (.int .i64 h.code)).alloc (.cells #[.slice none 0 0, .int .i64 0, .int .i64 0, .slice none 0 0, .int .i64 0] 32)
    simpa only [World.size_alloc] using this
  have bz : (((w.alloc (.cells #[.slice ap ms.length cp] 29)).alloc (.cells #[.slice ac h.calls.length kc, .int .i64 h.now, .int .i64 h.born, .slice aD h.said.length kD, .int .i64 h.code] 32)).alloc (.cells #[.slice none 0 0, .int .i64 0, .int .i64 0, .slice none 0 0, .int .i64 0] 32)).rowIs (w.heap.size + 1 + 1) 32 5 (five (.slice none 0 0) (.int .i64 0) (.int .i64 0) (.slice none 0 0) (.int .i64 0)) := by
    have := five_new ((w.alloc (.cells #[.slice ap ms.length cp] 29)).alloc (.cells #[.slice ac h.calls.length kc, .int .i64 h.now, .int .i64 h.born, .slice aD h.said.length kD, .int .i64 h.code] 32)) 32 (.slice none 0 0) (.int .i64 0) (.int .i64 0) (.slice none 0 0) (.int .i64 0)
    simpa only [World.size_alloc] using this
  have hz0 : (((w.alloc (.cells #[.slice ap ms.length cp] 29)).alloc (.cells #[.slice ac h.calls.length kc, .int .i64 h.now, .int .i64 h.born, .slice aD h.said.length kD, .int .i64 h.code] 32)).alloc (.cells #[.slice none 0 0, .int .i64 0, .int .i64 0, .slice none 0 0, .int .i64 0] 32)).heap.size = w.heap.size + 3 := by simp
  go_enter Tryd.func26, Tryd.ntmps26
  go_upto_region 1 with fail
  generalize (((w.alloc (.cells #[.slice ap ms.length cp] 29)).alloc (.cells #[.slice ac h.calls.length kc, .int .i64 h.now, .int .i64 h.born, .slice aD h.said.length kD, .int .i64 h.code] 32)).alloc (.cells #[.slice none 0 0, .int .i64 0, .int .i64 0, .slice none 0 0, .int .i64 0] 32)) = W0 at *
  obtain ⟨⟨x0, x1, x2, x3, x4⟩, _⟩ := five_cells bh
  have zA := hA.size
  go_wp2_with fail
  refine (specHeapOk_any _ _ _ ms h _ (hp.below hA) (hh.below hA) hn).mono ?_
  rintro e w1 ⟨rfl, hb1⟩
  have hB1 : Below w.heap.size w w1 := hA.trans (hb1.mono zA)
  have bp1 := cell_below hb1 bp
  have bh1 := row_below hb1 bh
  have bz1 := row_below hb1 bz
  have z1 := hb1.size
  clear hA bp bh bz x0 x1 x2 x3 x4
  obtain ⟨⟨x0, x1, x2, x3, x4⟩, _⟩ := five_cells bh1
  obtain ⟨⟨t0, t1, t2, t3, t4⟩, j0, j1, j2, j3, j4⟩ := five_cells bz1
  have hz2 : w.heap.size ≤ w.heap.size + 1 + 1 := by omega
  have RF := (five_set4 (five_set3 (five_set2 (five_set1 (five_set0 bz1 (.slice none 0 0)) (.int .i64 0)) (.int .i64 0)) (.slice none 0 0)) (.int .i64 0))
  have BF := (((((hB1.setCell (p := ⟨w.heap.size + 1 + 1, 0, none⟩) hz2 (.slice none 0 0)).setCell (p := ⟨w.heap.size + 1 + 1, 1, none⟩) hz2 (.int .i64 0)).setCell (p := ⟨w.heap.size + 1 + 1, 2, none⟩) hz2 (.int .i64 0)).setCell (p := ⟨w.heap.size + 1 + 1, 3, none⟩) hz2 (.slice none 0 0)).setCell (p := ⟨w.heap.size + 1 + 1, 4, none⟩) hz2 (.int .i64 0))
  cases h1 : heapOk ms h
  · have hR : Hid (hRun ms h n = ⟨[], 0, 0, [], 0⟩) := by show _ = _; simp [hRun, h1]
    have hE : Hid ((heapOk ms h && inR n 0 400) = false) := by show _ = _; simp [h1]
    go_wp2
    generalize (((((w1.setCell ⟨w.heap.size + 1 + 1, 0, none⟩ (.slice none 0 0)).setCell ⟨w.heap.size + 1 + 1, 1, none⟩ (.int .i64 0)).setCell ⟨w.heap.size + 1 + 1, 2, none⟩ (.int .i64 0)).setCell ⟨w.heap.size + 1 + 1, 3, none⟩ (.slice none 0 0)).setCell ⟨w.heap.size + 1 + 1, 4, none⟩ (.int .i64 0)) = WF at *
    obtain ⟨⟨q0, q1, q2, q3, q4⟩, _⟩ := five_cells RF
    exact bodyPost_ret (v := .tuple #[.agg #[.slice none 0 0, .int .i64 0, .int .i64 0, .slice none 0 0, .int .i64 0], .bool false]) (by simp [results, Tryd.results26, go_sem, q0, q1, q2, q3, q4]) rfl ⟨⟨.slice none 0 0, .slice none 0 0, _, by rw [hR.out, hE.out], by rw [hR.out]; exact OwnHeap.none _ _⟩, BF⟩
  cases h2 : inR n 0 400
  · have hR : Hid (hRun ms h n = ⟨[], 0, 0, [], 0⟩) := by show _ = _; simp [hRun, h2]
    have hE : Hid ((heapOk ms h && inR n 0 400) = false) := by show _ = _; simp [h2]
    go_wp2_with (go_at_call 19; refine (l6In_any _ _ _ _).mono ?_; rintro e w' ⟨rfl, hw⟩; obtain rfl := hw.symm)
    generalize (((((w1.setCell ⟨w.heap.size + 1 + 1, 0, none⟩ (.slice none 0 0)).setCell ⟨w.heap.size + 1 + 1, 1, none⟩ (.int .i64 0)).setCell ⟨w.heap.size + 1 + 1, 2, none⟩ (.int .i64 0)).setCell ⟨w.heap.size + 1 + 1, 3, none⟩ (.slice none 0 0)).setCell ⟨w.heap.size + 1 + 1, 4, none⟩ (.int .i64 0)) = WF at *
    obtain ⟨⟨q0, q1, q2, q3, q4⟩, _⟩ := five_cells RF
    exact bodyPost_ret (v := .tuple #[.agg #[.slice none 0 0, .int .i64 0, .int .i64 0, .slice none 0 0, .int .i64 0], .bool false]) (by simp [results, Tryd.results26, go_sem, q0, q1, q2, q3, q4]) rfl ⟨⟨.slice none 0 0, .slice none 0 0, _, by rw [hR.out, hE.out], by rw [hR.out]; exact OwnHeap.none _ _⟩, BF⟩
  clear RF BF
  have hR : Hid (hRun ms h n = runH ms n.toNat h) := by show _ = _; simp [hRun, h1, h2]
  have hE : Hid ((heapOk ms h && inR n 0 400) = true) := by show _ = _; simp [h1, h2]
  have hg := good_iff.1 h1
  have hn' := inR_true.1 h2
  obtain ⟨N, rfl⟩ := Int.eq_ofNat_of_zero_le hn'.1
  have hN : N ≤ 400 := by omega
  have hl := hg.lens
  go_upto_region 2 with (go_at_call 19; refine (l6In_any _ _ _ _).mono ?_; rintro e w' ⟨rfl, hw⟩; obtain rfl := hw.symm)
  have hD : Below w1.heap.size w1 w1.drew := (Below.refl _ _).drew
  have hAn := l11Anew_any _ _ h w1.drew ((hh.below hB1).below hD) (by omega) (fun i hi => by have := hl.2 i hi; omega) (by omega)
  have hdz : w1.drew.heap.size = w1.heap.size := rfl
  rw [hdz] at hAn
  unfold hpCells at hAn
  have H2 : Hid (∀ w2 vc2 vs2 V2, OwnHeap w1.heap.size w2 vc2 vs2 h V2 → Below w1.heap.size w1.drew w2 →
      (w2.cell? ⟨w.heap.size, 0, none⟩ = some (.slice ap ms.length cp)) ∧ Hid (SM (fun _ => False) w1.heap.size (w2.alloc (.cells #[.slice ap ms.length cp, vc2, .int .i64 h.now, .int .i64 h.born, vs2, .int .i64 h.code] 80)) w2.heap.size (.slice ap ms.length cp) vc2 vs2 ms h V2 ∧ Below w1.heap.size w1 (w2.alloc (.cells #[.slice ap ms.length cp, vc2, .int .i64 h.now, .int .i64 h.born, vs2, .int .i64 h.code] 80)))) := by
    intro w2 vc2 vs2 V2 ho2 hb2
    have hb2' := hD.trans hb2
    have hal : Below w2.heap.size w2 (w2.alloc (.cells #[.slice ap ms.length cp, vc2, .int .i64 h.now, .int .i64 h.born, vs2, .int .i64 h.code] 80)) := (Below.refl _ _).alloc (Nat.le_refl _) _
    have hB3 := hb2'.trans (hal.mono hb2'.size)
    exact ⟨cell_below hb2' bp1, ⟨six_new _ _ _ _ _ _ _ _, hb2'.size, ho2.below hal, fun e => by have := (ho2.lt e).2; omega, fun q hq => hq.elim, w1, hp.below hB1, Nat.le_refl _, hB3⟩, hB3⟩
  clear hD hdz
  go_region_law (go_simp; go_at_call 35; refine hAn.mono ?_; rintro e w2 ⟨⟨vc2, vs2, V2, rfl, ho2⟩, hb2⟩; obtain ⟨a2, c2, hv2⟩ := ho2.at.c.shape; obtain ⟨a3, c3, hv3⟩ := ho2.at.s.shape; subst hv2 hv3; obtain ⟨bp2, HS⟩ := H2.out w2 _ _ V2 ho2 hb2; clear ho2 hb2)
  all_goals
    obtain ⟨k3, hb3⟩ := HS.out
    clear h1 h2 HS bp2 H2 hAn
    have hlt2 : w2.heap.size < (w2.alloc (.cells #[.slice ap ms.length cp, .slice a2 h.calls.length c2, .int .i64 h.now, .int .i64 h.born, .slice a3 h.said.length c3, .int .i64 h.code] 80)).heap.size := k3.box.lt
    generalize w2.alloc (.cells #[.slice ap ms.length cp, .slice a2 h.calls.length c2, .int .i64 h.now, .int .i64 h.born, .slice a3 h.said.length c3, .int .i64 h.code] 80) = W3 at *
    generalize w2.heap.size = bo at *
    go_wp2
    go_loopg [9] N (fun d i wr => ∃ (k : Nat) (vc' vs' : Value) (V' : Nat → Value × Value), k ≤ N ∧ d = N - k ∧ i = .int .i64 k ∧ SM (fun _ => False) w1.heap.size wr bo (.slice ap ms.length cp) vc' vs' ms (runH ms k h) V' ∧ Below w1.heap.size w1 wr)
    case atStart => exact ⟨0, _, _, _, Nat.zero_le _, rfl, rfl, k3, hb3⟩
    case round =>
      obtain ⟨k, vc', vs', V', hk, rfl, rfl, kk, hbr⟩ := hrel
      have hgk := Good.run k h hg
      have hsk := said_run ms k h
      have HSN : Hid ((runH ms k h).code = 0 → runH ms (k + 1) h = stepH ms (runH ms k h)) := run_snoc ms k h
      have HST : Hid ((runH ms k h).code ≠ 0 → runH ms N h = runH ms k h) := run_stay ms N k h hk
      have HKN : Hid (k = N → runH ms N h = runH ms k h) := fun e => by rw [e]
      generalize runH ms k h = H at *
      obtain ⟨a5, c5, hv5⟩ := kk.own.at.c.shape
      obtain ⟨a6, c6, hv6⟩ := kk.own.at.s.shape
      subst hv5 hv6
      obtain ⟨⟨y0, y1, y2, y3, y4, y5⟩, _⟩ := six_cells kk.box
      have hzr := hbr.size
      have HEND : Hid (runH ms N h = H → ∃ WF : World, WF = (((((wr.setCell ⟨w.heap.size + 1 + 1, 0, none⟩ (.slice a5 H.calls.length c5)).setCell ⟨w.heap.size + 1 + 1, 1, none⟩ (.int .i64 H.now)).setCell ⟨w.heap.size + 1 + 1, 2, none⟩ (.int .i64 H.born)).setCell ⟨w.heap.size + 1 + 1, 3, none⟩ (.slice a6 H.said.length c6)).setCell ⟨w.heap.size + 1 + 1, 4, none⟩ (.int .i64 H.code)) ∧ WF.rowIs (w.heap.size + 1 + 1) 32 5 (five (.slice a5 H.calls.length c5) (.int .i64 H.now) (.int .i64 H.born) (.slice a6 H.said.length c6) (.int .i64 H.code)) ∧ OwnHeap w.heap.size WF (.slice a5 H.calls.length c5) (.slice a6 H.said.length c6) H V' ∧ Below w.heap.size w WF) := by
        intro _
        have hne : ∀ g, HeapBlocks (.slice a5 H.calls.length c5) (.slice a6 H.said.length c6) H.calls.length V' g → g ≠ w.heap.size + 1 + 1 := fun g e => by have := (kk.own.lt e).1; omega
        have hBr := hB1.trans (hbr.mono hB1.size)
        refine ⟨_, rfl, (five_set4 (five_set3 (five_set2 (five_set1 (five_set0 (bz1.of_block (hbr.block _ bz1.lt)) (.slice a5 H.calls.length c5)) (.int .i64 H.now)) (.int .i64 H.born)) (.slice a6 H.said.length c6)) (.int .i64 H.code)), ?_, (((((hBr.setCell (p := ⟨w.heap.size + 1 + 1, 0, none⟩) hz2 (.slice a5 H.calls.length c5)).setCell (p := ⟨w.heap.size + 1 + 1, 1, none⟩) hz2 (.int .i64 H.now)).setCell (p := ⟨w.heap.size + 1 + 1, 2, none⟩) hz2 (.int .i64 H.born)).setCell (p := ⟨w.heap.size + 1 + 1, 3, none⟩) hz2 (.slice a6 H.said.length c6)).setCell (p := ⟨w.heap.size + 1 + 1, 4, none⟩) hz2 (.int .i64 H.code))⟩
        have OK := kk.own.kept (w' := (((((wr.setCell ⟨w.heap.size + 1 + 1, 0, none⟩ (.slice a5 H.calls.length c5)).setCell ⟨w.heap.size + 1 + 1, 1, none⟩ (.int .i64 H.now)).setCell ⟨w.heap.size + 1 + 1, 2, none⟩ (.int .i64 H.born)).setCell ⟨w.heap.size + 1 + 1, 3, none⟩ (.slice a6 H.said.length c6)).setCell ⟨w.heap.size + 1 + 1, 4, none⟩ (.int .i64 H.code))) (by simp [World.setCell]) (fun g e => by
          have hne' := hne g e
          rw [Below.heap_setCell _ _ _ _ hne', Below.heap_setCell _ _ _ _ hne', Below.heap_setCell _ _ _ _ hne', Below.heap_setCell _ _ _ _ hne', Below.heap_setCell _ _ _ _ hne'])
        exact ⟨OK.c.lower hB1.size, OK.s.mono hB1.size, OK.apart⟩
      by_cases hlt : k < N
      · have hkz : (k : Int) < (N : Int) := by omega
        by_cases hc : H.code = 0
        · have hst := step_any kk hzr hgk hc (by omega)
          rw [← HSN.out hc] at hst
          go_wp2_with (go_at_call 36; refine hst.mono ?_; rintro e w' ⟨rfl, ⟨vc3, vs3, V3, k4⟩, cm4⟩)
          go_roundg (N - (k + 1))
          case measure => omega
          case rel => exact ⟨k + 1, _, _, _, by omega, rfl, by go_num, k4, hbr.trans cm4.b⟩
        · have hcb : (H.code == 0) = false := by simp [hc]
          have HH := HST.out hc
          obtain ⟨WF, hWF, RF, OF, BF⟩ := HEND.out HH
          obtain ⟨⟨z0, z1', z2, z3, z4⟩, g0, g1, g2, g3, g4⟩ := five_cells (bz1.of_block (hbr.block _ bz1.lt))
          go_wp2
          rw [← hWF]
          obtain ⟨⟨q0, q1, q2, q3, q4⟩, _⟩ := five_cells RF
          exact bodyPost_ret (v := .tuple #[.agg #[.slice a5 H.calls.length c5, .int .i64 H.now, .int .i64 H.born, .slice a6 H.said.length c6, .int .i64 H.code], .bool true]) (by simp [results, Tryd.results26, go_sem, q0, q1, q2, q3, q4]) rfl (by first | exact ⟨⟨.slice a5 H.calls.length c5, .slice a6 H.said.length c6, V', by rw [hR.out, hE.out, Int.toNat_natCast, HH], by rw [hR.out, Int.toNat_natCast, HH]; exact OF⟩, BF⟩ | exact ⟨⟨.slice a5 H.calls.length c5, .slice a6 H.said.length c6, by rw [hR.out, hE.out, Int.toNat_natCast, HH], V', by rw [hR.out, Int.toNat_natCast, HH]; exact OF⟩, BF⟩)
      · have hkz : ¬ ((k : Int) < (N : Int)) := by omega
        have HH := HKN.out (by omega)
        obtain ⟨WF, hWF, RF, OF, BF⟩ := HEND.out HH
        obtain ⟨⟨z0, z1', z2, z3, z4⟩, g0, g1, g2, g3, g4⟩ := five_cells (bz1.of_block (hbr.block _ bz1.lt))
        go_wp2
        rw [← hWF]
        obtain ⟨⟨q0, q1, q2, q3, q4⟩, _⟩ := five_cells RF
        exact bodyPost_ret (v := .tuple #[.agg #[.slice a5 H.calls.length c5, .int .i64 H.now, .int .i64 H.born, .slice a6 H.said.length c6, .int .i64 H.code], .bool true]) (by simp [results, Tryd.results26, go_sem, q0, q1, q2, q3, q4]) rfl (by first | exact ⟨⟨.slice a5 H.calls.length c5, .slice a6 H.said.length c6, V', by rw [hR.out, hE.out, Int.toNat_natCast, HH], by rw [hR.out, Int.toNat_natCast, HH]; exact OF⟩, BF⟩ | exact ⟨⟨.slice a5 H.calls.length c5, .slice a6 H.said.length c6, by rw [hR.out, hE.out, Int.toNat_natCast, HH], V', by rw [hR.out, Int.toNat_natCast, HH]; exact OF⟩, BF⟩)
end Go.Proofs.YtileneepajcbgaaDoor
