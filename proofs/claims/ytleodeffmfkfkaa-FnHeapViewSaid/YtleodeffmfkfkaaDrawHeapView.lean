import Derived.Test.YtleodeffmfkfkaaDrawHeap
import Derived.Test.YtleodeffmfkfkaaOpenBytes

/-
  What draws: DrawHeapOk draws a program and a heap; DrawHeapView, DrawHeapDeep, DrawHeapTrim a heap.
-/
namespace Go.Proofs.Ytleodeffmfkfkaa
open Go.RowKit

/-- a program and a heap as they are drawn -/
structure DrawnHeap (B : Nat) (w : World) (v vc vs : Value) (ms : List (Int × Int × List (Int × Int))) (h : Hp) : Prop where
  st : Stays B w (fun x => MethsAt x v ms ∧ HeapAt x vc vs h)
  ok : progOk ms = true
  fine : HpFine h

/-- both answers are written into their boxes -/
theorem boxes_fin {w wx : World} {B : Nat} {P : World → Prop} (rp : wx.rowIs w.heap.size 25 1 (fun _ => .slice none 0 0)) (rh : wx.rowIs (w.heap.size + 1) 29 5 (five (.slice none 0 0) (.int .i64 0) (.int .i64 0) (.slice none 0 0) (.int .i64 0)))
    (st : Stays B wx P) (hB : w.heap.size + 1 < B) (hw : Below w.heap.size w wx) (vp vc vs : Value) (x1 x2 x4 : Int) :
    ∃ WF : World, WF = ((((((wx.setCell ⟨w.heap.size, 0, none⟩ vp).setCell ⟨w.heap.size + 1, 0, none⟩ vc).setCell ⟨w.heap.size + 1, 1, none⟩ (.int .i64 x1)).setCell ⟨w.heap.size + 1, 2, none⟩ (.int .i64 x2)).setCell ⟨w.heap.size + 1, 3, none⟩ vs).setCell ⟨w.heap.size + 1, 4, none⟩ (.int .i64 x4)) ∧
      WF.cell? ⟨w.heap.size, 0, none⟩ = some vp ∧ WF.rowIs (w.heap.size + 1) 29 5 (five vc (.int .i64 x1) (.int .i64 x2) vs (.int .i64 x4)) ∧ Stays w.heap.size WF P ∧ Below w.heap.size w WF := by
  have k1 := grown_set wx w.heap.size 0 vp
  have k2 := grown_trans (grown_trans (grown_trans (grown_trans (grown_set (wx.setCell ⟨w.heap.size, 0, none⟩ vp) (w.heap.size + 1) 0 vc) (grown_set _ (w.heap.size + 1) 1 (.int .i64 x1))) (grown_set _ (w.heap.size + 1) 2 (.int .i64 x2))) (grown_set _ (w.heap.size + 1) 3 vs)) (grown_set _ (w.heap.size + 1) 4 (.int .i64 x4))
  refine ⟨_, rfl, k2.cell (World.cell?_setCell_same wx ⟨w.heap.size, 0, none⟩ vp (rp.cell (i := 0) (by decide))) (by intro e; simp at e), five_set4 (five_set3 (five_set2 (five_set1 (five_set0 (row_kept rh k1 (by intro e; injection e with e; omega)) vc) (.int .i64 x1)) (.int .i64 x2)) vs) (.int .i64 x4), ((st.grown k1 (by omega)).grown k2 hB).mono (by omega), ?_⟩
  have hz := hw.size
  exact (hw.grown k1 (by omega) (fun q e => by cases e; omega)).grown k2 (by have := k1.size; omega) (fun q e => by cases e; omega)

set_option maxRecDepth 100000 in
set_option maxHeartbeats 4000000 in
theorem drawHeapOk_any (w : World) (a : Option Addr) (len cap : Nat) (h : BytesAt w a len cap) :
    Calls Try.prog 9 #[.slice a len cap] w fun e w' => ∃ (v vc vs : Value) (ms : List (Int × Int × List (Int × Int))) (H : Hp), e = .returned (.tuple #[.agg #[v], .agg (hpCells vc vs H)]) ∧ DrawnHeap w.heap.size w' v vc vs ms H ∧ Below w.heap.size w w' := by
  have hA : Below w.heap.size w ((w.alloc (.cells #[.slice none 0 0] 25)).alloc (.cells #[.slice none 0 0, .int .i64 0, .int .i64 0, .slice none 0 0, .int .i64 0] 29)) := ((Below.refl _ _).alloc (Nat.le_refl _) _).alloc (by simp) _
  have rA := (pbox_new w (.slice none 0 0)).alloc (.cells #[.slice none 0 0, .int .i64 0, .int .i64 0, .slice none 0 0, .int .i64 0] 29)
  have sA := five_new (w.alloc (.cells #[.slice none 0 0] 25)) 29 (.slice none 0 0) (.int .i64 0) (.int .i64 0) (.slice none 0 0) (.int .i64 0)
  have zA : ((w.alloc (.cells #[.slice none 0 0] 25)).alloc (.cells #[.slice none 0 0, .int .i64 0, .int .i64 0, .slice none 0 0, .int .i64 0] 29)).heap.size = w.heap.size + 2 := by simp
  simp only [World.size_alloc] at sA
  go_enter Try.func9, Try.ntmps9
  go_wp2_with fail
  generalize (w.alloc (.cells #[.slice none 0 0] 25)).alloc (.cells #[.slice none 0 0, .int .i64 0, .int .i64 0, .slice none 0 0, .int .i64 0] 29) = W1 at *
  refine (l6Open_any _ a len cap (h.below hA)).mono ?_
  rintro e w2 ⟨n, rfl, hr2, z2, hb2⟩
  have r2 := row_kept rA (below_grown hb2 none) (by simp)
  have s2 := row_kept sA (below_grown hb2 none) (by simp)
  have B2 : Below w.heap.size w w2 := hA.trans (hb2.mono (by omega))
  clear hA rA sA hb2
  rw [zA] at hr2 ⊢
  go_wp2_with fail
  refine (l71Heap_any _ _ _ _ _ _ hr2 (by omega)).mono ?_
  rintro e w3 ⟨v, vc, vs, ms, H, p3, rfl, st3, ok3, fi3, hq3, hq3', hr3, hg3⟩
  have r3 := row_kept r2 hg3 (by intro e; injection e with e; omega)
  have s3 := row_kept s2 hg3 (by intro e; injection e with e; omega)
  have B3 : Below w.heap.size w w3 := B2.grown hg3 (by omega) (fun k e => by cases e; omega)
  have z3 := hg3.size
  obtain ⟨hM, hH⟩ := st3.here
  obtain ⟨aV, cV, hvV, _⟩ := id hM
  obtain ⟨ac, kc, hvc⟩ := hH.c.shape
  obtain ⟨aD, kD, hvs⟩ := hH.s.shape
  subst hvV hvc hvs
  clear hM hH hr2 r2 s2 B2 hg3
  have HFI : Hid (HpFine H) := fi3
  have HST : Hid (Stays w2.heap.size w3 (fun x => MethsAt x (.slice aV (plainOf ms).length cV) (plainOf ms) ∧ HeapAt x (.slice ac H.calls.length kc) (.slice aD H.said.length kD) H)) := st3
  unfold hpCells
  have HOK : Hid (progOk (plainOf ms) = true) := ok3
  clear fi3 st3 ok3
  have z2' : w2.heap.size = w.heap.size + 3 := by omega
  generalize plainOf ms = MS at *
  go_upto_region 3 with fail
  have N4 : Below w3.heap.size w3 ((w3.alloc (.cells #[.slice aV MS.length cV] 25)).alloc (.cells #[.slice ac H.calls.length kc, .int .i64 H.now, .int .i64 H.born, .slice aD H.said.length kD, .int .i64 H.code] 29)) := ((Below.refl _ _).alloc (Nat.le_refl _) _).alloc (by simp) _
  have rb4 := (pbox_new w3 (.slice aV MS.length cV)).alloc (.cells #[.slice ac H.calls.length kc, .int .i64 H.now, .int .i64 H.born, .slice aD H.said.length kD, .int .i64 H.code] 29)
  have rh4 := five_new (w3.alloc (.cells #[.slice aV MS.length cV] 25)) 29 (.slice ac H.calls.length kc) (.int .i64 H.now) (.int .i64 H.born) (.slice aD H.said.length kD) (.int .i64 H.code)
  have hr4 := (hr3.alloc (.cells #[.slice aV MS.length cV] 25)).alloc (.cells #[.slice ac H.calls.length kc, .int .i64 H.now, .int .i64 H.born, .slice aD H.said.length kD, .int .i64 H.code] 29)
  simp only [World.size_alloc] at rh4
  generalize (w3.alloc (.cells #[.slice aV MS.length cV] 25)).alloc (.cells #[.slice ac H.calls.length kc, .int .i64 H.now, .int .i64 H.born, .slice aD H.said.length kD, .int .i64 H.code] 29) = W4 at *
  have st4 := HST.out.below N4
  have r4 := row_below N4 r3
  have s4 := row_below N4 s3
  have B4 := B3.trans (N4.mono (by omega))
  have z4 := N4.size
  clear HST r3 s3 B3 N4 hr3
  go_wp2_with fail
  refine (pick_any _ _ _ _ _ _ 4 hr4 (by omega) (by omega) (by omega)).mono ?_
  rintro e w5 ⟨x, rfl, hx0, hx1, hr5, hg5⟩
  have st5 := st4.grown hg5 (by omega)
  have r5 := row_kept r4 hg5 (by intro e; injection e with e; omega)
  have s5 := row_kept s4 hg5 (by intro e; injection e with e; omega)
  have rb5 := row_kept rb4 hg5 (by intro e; injection e with e; omega)
  have rh5 := row_kept rh4 hg5 (by intro e; injection e with e; omega)
  have B5 : Below w.heap.size w w5 := B4.grown hg5 (by omega) (fun k e => by cases e; omega)
  have z5 := hg5.size
  clear hr4 r4 s4 rb4 rh4 B4 hg5 st4
  have HST : Hid (Stays w2.heap.size w5 (fun x => MethsAt x (.slice aV MS.length cV) MS ∧ HeapAt x (.slice ac H.calls.length kc) (.slice aD H.said.length kD) H)) := st5
  clear st5
  by_cases hx : x = 0
  · subst hx
    have hr5d : Rd w5.drew (w.heap.size + 2) a n cap (p3 + 1) := Rd.heap hr5 rfl
    obtain ⟨⟨d0, d1, d2, d3, d4⟩, _⟩ := five_cells rh5
    have zh5 := rh5.lt
    have c5 := r5.cell (i := 0) (by decide)
    have f5 := r5.frozen 0
    obtain ⟨⟨y0, y1, y2, y3, y4⟩, yf0, yf1, yf2, yf3, yf4⟩ := five_cells s5
    go_wp2_with fail
    go_region_law (go_simp; go_at_call 30; refine (l71Prog_fit w5.drew _ _ _ _ _ hr5d (by omega)).mono ?_; rintro e w6 ⟨v, ms', p6, rfl, hP6, hm2, hm4, hmo, hq6, hq6', hr6, hg6, hok⟩; obtain ⟨ap, cp, hvp⟩ := hP6.shape; subst hvp; obtain ⟨⟨t0, t1, t2, t3, t4⟩, _⟩ := five_cells (row_kept (w := w5.drew) rh5 hg6 (by intro e; injection e with e; omega)); have r6 := row_kept (w := w5.drew) r5 hg6 (by intro e; injection e with e; omega); have s6 := row_kept (w := w5.drew) s5 hg6 (by intro e; injection e with e; omega); have c6 := r6.cell (i := 0) (by decide); have f6 := r6.frozen 0; obtain ⟨⟨y0, y1, y2, y3, y4⟩, yf0, yf1, yf2, yf3, yf4⟩ := five_cells s6)
    all_goals
      have hg6' : w5.grownBy w6 (some (w.heap.size + 2)) := ⟨hg6.os, hg6.tape, hg6.output, hg6.size, hg6.block⟩
      have z6 := hg6'.size
      have st6 : Stays w2.heap.size w6 (fun x => MethsAt x (.slice ap ms'.length cp) (plainOf ms') ∧ HeapAt x (.slice ac H.calls.length kc) (.slice aD H.said.length kD) H) := fun w'' e1 e2 => ⟨hP6.stay (C := w6.heap.size) (by unfold maxLen; omega) (fun m hm => by have := (hmo m hm).2; unfold maxLen; omega) (fun g e => (hP6.row.lt _ e).2) (fun m hm g e => ((hP6.ops m hm).lt _ e).2) (fun g x1 x2 => e2 g (by have x3 : w5.heap.size ≤ g := x1; omega) x2), ((HST.out.grown hg6' (by omega)) w'' e1 e2).2⟩
      have B6 : Below w.heap.size w w6 := B5.grown hg6' (by omega) (fun k e => by cases e; omega)
      obtain ⟨WF, hWF, f1, f2, f3, f4⟩ := boxes_fin r6 s6 st6 (by omega) B6 (.slice ap ms'.length cp) (.slice ac H.calls.length kc) (.slice aD H.said.length kD) H.now H.born H.code
      rw [← hWF]
      obtain ⟨⟨q0, q1, q2, q3, q4⟩, _⟩ := five_cells f2
      have HMS : Hid (progOk (plainOf ms') = true) := hok
      clear hWF d0 d1 d2 d3 d4 c5 f5 y0 y1 y2 y3 y4 yf0 yf1 yf2 yf3 yf4 t0 t1 t2 t3 t4 c6 f6 r6 s6 st6 B6 hP6 hmo hr6 hg6 hg6' hok
      go_wp2
      exact bodyPost_ret (v := .tuple #[.agg #[.slice ap ms'.length cp], .agg #[.slice ac H.calls.length kc, .int .i64 H.now, .int .i64 H.born, .slice aD H.said.length kD, .int .i64 H.code]]) (by simp [results, Try.results9, go_sem, f1, q0, q1, q2, q3, q4]) rfl ⟨_, _, _, plainOf ms', H, rfl, ⟨f3, HMS.out, HFI.out⟩, f4⟩
  · have hx' : (x == 0) = false := beq_eq_false_iff_ne.2 hx
    obtain ⟨WF, hWF, f1, f2, f3, f4⟩ := boxes_fin r5 s5 HST.out (by omega) B5 (.slice aV MS.length cV) (.slice ac H.calls.length kc) (.slice aD H.said.length kD) H.now H.born H.code
    have cb := rb5.cell (i := 0) (by decide)
    obtain ⟨⟨d0, d1, d2, d3, d4⟩, _⟩ := five_cells rh5
    have cp0 := r5.cell (i := 0) (by decide)
    have cpf := r5.frozen 0
    obtain ⟨⟨c0, c1, c2, c3, c4⟩, cf0, cf1, cf2, cf3, cf4⟩ := five_cells s5
    go_wp2_with fail
    go_region
    all_goals
      rw [← hWF]
      obtain ⟨⟨q0, q1, q2, q3, q4⟩, _⟩ := five_cells f2
      clear hWF cb d0 d1 d2 d3 d4 cp0 cpf c0 c1 c2 c3 c4 cf0 cf1 cf2 cf3 cf4
      go_wp2
      exact bodyPost_ret (v := .tuple #[.agg #[.slice aV MS.length cV], .agg #[.slice ac H.calls.length kc, .int .i64 H.now, .int .i64 H.born, .slice aD H.said.length kD, .int .i64 H.code]]) (by simp [results, Try.results9, go_sem, f1, q0, q1, q2, q3, q4]) rfl ⟨_, _, _, MS, H, rfl, ⟨f3, HOK.out, HFI.out⟩, f4.drew⟩

end Go.Proofs.Ytleodeffmfkfkaa

/-
  What draws: DrawHeapView and DrawHeapDeep draw a heap.
-/
namespace Go.Proofs.Ytleodeffmfkfkaa
open Go.RowKit

set_option maxRecDepth 100000 in
set_option maxHeartbeats 4000000 in
theorem drawHeapView_any (w : World) (a : Option Addr) (len cap : Nat) (h : BytesAt w a len cap) :
    Calls Try.prog 19 #[.slice a len cap] w fun e w' => ∃ (vc vs : Value) (H : Hp), e = .returned (.agg (hpCells vc vs H)) ∧ HeapAt w' vc vs H ∧ HpFine H ∧ Below w.heap.size w w' := by
  have hA : Below w.heap.size w (w.alloc (.cells #[.slice none 0 0, .int .i64 0, .int .i64 0, .slice none 0 0, .int .i64 0] 29)) := (Below.refl _ _).alloc (Nat.le_refl _) _
  have sA := five_new w 29 (.slice none 0 0) (.int .i64 0) (.int .i64 0) (.slice none 0 0) (.int .i64 0)
  have zA : (w.alloc (.cells #[.slice none 0 0, .int .i64 0, .int .i64 0, .slice none 0 0, .int .i64 0] 29)).heap.size = w.heap.size + 1 := by simp
  go_enter Try.func19, Try.ntmps19
  go_wp2_with fail
  generalize w.alloc (.cells #[.slice none 0 0, .int .i64 0, .int .i64 0, .slice none 0 0, .int .i64 0] 29) = W1 at *
  refine (l6Open_any _ a len cap (h.below hA)).mono ?_
  rintro e w2 ⟨n, rfl, hr2, z2, hb2⟩
  have s2 := row_kept sA (below_grown hb2 none) (by simp)
  have B2 : Below w.heap.size w w2 := hA.trans (hb2.mono (by omega))
  clear hA sA hb2
  rw [zA] at hr2 ⊢
  go_wp2_with fail
  refine (l71Heap_any _ _ _ _ _ _ hr2 (by omega)).mono ?_
  rintro e w3 ⟨v, vc, vs, ms, H, p3, rfl, st3, ok3, fi3, hq3, hq3', hr3, hg3⟩
  have s3 := row_kept s2 hg3 (by intro e; injection e with e; omega)
  have B3 : Below w.heap.size w w3 := B2.grown hg3 (by omega) (fun k e => by cases e; omega)
  have z3 := hg3.size
  obtain ⟨hM, hH⟩ := st3.here
  obtain ⟨aV, cV, hvV, _⟩ := id hM
  obtain ⟨ac, kc, hvc⟩ := hH.c.shape
  obtain ⟨aD, kD, hvs⟩ := hH.s.shape
  subst hvV hvc hvs
  clear hM hH hr2 s2 B2 hg3 ok3 hr3
  have HFI : Hid (HpFine H) := fi3
  have HST : Hid (Stays w2.heap.size w3 (fun x => MethsAt x (.slice aV (plainOf ms).length cV) (plainOf ms) ∧ HeapAt x (.slice ac H.calls.length kc) (.slice aD H.said.length kD) H)) := st3
  unfold hpCells
  clear fi3 st3
  generalize plainOf ms = MS at *
  go_upto_region 2 with fail
  have N4 : Below w3.heap.size w3 ((w3.alloc (.cells #[.slice aV MS.length cV] 25)).alloc (.cells #[.slice ac H.calls.length kc, .int .i64 H.now, .int .i64 H.born, .slice aD H.said.length kD, .int .i64 H.code] 29)) := ((Below.refl _ _).alloc (Nat.le_refl _) _).alloc (by simp) _
  have rh4 := five_new (w3.alloc (.cells #[.slice aV MS.length cV] 25)) 29 (.slice ac H.calls.length kc) (.int .i64 H.now) (.int .i64 H.born) (.slice aD H.said.length kD) (.int .i64 H.code)
  simp only [World.size_alloc] at rh4
  generalize (w3.alloc (.cells #[.slice aV MS.length cV] 25)).alloc (.cells #[.slice ac H.calls.length kc, .int .i64 H.now, .int .i64 H.born, .slice aD H.said.length kD, .int .i64 H.code] 29) = W4 at *
  have st4 := HST.out.below N4
  have s4 := row_below N4 s3
  have B4 := B3.trans (N4.mono (by omega))
  have z4 := N4.size
  clear HST s3 B3 N4
  obtain ⟨⟨d0, d1, d2, d3, d4⟩, _⟩ := five_cells rh4
  obtain ⟨⟨c0, c1, c2, c3, c4⟩, cf0, cf1, cf2, cf3, cf4⟩ := five_cells s4
  have R9 := five_set4 (five_set3 (five_set2 (five_set1 (five_set0 s4 (.slice ac H.calls.length kc)) (.int .i64 H.now)) (.int .i64 H.born)) (.slice aD H.said.length kD)) (.int .i64 H.code)
  have k9 := grown_trans (grown_trans (grown_trans (grown_trans (grown_set W4 w.heap.size 0 (.slice ac H.calls.length kc)) (grown_set _ w.heap.size 1 (.int .i64 H.now))) (grown_set _ w.heap.size 2 (.int .i64 H.born))) (grown_set _ w.heap.size 3 (.slice aD H.said.length kD))) (grown_set _ w.heap.size 4 (.int .i64 H.code))
  have H9 := (st4.grown k9 (by omega)).here.2
  have B9 : Below w.heap.size w _ := B4.grown k9 (by omega) (fun q e => by cases e; omega)
  clear st4 B4 k9
  go_wp2
  generalize ((((W4.setCell ⟨w.heap.size, 0, none⟩ (.slice ac H.calls.length kc)).setCell ⟨w.heap.size, 1, none⟩ (.int .i64 H.now)).setCell ⟨w.heap.size, 2, none⟩ (.int .i64 H.born)).setCell ⟨w.heap.size, 3, none⟩ (.slice aD H.said.length kD)).setCell ⟨w.heap.size, 4, none⟩ (.int .i64 H.code) = W9 at *
  obtain ⟨⟨q0, q1, q2, q3, q4⟩, _⟩ := five_cells R9
  exact bodyPost_ret (v := .agg #[.slice ac H.calls.length kc, .int .i64 H.now, .int .i64 H.born, .slice aD H.said.length kD, .int .i64 H.code]) (by simp [results, Try.results19, go_sem, q0, q1, q2, q3, q4]) rfl ⟨_, _, H, rfl, H9, HFI.out, B9⟩

set_option maxRecDepth 100000 in
set_option maxHeartbeats 4000000 in
theorem drawHeapDeep_any (w : World) (a : Option Addr) (len cap : Nat) (h : BytesAt w a len cap) :
    Calls Try.prog 21 #[.slice a len cap] w fun e w' => ∃ (vc vs : Value) (H : Hp), e = .returned (.agg (hpCells vc vs H)) ∧ HeapAt w' vc vs H ∧ HpFine H ∧ Below w.heap.size w w' := by
  have hA : Below w.heap.size w (w.alloc (.cells #[.slice none 0 0, .int .i64 0, .int .i64 0, .slice none 0 0, .int .i64 0] 29)) := (Below.refl _ _).alloc (Nat.le_refl _) _
  have sA := five_new w 29 (.slice none 0 0) (.int .i64 0) (.int .i64 0) (.slice none 0 0) (.int .i64 0)
  have zA : (w.alloc (.cells #[.slice none 0 0, .int .i64 0, .int .i64 0, .slice none 0 0, .int .i64 0] 29)).heap.size = w.heap.size + 1 := by simp
  go_enter Try.func21, Try.ntmps21
  go_wp2_with fail
  generalize w.alloc (.cells #[.slice none 0 0, .int .i64 0, .int .i64 0, .slice none 0 0, .int .i64 0] 29) = W1 at *
  refine (l6Open_any _ a len cap (h.below hA)).mono ?_
  rintro e w2 ⟨n, rfl, hr2, z2, hb2⟩
  have s2 := row_kept sA (below_grown hb2 none) (by simp)
  have B2 : Below w.heap.size w w2 := hA.trans (hb2.mono (by omega))
  clear hA sA hb2
  rw [zA] at hr2 ⊢
  go_wp2_with fail
  refine (l71Heap_any _ _ _ _ _ _ hr2 (by omega)).mono ?_
  rintro e w3 ⟨v, vc, vs, ms, H, p3, rfl, st3, ok3, fi3, hq3, hq3', hr3, hg3⟩
  have s3 := row_kept s2 hg3 (by intro e; injection e with e; omega)
  have B3 : Below w.heap.size w w3 := B2.grown hg3 (by omega) (fun k e => by cases e; omega)
  have z3 := hg3.size
  obtain ⟨hM, hH⟩ := st3.here
  obtain ⟨aV, cV, hvV, _⟩ := id hM
  obtain ⟨ac, kc, hvc⟩ := hH.c.shape
  obtain ⟨aD, kD, hvs⟩ := hH.s.shape
  subst hvV hvc hvs
  clear hM hH hr2 s2 B2 hg3 ok3 hr3
  have HFI : Hid (HpFine H) := fi3
  have HST : Hid (Stays w2.heap.size w3 (fun x => MethsAt x (.slice aV (plainOf ms).length cV) (plainOf ms) ∧ HeapAt x (.slice ac H.calls.length kc) (.slice aD H.said.length kD) H)) := st3
  unfold hpCells
  clear fi3 st3
  generalize plainOf ms = MS at *
  go_upto_region 2 with fail
  have N4 : Below w3.heap.size w3 ((w3.alloc (.cells #[.slice aV MS.length cV] 25)).alloc (.cells #[.slice ac H.calls.length kc, .int .i64 H.now, .int .i64 H.born, .slice aD H.said.length kD, .int .i64 H.code] 29)) := ((Below.refl _ _).alloc (Nat.le_refl _) _).alloc (by simp) _
  have rh4 := five_new (w3.alloc (.cells #[.slice aV MS.length cV] 25)) 29 (.slice ac H.calls.length kc) (.int .i64 H.now) (.int .i64 H.born) (.slice aD H.said.length kD) (.int .i64 H.code)
  simp only [World.size_alloc] at rh4
  generalize (w3.alloc (.cells #[.slice aV MS.length cV] 25)).alloc (.cells #[.slice ac H.calls.length kc, .int .i64 H.now, .int .i64 H.born, .slice aD H.said.length kD, .int .i64 H.code] 29) = W4 at *
  have st4 := HST.out.below N4
  have s4 := row_below N4 s3
  have B4 := B3.trans (N4.mono (by omega))
  have z4 := N4.size
  clear HST s3 B3 N4
  obtain ⟨⟨d0, d1, d2, d3, d4⟩, _⟩ := five_cells rh4
  obtain ⟨⟨c0, c1, c2, c3, c4⟩, cf0, cf1, cf2, cf3, cf4⟩ := five_cells s4
  have R9 := five_set4 (five_set3 (five_set2 (five_set1 (five_set0 s4 (.slice ac H.calls.length kc)) (.int .i64 H.now)) (.int .i64 H.born)) (.slice aD H.said.length kD)) (.int .i64 H.code)
  have k9 := grown_trans (grown_trans (grown_trans (grown_trans (grown_set W4 w.heap.size 0 (.slice ac H.calls.length kc)) (grown_set _ w.heap.size 1 (.int .i64 H.now))) (grown_set _ w.heap.size 2 (.int .i64 H.born))) (grown_set _ w.heap.size 3 (.slice aD H.said.length kD))) (grown_set _ w.heap.size 4 (.int .i64 H.code))
  have H9 := (st4.grown k9 (by omega)).here.2
  have B9 : Below w.heap.size w _ := B4.grown k9 (by omega) (fun q e => by cases e; omega)
  clear st4 B4 k9
  go_wp2
  generalize ((((W4.setCell ⟨w.heap.size, 0, none⟩ (.slice ac H.calls.length kc)).setCell ⟨w.heap.size, 1, none⟩ (.int .i64 H.now)).setCell ⟨w.heap.size, 2, none⟩ (.int .i64 H.born)).setCell ⟨w.heap.size, 3, none⟩ (.slice aD H.said.length kD)).setCell ⟨w.heap.size, 4, none⟩ (.int .i64 H.code) = W9 at *
  obtain ⟨⟨q0, q1, q2, q3, q4⟩, _⟩ := five_cells R9
  exact bodyPost_ret (v := .agg #[.slice ac H.calls.length kc, .int .i64 H.now, .int .i64 H.born, .slice aD H.said.length kD, .int .i64 H.code]) (by simp [results, Try.results21, go_sem, q0, q1, q2, q3, q4]) rfl ⟨_, _, H, rfl, H9, HFI.out, B9⟩

end Go.Proofs.Ytleodeffmfkfkaa
