/-
  What draws: DrawHeapOk draws a program and a heap; DrawHeapView, DrawHeapDeep, DrawHeapTrim a heap.
-/
import Derived.Test.YtileneepajcbgaaDoorDrawHeap
import Derived.Test.YtileneepajcbgaaDoorDraw13

namespace Go.Proofs.YtileneepajcbgaaDoor
open Go.RowKit
structure DrawnHeap (B : Nat) (w : World) (v vc vs : Value) (ms : List (Int × Int × List (Int × Int))) (h : Hp) : Prop where
  st : Stays B w (fun x => MethsAt x v ms ∧ HeapAt x vc vs h)
  ok : progOk ms = true
  fine : HpFine h
theorem boxes_fin {w wx : World} {B : Nat} {P : World → Prop} (rp : wx.rowIs w.heap.size 29 1 (fun _ => .slice none 0 0)) (rh : wx.rowIs (w.heap.size + 1) 32 5 (five (.slice none 0 0) (.int .i64 0) (.int .i64 0) (.slice none 0 0) (.int .i64 0)))
    (st : Stays B wx P) (hB : w.heap.size + 1 < B) (hw : Below w.heap.size w wx) (vp vc vs : Value) (x1 x2 x4 : Int) :
    ∃ WF : World, WF = ((((((wx.setCell ⟨w.heap.size, 0, none⟩ vp).setCell ⟨w.heap.size + 1, 0, none⟩ vc).setCell ⟨w.heap.size + 1, 1, none⟩ (.int .i64 x1)).setCell ⟨w.heap.size + 1, 2, none⟩ (.int .i64 x2)).setCell ⟨w.heap.size + 1, 3, none⟩ vs).setCell ⟨w.heap.size + 1, 4, none⟩ (.int .i64 x4)) ∧
      WF.cell? ⟨w.heap.size, 0, none⟩ = some vp ∧ WF.rowIs (w.heap.size + 1) 32 5 (five vc (.int .i64 x1) (.int .i64 x2) vs (.int .i64 x4)) ∧ Stays w.heap.size WF P ∧ Below w.heap.size w WF := by
  have k1 := grown_set wx w.heap.size 0 vp
  have k2 := grown_trans (grown_trans (grown_trans (grown_trans (grown_set (wx.setCell ⟨w.heap.size, 0, none⟩ vp) (w.heap.size + 1) 0 vc) (grown_set _ (w.heap.size + 1) 1 (.int .i64 x1))) (grown_set _ (w.heap.size + 1) 2 (.int .i64 x2))) (grown_set _ (w.heap.size + 1) 3 vs)) (grown_set _ (w.heap.size + 1) 4 (.int .i64 x4))
  refine ⟨_, rfl, k2.cell (World.cell?_setCell_same wx ⟨w.heap.size, 0, none⟩ vp (rp.cell (i := 0) (by decide))) (by intro e; simp at e), five_set4 (five_set3 (five_set2 (five_set1 (five_set0 (row_kept rh k1 (by intro e; injection e with e; omega)) vc) (.int .i64 x1)) (.int .i64 x2)) vs) (.int .i64 x4), ((st.grown k1 (by omega)).grown k2 hB).mono (by omega), ?_⟩
  have hz := hw.size
  exact (hw.grown k1 (by omega) (fun q e => by cases e; omega)).grown k2 (by have := k1.size; omega) (fun q e => by cases e; omega)
end Go.Proofs.YtileneepajcbgaaDoor

/-
  What draws: DrawHeapStep draws a program and a heap.
-/
namespace Go.Proofs.YtileneepajcbgaaDoor
open Go.RowKit
set_option maxRecDepth 100000 in
set_option maxHeartbeats 4000000 in
theorem drawHeapStep_any (w : World) (a : Option Addr) (len cap : Nat) (h : BytesAt w a len cap) :
    Calls Tryd.prog 8 #[.slice a len cap] w fun e w' => ∃ (v vc vs : Value) (ms : List (Int × Int × List (Int × Int))) (H : Hp), e = .returned (.tuple #[.agg #[v], .agg (hpCells vc vs H)]) ∧ DrawnHeap w.heap.size w' v vc vs ms H ∧ Below w.heap.size w w' := by
  have hA : Below w.heap.size w ((w.alloc (.cells #[.slice none 0 0] 29)).alloc (.cells #[.slice none 0 0, .int .i64 0, .int .i64 0, .slice none 0 0, .int .i64 0] 32)) := ((Below.refl _ _).alloc (Nat.le_refl _) _).alloc (by simp) _
  have rA := (pbox_new w (.slice none 0 0)).alloc (.cells #[.slice none 0 0, .int .i64 0, .int .i64 0, .slice none 0 0, .int .i64 0] 32)
  have sA := five_new (w.alloc (.cells #[.slice none 0 0] 29)) 32 (.slice none 0 0) (.int .i64 0) (.int .i64 0) (.slice none 0 0) (.int .i64 0)
  have zA : ((w.alloc (.cells #[.slice none 0 0] 29)).alloc (.cells #[.slice none 0 0, .int .i64 0, .int .i64 0, .slice none 0 0, .int .i64 0] 32)).heap.size = w.heap.size + 2 := by simp
  simp only [World.size_alloc] at sA
  go_enter Tryd.func8, Tryd.ntmps8
  go_wp2_with fail
  generalize (w.alloc (.cells #[.slice none 0 0] 29)).alloc (.cells #[.slice none 0 0, .int .i64 0, .int .i64 0, .slice none 0 0, .int .i64 0] 32) = W1 at *
  refine (l6Open_any _ a len cap (h.below hA)).mono ?_
  rintro e w2 ⟨n, rfl, hr2, z2, hb2⟩
  have r2 := row_kept rA (below_grown hb2 none) (by simp)
  have s2 := row_kept sA (below_grown hb2 none) (by simp)
  have B2 : Below w.heap.size w w2 := hA.trans (hb2.mono (by omega))
  clear hA rA sA hb2
  rw [zA] at hr2 ⊢
  go_wp2_with fail
  refine (l71Heap_any _ _ _ _ _ _ hr2 (by omega)).mono ?_
  rintro e w3 ⟨v, vc, vs, ms, H, p3, rfl, st3, ok3, fi3, hq3, hq3', hr3, hg3⟩
  have r3 := row_kept r2 hg3 (by intro e; injection e with e; omega)
  have s3 := row_kept s2 hg3 (by intro e; injection e with e; omega)
  have B3 : Below w.heap.size w w3 := B2.grown hg3 (by omega) (fun k e => by cases e; omega)
  have z3 := hg3.size
  obtain ⟨hM, hH⟩ := st3.here
  obtain ⟨aV, cV, hvV, _⟩ := id hM
  obtain ⟨ac, kc, hvc⟩ := hH.c.shape
  obtain ⟨aD, kD, hvs⟩ := hH.s.shape
  subst hvV hvc hvs
  clear hM hH hr2 r2 s2 B2 hg3 hr3
  have HFI : Hid (HpFine H) := fi3
  have HST : Hid (Stays w2.heap.size w3 (fun x => MethsAt x (.slice aV (plainOf ms).length cV) (plainOf ms) ∧ HeapAt x (.slice ac H.calls.length kc) (.slice aD H.said.length kD) H)) := st3
  unfold hpCells
  have HOK : Hid (progOk (plainOf ms) = true) := ok3
  clear fi3 st3 ok3
  have z2' : w2.heap.size = w.heap.size + 3 := by omega
  generalize plainOf ms = MS at *
  obtain ⟨WF, hWF, f1, f2, f3, f4⟩ := boxes_fin r3 s3 HST.out (by omega) B3 (.slice aV MS.length cV) (.slice ac H.calls.length kc) (.slice aD H.said.length kD) H.now H.born H.code
  have cp0 := r3.cell (i := 0) (by decide)
  have cpf := r3.frozen 0
  obtain ⟨⟨c0, c1, c2, c3, c4⟩, cf0, cf1, cf2, cf3, cf4⟩ := five_cells s3
  go_wp2
  rw [← hWF]
  obtain ⟨⟨q0, q1, q2, q3, q4⟩, _⟩ := five_cells f2
  exact bodyPost_ret (v := .tuple #[.agg #[.slice aV MS.length cV], .agg #[.slice ac H.calls.length kc, .int .i64 H.now, .int .i64 H.born, .slice aD H.said.length kD, .int .i64 H.code]]) (by simp [results, Tryd.results8, go_sem, f1, q0, q1, q2, q3, q4]) rfl ⟨_, _, _, MS, H, rfl, ⟨f3, HOK.out, HFI.out⟩, f4⟩
end Go.Proofs.YtileneepajcbgaaDoor
