/-
  HeapStep, the program and the model: HeapRun of one operation.
-/
import Derived.Test.YtnffknlgaiehdaaGreatDoorLOut
import Derived.Test.YtnffknlgaiehdaaGreatDoorSWalkR

namespace Go.Proofs.YtnffknlgaiehdaaGreatDoor
open Go.RowKit
theorem OwnHeap.lower {B B' : Nat} {w : World} {vc vs : Value} {h : Hp} {V : Nat → Value × Value} (k : OwnHeap B w vc vs h V) (hB : B' ≤ B) : OwnHeap B' w vc vs h V := ⟨k.c.lower hB, k.s.mono hB, k.apart⟩
set_option maxRecDepth 100000 in
set_option maxHeartbeats 4000000 in
theorem implHeapStep_x (vp vc vs : Value) (ms : Ms) (h : Hp) (w : World) (hp : MethsAt w vp ms) (hT : TabAt w) (hh : HeapAt w vc vs h) (hn : h.calls.length ≤ 1048576) (hsd : h.said.length ≤ 1048576) :
    Calls Tryz.prog 10 #[.agg #[vp], .agg (hpCells vc vs h)] w fun e w' => (∃ vc' vs' V', e = .returned (.tuple #[.agg (hpCells vc' vs' (hRun ms h 1)), .bool (heapOk ms h)]) ∧ OwnHeap w.heap.size w' vc' vs' (hRun ms h 1) V') ∧ Below w.heap.size w w' := by
  obtain ⟨ac, kc, hvc⟩ := hh.c.shape
  obtain ⟨aD, kD, hvs⟩ := hh.s.shape
  obtain ⟨ap, cp, hvp, hlp, _⟩ := id hp
  subst hvc hvs hvp
  have e1 : (heapOk ms h && inR 1 0 400) = heapOk ms h := by rw [show inR 1 0 400 = true from rfl, Bool.and_true]
  have HRUN : Hid (∀ W, Below w.heap.size w W → Calls Tryz.prog 17 #[.agg #[.slice ap ms.length cp], .agg (hpCells (.slice ac h.calls.length kc) (.slice aD h.said.length kD) h), .int .i64 1] W fun e w' => (∃ vc' vs' V', e = .returned (.tuple #[.agg (hpCells vc' vs' (hRun ms h 1)), .bool (heapOk ms h)]) ∧ OwnHeap W.heap.size w' vc' vs' (hRun ms h 1) V') ∧ Below W.heap.size W w') := fun W hW => by
    have := implHeapRun_any _ _ _ ms h 1 W (hp.below hW) (hT.below hW) (hh.below hW) (by omega) (by omega)
    rwa [e1] at this
  generalize hRun ms h 1 = R at *
  generalize heapOk ms h = ok at *
  clear hp hh hlp e1 hT
  unfold hpCells at HRUN ⊢
  have hA : Below w.heap.size w (((w.alloc (.cells #[.slice ap ms.length cp] 39)).alloc (.cells #[.slice ac h.calls.length kc, .int .i64 h.now, .int .i64 h.born, .slice aD h.said.length kD, .int .i64 h.code] 34)).alloc (.cells #[.slice none 0 0, .int .i64 0, .int .i64 0, .slice none 0 0, .int .i64 0] 34)) := (((Below.refl _ _).alloc (Nat.le_refl _) _).alloc (by simp) _).alloc (by simp; omega) _
  have bz := (five_new ((w.alloc (.cells #[.slice ap ms.length cp] 39)).alloc (.cells #[.slice ac h.calls.length kc, .int .i64 h.now, .int .i64 h.born, .slice aD h.said.length kD, .int .i64 h.code] 34)) 34 (.slice none 0 0) (.int .i64 0) (.int .i64 0) (.slice none 0 0) (.int .i64 0))
  simp only [World.size_alloc] at bz
  have HR1 := HRUN.out _ hA
  clear HRUN
  go_enter Tryz.func10, Tryz.ntmps10
  go_wp2_with fail
  generalize (((w.alloc (.cells #[.slice ap ms.length cp] 39)).alloc (.cells #[.slice ac h.calls.length kc, .int .i64 h.now, .int .i64 h.born, .slice aD h.said.length kD, .int .i64 h.code] 34)).alloc (.cells #[.slice none 0 0, .int .i64 0, .int .i64 0, .slice none 0 0, .int .i64 0] 34)) = W0 at *
  refine HR1.mono ?_
  rintro e w1 ⟨⟨vc1, vs1, V1, rfl, hO⟩, hb1⟩
  obtain ⟨a1, k1, hv1⟩ := hO.at.c.shape
  obtain ⟨b1, l1, hs1⟩ := hO.at.s.shape
  subst hv1 hs1
  have hz := bz.lt
  have zA := hA.size
  have hlow : w.heap.size + 1 + 1 < W0.heap.size := hz
  have bz1 := row_below hb1 bz
  have hB1 := hA.trans (hb1.mono zA)
  obtain ⟨⟨t0, t1, t2, t3, t4⟩, j0, j1, j2, j3, j4⟩ := five_cells bz1
  have hz2 : w.heap.size ≤ w.heap.size + 1 + 1 := by omega
  have RF := (five_set4 (five_set3 (five_set2 (five_set1 (five_set0 bz1 (.slice a1 R.calls.length k1)) (.int .i64 R.now)) (.int .i64 R.born)) (.slice b1 R.said.length l1)) (.int .i64 R.code))
  have BF := (((((hB1.setCell (p := ⟨w.heap.size + 1 + 1, 0, none⟩) hz2 (.slice a1 R.calls.length k1)).setCell (p := ⟨w.heap.size + 1 + 1, 1, none⟩) hz2 (.int .i64 R.now)).setCell (p := ⟨w.heap.size + 1 + 1, 2, none⟩) hz2 (.int .i64 R.born)).setCell (p := ⟨w.heap.size + 1 + 1, 3, none⟩) hz2 (.slice b1 R.said.length l1)).setCell (p := ⟨w.heap.size + 1 + 1, 4, none⟩) hz2 (.int .i64 R.code))
  have OF := ((((((hO.setLow (p := ⟨w.heap.size + 1 + 1, 0, none⟩) hlow (.slice a1 R.calls.length k1)).setLow (p := ⟨w.heap.size + 1 + 1, 1, none⟩) hlow (.int .i64 R.now)).setLow (p := ⟨w.heap.size + 1 + 1, 2, none⟩) hlow (.int .i64 R.born)).setLow (p := ⟨w.heap.size + 1 + 1, 3, none⟩) hlow (.slice b1 R.said.length l1)).setLow (p := ⟨w.heap.size + 1 + 1, 4, none⟩) hlow (.int .i64 R.code))).lower zA
  clear hO bz bz1 hB1 hA
  go_wp2
  generalize (((((w1.setCell ⟨w.heap.size + 1 + 1, 0, none⟩ (.slice a1 R.calls.length k1)).setCell ⟨w.heap.size + 1 + 1, 1, none⟩ (.int .i64 R.now)).setCell ⟨w.heap.size + 1 + 1, 2, none⟩ (.int .i64 R.born)).setCell ⟨w.heap.size + 1 + 1, 3, none⟩ (.slice b1 R.said.length l1)).setCell ⟨w.heap.size + 1 + 1, 4, none⟩ (.int .i64 R.code)) = WF at *
  obtain ⟨⟨q0, q1, q2, q3, q4⟩, _⟩ := five_cells RF
  exact bodyPost_ret (v := .tuple #[.agg #[.slice a1 R.calls.length k1, .int .i64 R.now, .int .i64 R.born, .slice b1 R.said.length l1, .int .i64 R.code], .bool ok]) (by simp [results, Tryz.results10, go_sem, q0, q1, q2, q3, q4]) rfl ⟨⟨_, _, V1, rfl, OF⟩, BF⟩
set_option maxRecDepth 100000 in
set_option maxHeartbeats 4000000 in
theorem specHeapStep_x (vp vc vs : Value) (ms : Ms) (h : Hp) (w : World) (hp : MethsAt w vp ms) (hh : HeapAt w vc vs h) (hn : h.calls.length ≤ 1048576) (hsd : h.said.length ≤ 1048576) :
    Calls Tryz.prog 7 #[.agg #[vp], .agg (hpCells vc vs h)] w fun e w' => (∃ vc' vs' V', e = .returned (.tuple #[.agg (hpCells vc' vs' (hRun ms h 1)), .bool (heapOk ms h)]) ∧ OwnHeap w.heap.size w' vc' vs' (hRun ms h 1) V') ∧ Below w.heap.size w w' := by
  obtain ⟨ac, kc, hvc⟩ := hh.c.shape
  obtain ⟨aD, kD, hvs⟩ := hh.s.shape
  obtain ⟨ap, cp, hvp, hlp, _⟩ := id hp
  subst hvc hvs hvp
  have e1 : (heapOk ms h && inR 1 0 400) = heapOk ms h := by rw [show inR 1 0 400 = true from rfl, Bool.and_true]
  have HRUN : Hid (∀ W, Below w.heap.size w W → Calls Tryz.prog 16 #[.agg #[.slice ap ms.length cp], .agg (hpCells (.slice ac h.calls.length kc) (.slice aD h.said.length kD) h), .int .i64 1] W fun e w' => (∃ vc' vs' V', e = .returned (.tuple #[.agg (hpCells vc' vs' (hRun ms h 1)), .bool (heapOk ms h)]) ∧ OwnHeap W.heap.size w' vc' vs' (hRun ms h 1) V') ∧ Below W.heap.size W w') := fun W hW => by
    have := specHeapRun_any _ _ _ ms h 1 W (hp.below hW) (hh.below hW) (by omega) (by omega)
    rwa [e1] at this
  generalize hRun ms h 1 = R at *
  generalize heapOk ms h = ok at *
  clear hp hh hlp e1
  unfold hpCells at HRUN ⊢
  have hA : Below w.heap.size w (((w.alloc (.cells #[.slice ap ms.length cp] 39)).alloc (.cells #[.slice ac h.calls.length kc, .int .i64 h.now, .int .i64 h.born, .slice aD h.said.length kD, .int .i64 h.code] 34)).alloc (.cells #[.slice none 0 0, .int .i64 0, .int .i64 0, .slice none 0 0, .int .i64 0] 34)) := (((Below.refl _ _).alloc (Nat.le_refl _) _).alloc (by simp) _).alloc (by simp; omega) _
  have bz := (five_new ((w.alloc (.cells #[.slice ap ms.length cp] 39)).alloc (.cells #[.slice ac h.calls.length kc, .int .i64 h.now, .int .i64 h.born, .slice aD h.said.length kD, .int .i64 h.code] 34)) 34 (.slice none 0 0) (.int .i64 0) (.int .i64 0) (.slice none 0 0) (.int .i64 0))
  simp only [World.size_alloc] at bz
  have HR1 := HRUN.out _ hA
  clear HRUN
  go_enter Tryz.func7, Tryz.ntmps7
  go_wp2_with fail
  generalize (((w.alloc (.cells #[.slice ap ms.length cp] 39)).alloc (.cells #[.slice ac h.calls.length kc, .int .i64 h.now, .int .i64 h.born, .slice aD h.said.length kD, .int .i64 h.code] 34)).alloc (.cells #[.slice none 0 0, .int .i64 0, .int .i64 0, .slice none 0 0, .int .i64 0] 34)) = W0 at *
  refine HR1.mono ?_
  rintro e w1 ⟨⟨vc1, vs1, V1, rfl, hO⟩, hb1⟩
  obtain ⟨a1, k1, hv1⟩ := hO.at.c.shape
  obtain ⟨b1, l1, hs1⟩ := hO.at.s.shape
  subst hv1 hs1
  have hz := bz.lt
  have zA := hA.size
  have hlow : w.heap.size + 1 + 1 < W0.heap.size := hz
  have bz1 := row_below hb1 bz
  have hB1 := hA.trans (hb1.mono zA)
  obtain ⟨⟨t0, t1, t2, t3, t4⟩, j0, j1, j2, j3, j4⟩ := five_cells bz1
  have hz2 : w.heap.size ≤ w.heap.size + 1 + 1 := by omega
  have RF := (five_set4 (five_set3 (five_set2 (five_set1 (five_set0 bz1 (.slice a1 R.calls.length k1)) (.int .i64 R.now)) (.int .i64 R.born)) (.slice b1 R.said.length l1)) (.int .i64 R.code))
  have BF := (((((hB1.setCell (p := ⟨w.heap.size + 1 + 1, 0, none⟩) hz2 (.slice a1 R.calls.length k1)).setCell (p := ⟨w.heap.size + 1 + 1, 1, none⟩) hz2 (.int .i64 R.now)).setCell (p := ⟨w.heap.size + 1 + 1, 2, none⟩) hz2 (.int .i64 R.born)).setCell (p := ⟨w.heap.size + 1 + 1, 3, none⟩) hz2 (.slice b1 R.said.length l1)).setCell (p := ⟨w.heap.size + 1 + 1, 4, none⟩) hz2 (.int .i64 R.code))
  have OF := ((((((hO.setLow (p := ⟨w.heap.size + 1 + 1, 0, none⟩) hlow (.slice a1 R.calls.length k1)).setLow (p := ⟨w.heap.size + 1 + 1, 1, none⟩) hlow (.int .i64 R.now)).setLow (p := ⟨w.heap.size + 1 + 1, 2, none⟩) hlow (.int .i64 R.born)).setLow (p := ⟨w.heap.size + 1 + 1, 3, none⟩) hlow (.slice b1 R.said.length l1)).setLow (p := ⟨w.heap.size + 1 + 1, 4, none⟩) hlow (.int .i64 R.code))).lower zA
  clear hO bz bz1 hB1 hA
  go_wp2
  generalize (((((w1.setCell ⟨w.heap.size + 1 + 1, 0, none⟩ (.slice a1 R.calls.length k1)).setCell ⟨w.heap.size + 1 + 1, 1, none⟩ (.int .i64 R.now)).setCell ⟨w.heap.size + 1 + 1, 2, none⟩ (.int .i64 R.born)).setCell ⟨w.heap.size + 1 + 1, 3, none⟩ (.slice b1 R.said.length l1)).setCell ⟨w.heap.size + 1 + 1, 4, none⟩ (.int .i64 R.code)) = WF at *
  obtain ⟨⟨q0, q1, q2, q3, q4⟩, _⟩ := five_cells RF
  exact bodyPost_ret (v := .tuple #[.agg #[.slice a1 R.calls.length k1, .int .i64 R.now, .int .i64 R.born, .slice b1 R.said.length l1, .int .i64 R.code], .bool ok]) (by simp [results, Tryz.results7, go_sem, q0, q1, q2, q3, q4]) rfl ⟨⟨_, _, V1, rfl, OF⟩, BF⟩
end Go.Proofs.YtnffknlgaiehdaaGreatDoor
