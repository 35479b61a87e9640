/-
  The law FnHeapEnd, walked: whatever bytes come in, it answers true and writes to nothing that was there, where the table opForms lies as its text lays it.
-/
import Derived.Test.YtoaalcijdcmboacGreatDoorDrawHeapRun
import Derived.Test.YtoaalcijdcmboacGreatDoorSWalkR
import Derived.Test.YtoaalcijdcmboacGreatDoorLRun2
import Derived.Test.YtoaalcijdcmboacGreatDoorLmHeap
import Derived.Test.YtoaalcijdcmboacGreatDoorHImpl6
import Derived.Test.YtoaalcijdcmboacGreatDoorRunPlain2

namespace Go.Proofs.YtoaalcijdcmboacGreatDoor
open Go.RowKit
set_option maxRecDepth 100000 in
set_option maxHeartbeats 4000000 in
theorem lawHeapEnd_any (w : World) (a : Option Addr) (len cap : Nat) (h : BytesAt w a len cap) (hT : TabAt w) :
    Calls Tryz.prog 8 #[.slice a len cap] w fun e w' => e = .returned (.bool true) ∧ Below w.heap.size w w' := by
  have hc := h.1
  have hm := h.2.1
  unfold maxLen at hm
  have HB : Hid (BytesAt w a len cap) := h
  have HT : Hid (TabAt w) := hT
  clear h hT
  by_cases hl : 1048576 < len
  · have hlz : (1048576 : Int) < (len : Int) := by omega
    go_enter Tryz.func8, Tryz.ntmps8
    go_wp2
    go_ret
    exact ⟨rfl, Below.refl _ _⟩
  have hlz : (len : Int) ≤ 1048576 := by omega
  go_enter Tryz.func8, Tryz.ntmps8
  go_wp2_with fail
  refine (drawHeapRun_any _ a len cap HB.out).mono ?_
  rintro e w1 ⟨v, vc, vs, ms, H, n, rfl, hD, hnb, hB1⟩
  obtain ⟨hM1, hH1⟩ := hD.st.here
  have l30 := hD.fine.l30
  have sd100 := hD.fine.sd
  clear hD
  obtain ⟨aV, cV, hvV, _⟩ := id hM1
  obtain ⟨ac, kc, hvc⟩ := hH1.c.shape
  obtain ⟨aD, kD, hvs⟩ := hH1.s.shape
  subst hvV hvc hvs
  have z1 := hB1.size
  clear HB
  unfold hpCells
  go_upto_region 4 with fail
  have N2 : Below w1.heap.size w1 ((w1.alloc (.cells #[.slice aV ms.length cV] 25)).alloc (.cells #[.slice ac H.calls.length kc, .int .i64 H.now, .int .i64 H.born, .slice aD H.said.length kD, .int .i64 H.code] 29)) := ((Below.refl _ _).alloc (Nat.le_refl _) _).alloc (by simp) _
  have rp := (pbox_new w1 (.slice aV ms.length cV)).alloc (.cells #[.slice ac H.calls.length kc, .int .i64 H.now, .int .i64 H.born, .slice aD H.said.length kD, .int .i64 H.code] 29)
  have rh := five_new (w1.alloc (.cells #[.slice aV ms.length cV] 25)) 29 (.slice ac H.calls.length kc) (.int .i64 H.now) (.int .i64 H.born) (.slice aD H.said.length kD) (.int .i64 H.code)
  simp only [World.size_alloc] at rh
  generalize (w1.alloc (.cells #[.slice aV ms.length cV] 25)).alloc (.cells #[.slice ac H.calls.length kc, .int .i64 H.now, .int .i64 H.born, .slice aD H.said.length kD, .int .i64 H.code] 29) = W2 at *
  have hB2 := hB1.trans (N2.mono z1)
  have z2 := hB2.size
  have HMH : Hid (MethsAt W2 (.slice aV ms.length cV) ms ∧ HeapAt W2 (.slice ac H.calls.length kc) (.slice aD H.said.length kD) H ∧ TabAt W2) := ⟨hM1.below N2, hH1.below N2, HT.out.below hB2⟩
  clear hM1 hH1 hB1 N2 HT
  have HSP := specHeapRun_any (.slice aV ms.length cV) (.slice ac H.calls.length kc) (.slice aD H.said.length kD) ms H n W2 HMH.out.1 HMH.out.2.1 (by omega) (by omega)
  have HIM : Hid (∀ W, Below W2.heap.size W2 W → Calls Tryz.prog 21 #[.agg #[.slice aV ms.length cV], .agg #[.slice ac H.calls.length kc, .int .i64 H.now, .int .i64 H.born, .slice aD H.said.length kD, .int .i64 H.code], .int .i64 n] W fun e w' => (∃ vc' vs' V', e = .returned (.tuple #[.agg (hpCells vc' vs' (hRun ms H n)), .bool (heapOk ms H && inR n 0 400)]) ∧ OwnHeap W.heap.size w' vc' vs' (hRun ms H n) V') ∧ Below W.heap.size W w') := fun W hW => implHeapRun_any _ _ _ ms H n W (HMH.out.1.below hW) (HMH.out.2.2.below hW) (HMH.out.2.1.below hW) (by omega) (by omega)
  have HPL : Hid ((heapOk ms H && inR n 0 400) = true → ∃ N : Nat, n = (N : Int) ∧ N ≤ 400 ∧ Good ms H ∧ hRun ms H n = runH ms N H) := fun e => by
    obtain ⟨e1, e2⟩ := Bool.and_eq_true _ _ |>.mp e
    have e3 := inR_true.1 e2
    obtain ⟨N, hN⟩ := Int.eq_ofNat_of_zero_le e3.1
    refine ⟨N, hN, by omega, good_iff.1 e1, ?_⟩
    unfold hRun
    rw [if_pos e, hN, Int.toNat_natCast]
  generalize hRun ms H n = R at *
  generalize (heapOk ms H && inR n 0 400) = ok at *
  unfold hpCells at HSP
  obtain ⟨⟨d0, d1, d2, d3, d4⟩, _⟩ := five_cells rh
  have dp := rp.cell (i := 0) (by decide)
  go_wp2_with fail
  refine HSP.mono ?_
  rintro e w3 ⟨⟨vc3, vs3, V3, rfl, hO3⟩, hb3⟩
  obtain ⟨a3, k3, hv3⟩ := hO3.at.c.shape
  obtain ⟨b3, l3, hs3⟩ := hO3.at.s.shape
  subst hv3 hs3
  have z3 := hb3.size
  have rp3 := row_below hb3 rp
  have rh3 := row_below hb3 rh
  clear HSP d0 d1 d2 d3 d4 dp rp rh
  go_upto_region 5 with fail
  have N4 : Below w3.heap.size w3 (w3.alloc (.cells #[.slice a3 R.calls.length k3, .int .i64 R.now, .int .i64 R.born, .slice b3 R.said.length l3, .int .i64 R.code] 29)) := (Below.refl _ _).alloc (Nat.le_refl _) _
  have rw4 := five_new w3 29 (.slice a3 R.calls.length k3) (.int .i64 R.now) (.int .i64 R.born) (.slice b3 R.said.length l3) (.int .i64 R.code)
  have rp4 := row_below N4 rp3
  have rh4 := row_below N4 rh3
  have b4 := hb3.trans (N4.mono z3)
  have H3 : Hid (HeapAt (w3.alloc (.cells #[.slice a3 R.calls.length k3, .int .i64 R.now, .int .i64 R.born, .slice b3 R.said.length l3, .int .i64 R.code] 29)) (.slice a3 R.calls.length k3) (.slice b3 R.said.length l3) R) := hO3.at.below N4
  clear hO3 rp3 rh3 N4
  generalize w3.alloc (.cells #[.slice a3 R.calls.length k3, .int .i64 R.now, .int .i64 R.born, .slice b3 R.said.length l3, .int .i64 R.code] 29) = W4 at *
  generalize w3.heap.size = bw at *
  have z4 := b4.size
  obtain ⟨⟨d0, d1, d2, d3, d4⟩, _⟩ := five_cells rh4
  have dp := rp4.cell (i := 0) (by decide)
  have HI4 := HIM.out W4 b4
  unfold hpCells at HI4
  go_wp2_with fail
  refine HI4.mono ?_
  rintro e w5 ⟨⟨vc5, vs5, V5, rfl, hO5⟩, hb5⟩
  obtain ⟨a5, k5, hv5⟩ := hO5.at.c.shape
  obtain ⟨b5, l5, hs5⟩ := hO5.at.s.shape
  subst hv5 hs5
  have z5 := hb5.size
  have rp5 := row_below hb5 rp4
  have rh5 := row_below hb5 rh4
  have rw5 := row_below hb5 rw4
  clear HI4 d0 d1 d2 d3 d4 dp rp4 rh4 rw4
  go_upto_region 6 with fail
  have N6 : Below w5.heap.size w5 (w5.alloc (.cells #[.slice a5 R.calls.length k5, .int .i64 R.now, .int .i64 R.born, .slice b5 R.said.length l5, .int .i64 R.code] 29)) := (Below.refl _ _).alloc (Nat.le_refl _) _
  have rx6 := five_new w5 29 (.slice a5 R.calls.length k5) (.int .i64 R.now) (.int .i64 R.born) (.slice b5 R.said.length l5) (.int .i64 R.code)
  have rp6 := row_below N6 rp5
  have rh6 := row_below N6 rh5
  have rw6 := row_below N6 rw5
  have b6 : Below W2.heap.size W2 (w5.alloc (.cells #[.slice a5 R.calls.length k5, .int .i64 R.now, .int .i64 R.born, .slice b5 R.said.length l5, .int .i64 R.code] 29)) := (b4.trans (hb5.mono (by omega))).trans (N6.mono (by omega))
  have H5 : Hid (HeapAt (w5.alloc (.cells #[.slice a5 R.calls.length k5, .int .i64 R.now, .int .i64 R.born, .slice b5 R.said.length l5, .int .i64 R.code] 29)) (.slice a5 R.calls.length k5) (.slice b5 R.said.length l5) R ∧ HeapAt (w5.alloc (.cells #[.slice a5 R.calls.length k5, .int .i64 R.now, .int .i64 R.born, .slice b5 R.said.length l5, .int .i64 R.code] 29)) (.slice a3 R.calls.length k3) (.slice b3 R.said.length l3) R) := ⟨hO5.at.below N6, (H3.out.below hb5).below N6⟩
  clear hO5 rp5 rh5 rw5 N6 H3
  generalize w5.alloc (.cells #[.slice a5 R.calls.length k5, .int .i64 R.now, .int .i64 R.born, .slice b5 R.said.length l5, .int .i64 R.code] 29) = W6 at *
  generalize w5.heap.size = bx at *
  have hB6 := hB2.trans (b6.mono z2)
  have z6 := hB6.size
  obtain ⟨⟨x0, x1, x2, x3, x4⟩, _⟩ := five_cells rx6
  obtain ⟨⟨y0, y1, y2, y3, y4⟩, _⟩ := five_cells rw6
  obtain ⟨⟨d0, d1, d2, d3, d4⟩, _⟩ := five_cells rh6
  have dp := rp6.cell (i := 0) (by decide)
  have HLM : Hid (∀ W, Below W6.heap.size W6 W → Calls Tryz.prog 16 #[.agg #[.slice a5 R.calls.length k5, .int .i64 R.now, .int .i64 R.born, .slice b5 R.said.length l5, .int .i64 R.code], .agg #[.slice a3 R.calls.length k3, .int .i64 R.now, .int .i64 R.born, .slice b3 R.said.length l3, .int .i64 R.code]] W fun e w' => e = .returned (.bool true) ∧ Below W.heap.size W w') := fun W hW => lmHeap_same R _ _ _ _ W (H5.out.1.below hW) (H5.out.2.below hW)
  cases ok
  · go_wp2_with fail
    refine (HLM.out W6 (Below.refl _ _)).mono ?_
    rintro e w7 ⟨rfl, hb7⟩
    obtain ⟨⟨q0, q1, q2, q3, q4⟩, _⟩ := five_cells (row_below hb7 rx6)
    obtain ⟨⟨p0, p1, p2, p3, p4⟩, _⟩ := five_cells (row_below hb7 rw6)
    clear x0 x1 x2 x3 x4 y0 y1 y2 y3 y4 d0 d1 d2 d3 d4 dp
    go_wp2_with fail
    refine (HLM.out w7 hb7).mono ?_
    rintro e w8 ⟨rfl, hb8⟩
    have z7 := hb7.size
    go_wp2
    go_ret
    exact ⟨rfl, (hB6.trans (hb7.mono z6)).trans (hb8.mono (by omega))⟩
  obtain ⟨N, rfl, hN, hg, hR⟩ := HPL.out rfl
  have hMany := many_run ms N H
  have gR := Good.run N H hg
  rw [← hR] at hMany gR
  have HR : Hid (R = runH ms N H) := hR
  have HGS : Hid (ManyOp H R N ∧ Good ms R ∧ Good ms H) := ⟨hMany, gR, hg⟩
  clear hR hMany gR hg
  go_upto_region 8 with (go_at_call 16; refine (HLM.out W6 (Below.refl _ _)).mono ?_; rintro e w7 ⟨rfl, hb7⟩)
  have z7 := hb7.size
  have hB7 := hB6.trans (hb7.mono z6)
  have rx7 := row_below hb7 rx6
  have rh7 := row_below hb7 rh6
  have rp7 := row_below hb7 rp6
  have b7 := b6.trans (hb7.mono b6.size)
  clear x0 x1 x2 x3 x4 y0 y1 y2 y3 y4 d0 d1 d2 d3 d4 dp HLM rx6 rw6 rh6 rp6 hb5 hb3
  obtain ⟨⟨x0, x1, x2, x3, x4⟩, _⟩ := five_cells rx7
  obtain ⟨⟨d0, d1, d2, d3, d4⟩, _⟩ := five_cells rh7
  obtain ⟨hMany, gR, hg⟩ := HGS.out
  have dp := rp7.cell (i := 0) (by decide)
  have hlR := gR.lens
  have f2 := said_run ms N H
  rw [← HR.out] at f2
  have HI8 := implHeapRun_any _ _ _ ms R 50 w7 (HMH.out.1.below b7) (HMH.out.2.2.below b7) (H5.out.1.below hb7) (by omega) (by omega)
  have e50 : (heapOk ms R && inR 50 0 400) = true := by rw [good_iff.2 gR]; rfl
  have r50 : hRun ms R 50 = runH ms 50 R := by unfold hRun; rw [if_pos e50]; rfl
  rw [e50, r50] at HI8
  unfold hpCells at HI8
  have hfin := gR.head.fin
  have HY : Hid (R.code ≠ 0 → runH ms 50 R = R) := run_not ms 50 R
  have HX7 : Hid (HeapAt w7 (.slice a5 R.calls.length k5) (.slice b5 R.said.length l5) R) := H5.out.1.below hb7
  clear hMany gR hg e50 r50 f2 hlR
  generalize runH ms 50 R = Y at *
  go_wp2_with fail
  refine HI8.mono ?_
  rintro e w8 ⟨⟨vc8, vs8, V8, rfl, hO8⟩, hb8⟩
  obtain ⟨a8, k8, hv8⟩ := hO8.at.c.shape
  obtain ⟨b8, l8, hs8⟩ := hO8.at.s.shape
  subst hv8 hs8
  have z8 := hb8.size
  clear HI8 x0 x1 x2 x3 x4 d0 d1 d2 d3 d4 dp
  go_upto_region 9 with fail
  have N9 : Below w8.heap.size w8 (w8.alloc (.cells #[.slice a8 Y.calls.length k8, .int .i64 Y.now, .int .i64 Y.born, .slice b8 Y.said.length l8, .int .i64 Y.code] 29)) := (Below.refl _ _).alloc (Nat.le_refl _) _
  have ry9 := five_new w8 29 (.slice a8 Y.calls.length k8) (.int .i64 Y.now) (.int .i64 Y.born) (.slice b8 Y.said.length l8) (.int .i64 Y.code)
  have b79 := hb8.trans (N9.mono z8)
  have rx9 := row_below b79 rx7
  have HY9 : Hid (HeapAt (w8.alloc (.cells #[.slice a8 Y.calls.length k8, .int .i64 Y.now, .int .i64 Y.born, .slice b8 Y.said.length l8, .int .i64 Y.code] 29)) (.slice a8 Y.calls.length k8) (.slice b8 Y.said.length l8) Y) := hO8.at.below N9
  have HX9 : Hid (HeapAt (w8.alloc (.cells #[.slice a8 Y.calls.length k8, .int .i64 Y.now, .int .i64 Y.born, .slice b8 Y.said.length l8, .int .i64 Y.code] 29)) (.slice a5 R.calls.length k5) (.slice b5 R.said.length l5) R) := HX7.out.below b79
  clear hO8 N9 rx7 rh7 rp7
  generalize w8.alloc (.cells #[.slice a8 Y.calls.length k8, .int .i64 Y.now, .int .i64 Y.born, .slice b8 Y.said.length l8, .int .i64 Y.code] 29) = W9 at *
  generalize w8.heap.size = by8 at *
  obtain ⟨⟨x0, x1, x2, x3, x4⟩, _⟩ := five_cells rx9
  obtain ⟨⟨u0, u1, u2, u3, u4⟩, _⟩ := five_cells ry9
  have hB9 := hB7.trans (b79.mono hB7.size)
  have z9 := hB9.size
  obtain ⟨cE, hcE⟩ : ∃ cE, decide (R.now < 0) = cE := ⟨_, rfl⟩
  have hcE2 : (R.code == 1) = cE := by
    rw [← hcE]
    by_cases q : R.code = 1
    · rw [beq_iff_eq.2 q, decide_eq_true (hfin.1 q)]
    · rw [beq_eq_false_iff_ne.2 q, decide_eq_false (fun z => q (hfin.2 z))]
  by_cases c0 : R.code = 0
  · rw [c0] at x4 hcE2
    clear hfin HY c0
    have hcE3 : cE = false := by rw [← hcE2]; rfl
    subst hcE3
    clear hcE2
    go_wp2
    go_ret
    exact ⟨ret_bool (by first | rfl | simp), hB9⟩
  · have hYR := HY.out c0
    subst hYR
    have c0' : (Y.code == 0) = false := beq_eq_false_iff_ne.2 c0
    have HLM9 := lmHeap_same Y _ _ _ _ W9 HY9.out HX9.out
    unfold hpCells at HLM9
    clear hfin c0
    go_wp2_with fail
    refine HLM9.mono ?_
    rintro e w10 ⟨rfl, hb10⟩
    obtain ⟨⟨t0, t1, t2, t3, t4⟩, _⟩ := five_cells (row_below hb10 rx9)
    go_wp2
    go_ret
    exact ⟨ret_bool (by first | rfl | simp), hB9.trans (hb10.mono z9)⟩
end Go.Proofs.YtoaalcijdcmboacGreatDoor
