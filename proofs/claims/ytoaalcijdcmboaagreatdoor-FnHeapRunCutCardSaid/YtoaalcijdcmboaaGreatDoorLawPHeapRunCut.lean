/-
  The law FnHeapRunCut, walked: whatever bytes come in, it answers true and writes to nothing that was there, where the table opForms lies as its text lays it.
-/
import Derived.Test.YtoaalcijdcmboaaGreatDoorDrawHeapRun
import Derived.Test.YtoaalcijdcmboaaGreatDoorSWalkR
import Derived.Test.YtoaalcijdcmboaaGreatDoorLOut
import Derived.Test.YtoaalcijdcmboaaGreatDoorLmHeap
import Derived.Test.YtoaalcijdcmboaaGreatDoorStepU
import Derived.Test.YtoaalcijdcmboaaGreatDoorRunPlain2

namespace Go.Proofs.YtoaalcijdcmboaaGreatDoor
open Go.RowKit
set_option maxRecDepth 100000 in
set_option maxHeartbeats 4000000 in
theorem lawHeapRunCut_any (w : World) (a : Option Addr) (len cap : Nat) (a2 : Option Addr) (len2 cap2 : Nat) (h : BytesAt w a len cap) (hc2 : len2 ≤ 9223372036854775807) (hT : TabAt w) :
    Calls Tryz.prog 5 #[.slice a len cap, .slice a2 len2 cap2] w fun e w' => e = .returned (.bool true) ∧ Below w.heap.size w w' := by
  have hc := h.1
  have hm := h.2.1
  unfold maxLen at hm
  have HB : Hid (BytesAt w a len cap) := h
  have HT : Hid (TabAt w) := hT
  clear h hT
  by_cases hl : 1048576 < len
  · have hlz : (1048576 : Int) < (len : Int) := by omega
    go_enter Tryz.func5, Tryz.ntmps5
    go_wp2
    go_ret
    exact ⟨rfl, Below.refl _ _⟩
  have hlz : (len : Int) ≤ 1048576 := by omega
  by_cases hl2 : 1048576 < len2
  · have hlz2 : (1048576 : Int) < (len2 : Int) := by omega
    go_enter Tryz.func5, Tryz.ntmps5
    go_wp2
    go_ret
    exact ⟨rfl, Below.refl _ _⟩
  have hlz2 : (len2 : Int) ≤ 1048576 := by omega
  go_enter Tryz.func5, Tryz.ntmps5
  go_wp2_with fail
  refine (drawHeapRun_any _ a len cap HB.out).mono ?_
  rintro e w1 ⟨v, vc, vs, ms, H, n, rfl, hD, hnb, hB1⟩
  obtain ⟨hM1, hH1⟩ := hD.st.here
  have l30 := hD.fine.l30
  have sd100 := hD.fine.sd
  clear hD
  obtain ⟨aV, cV, hvV, _⟩ := id hM1
  obtain ⟨ac, kc, hvc⟩ := hH1.c.shape
  obtain ⟨aD, kD, hvs⟩ := hH1.s.shape
  subst hvV hvc hvs
  have z1 := hB1.size
  clear HB
  unfold hpCells
  go_upto_region 4 with fail
  have N2 : Below w1.heap.size w1 ((w1.alloc (.cells #[.slice aV ms.length cV] 25)).alloc (.cells #[.slice ac H.calls.length kc, .int .i64 H.now, .int .i64 H.born, .slice aD H.said.length kD, .int .i64 H.code] 31)) := ((Below.refl _ _).alloc (Nat.le_refl _) _).alloc (by simp) _
  have rp := (pbox_new w1 (.slice aV ms.length cV)).alloc (.cells #[.slice ac H.calls.length kc, .int .i64 H.now, .int .i64 H.born, .slice aD H.said.length kD, .int .i64 H.code] 31)
  have rh := five_new (w1.alloc (.cells #[.slice aV ms.length cV] 25)) 31 (.slice ac H.calls.length kc) (.int .i64 H.now) (.int .i64 H.born) (.slice aD H.said.length kD) (.int .i64 H.code)
  simp only [World.size_alloc] at rh
  generalize (w1.alloc (.cells #[.slice aV ms.length cV] 25)).alloc (.cells #[.slice ac H.calls.length kc, .int .i64 H.now, .int .i64 H.born, .slice aD H.said.length kD, .int .i64 H.code] 31) = W2 at *
  have hB2 := hB1.trans (N2.mono z1)
  have z2 := hB2.size
  have HMH : Hid (MethsAt W2 (.slice aV ms.length cV) ms ∧ HeapAt W2 (.slice ac H.calls.length kc) (.slice aD H.said.length kD) H ∧ TabAt W2) := ⟨hM1.below N2, hH1.below N2, HT.out.below hB2⟩
  clear hM1 hH1 hB1 N2 HT
  have HSP := specHeapRun_any (.slice aV ms.length cV) (.slice ac H.calls.length kc) (.slice aD H.said.length kD) ms H n W2 HMH.out.1 HMH.out.2.1 (by omega) (by omega)
  have HIM : Hid (∀ W, Below W2.heap.size W2 W → Calls Tryz.prog 19 #[.agg #[.slice aV ms.length cV], .agg #[.slice ac H.calls.length kc, .int .i64 H.now, .int .i64 H.born, .slice aD H.said.length kD, .int .i64 H.code], .int .i64 n] W fun e w' => (∃ vc' vs' V', e = .returned (.tuple #[.agg (hpCells vc' vs' (hRun ms H n)), .bool (heapOk ms H && inR n 0 400)]) ∧ OwnHeap W.heap.size w' vc' vs' (hRun ms H n) V') ∧ Below W.heap.size W w') := fun W hW => implHeapRun_any _ _ _ ms H n W (HMH.out.1.below hW) (HMH.out.2.2.below hW) (HMH.out.2.1.below hW) (by omega) (by omega)
  have HPL : Hid ((heapOk ms H && inR n 0 400) = true → ∃ N : Nat, n = (N : Int) ∧ N ≤ 400 ∧ Good ms H ∧ hRun ms H n = runH ms N H) := fun e => by
    obtain ⟨e1, e2⟩ := Bool.and_eq_true _ _ |>.mp e
    have e3 := inR_true.1 e2
    obtain ⟨N, hN⟩ := Int.eq_ofNat_of_zero_le e3.1
    refine ⟨N, hN, by omega, good_iff.1 e1, ?_⟩
    unfold hRun
    rw [if_pos e, hN, Int.toNat_natCast]
  generalize hRun ms H n = R at *
  generalize (heapOk ms H && inR n 0 400) = ok at *
  unfold hpCells at HSP
  obtain ⟨⟨d0, d1, d2, d3, d4⟩, _⟩ := five_cells rh
  have dp := rp.cell (i := 0) (by decide)
  go_wp2_with fail
  refine HSP.mono ?_
  rintro e w3 ⟨⟨vc3, vs3, V3, rfl, hO3⟩, hb3⟩
  obtain ⟨a3, k3, hv3⟩ := hO3.at.c.shape
  obtain ⟨b3, l3, hs3⟩ := hO3.at.s.shape
  subst hv3 hs3
  have z3 := hb3.size
  have rp3 := row_below hb3 rp
  have rh3 := row_below hb3 rh
  clear HSP d0 d1 d2 d3 d4 dp rp rh
  go_upto_region 5 with fail
  have N4 : Below w3.heap.size w3 (w3.alloc (.cells #[.slice a3 R.calls.length k3, .int .i64 R.now, .int .i64 R.born, .slice b3 R.said.length l3, .int .i64 R.code] 31)) := (Below.refl _ _).alloc (Nat.le_refl _) _
  have rw4 := five_new w3 31 (.slice a3 R.calls.length k3) (.int .i64 R.now) (.int .i64 R.born) (.slice b3 R.said.length l3) (.int .i64 R.code)
  have rp4 := row_below N4 rp3
  have rh4 := row_below N4 rh3
  have b4 := hb3.trans (N4.mono z3)
  have H3 : Hid (HeapAt (w3.alloc (.cells #[.slice a3 R.calls.length k3, .int .i64 R.now, .int .i64 R.born, .slice b3 R.said.length l3, .int .i64 R.code] 31)) (.slice a3 R.calls.length k3) (.slice b3 R.said.length l3) R) := hO3.at.below N4
  clear hO3 rp3 rh3 N4
  generalize w3.alloc (.cells #[.slice a3 R.calls.length k3, .int .i64 R.now, .int .i64 R.born, .slice b3 R.said.length l3, .int .i64 R.code] 31) = W4 at *
  generalize w3.heap.size = bw at *
  have z4 := b4.size
  obtain ⟨⟨d0, d1, d2, d3, d4⟩, _⟩ := five_cells rh4
  have dp := rp4.cell (i := 0) (by decide)
  have HI4 := HIM.out W4 b4
  unfold hpCells at HI4
  go_wp2_with fail
  refine HI4.mono ?_
  rintro e w5 ⟨⟨vc5, vs5, V5, rfl, hO5⟩, hb5⟩
  obtain ⟨a5, k5, hv5⟩ := hO5.at.c.shape
  obtain ⟨b5, l5, hs5⟩ := hO5.at.s.shape
  subst hv5 hs5
  have z5 := hb5.size
  have rp5 := row_below hb5 rp4
  have rh5 := row_below hb5 rh4
  have rw5 := row_below hb5 rw4
  clear HI4 d0 d1 d2 d3 d4 dp rp4 rh4 rw4
  go_upto_region 6 with fail
  have N6 : Below w5.heap.size w5 (w5.alloc (.cells #[.slice a5 R.calls.length k5, .int .i64 R.now, .int .i64 R.born, .slice b5 R.said.length l5, .int .i64 R.code] 31)) := (Below.refl _ _).alloc (Nat.le_refl _) _
  have rx6 := five_new w5 31 (.slice a5 R.calls.length k5) (.int .i64 R.now) (.int .i64 R.born) (.slice b5 R.said.length l5) (.int .i64 R.code)
  have rp6 := row_below N6 rp5
  have rh6 := row_below N6 rh5
  have rw6 := row_below N6 rw5
  have b6 : Below W2.heap.size W2 (w5.alloc (.cells #[.slice a5 R.calls.length k5, .int .i64 R.now, .int .i64 R.born, .slice b5 R.said.length l5, .int .i64 R.code] 31)) := (b4.trans (hb5.mono (by omega))).trans (N6.mono (by omega))
  have H5 : Hid (HeapAt (w5.alloc (.cells #[.slice a5 R.calls.length k5, .int .i64 R.now, .int .i64 R.born, .slice b5 R.said.length l5, .int .i64 R.code] 31)) (.slice a5 R.calls.length k5) (.slice b5 R.said.length l5) R ∧ HeapAt (w5.alloc (.cells #[.slice a5 R.calls.length k5, .int .i64 R.now, .int .i64 R.born, .slice b5 R.said.length l5, .int .i64 R.code] 31)) (.slice a3 R.calls.length k3) (.slice b3 R.said.length l3) R) := ⟨hO5.at.below N6, (H3.out.below hb5).below N6⟩
  clear hO5 rp5 rh5 rw5 N6 H3
  generalize w5.alloc (.cells #[.slice a5 R.calls.length k5, .int .i64 R.now, .int .i64 R.born, .slice b5 R.said.length l5, .int .i64 R.code] 31) = W6 at *
  generalize w5.heap.size = bx at *
  have hB6 := hB2.trans (b6.mono z2)
  have z6 := hB6.size
  obtain ⟨⟨x0, x1, x2, x3, x4⟩, _⟩ := five_cells rx6
  obtain ⟨⟨y0, y1, y2, y3, y4⟩, _⟩ := five_cells rw6
  obtain ⟨⟨d0, d1, d2, d3, d4⟩, _⟩ := five_cells rh6
  have dp := rp6.cell (i := 0) (by decide)
  have HLM : Hid (∀ W, Below W6.heap.size W6 W → Calls Tryz.prog 23 #[.agg #[.slice a5 R.calls.length k5, .int .i64 R.now, .int .i64 R.born, .slice b5 R.said.length l5, .int .i64 R.code], .agg #[.slice a3 R.calls.length k3, .int .i64 R.now, .int .i64 R.born, .slice b3 R.said.length l3, .int .i64 R.code]] W fun e w' => e = .returned (.bool true) ∧ Below W.heap.size W w') := fun W hW => lmHeap_same R _ _ _ _ W (H5.out.1.below hW) (H5.out.2.below hW)
  cases ok
  · go_wp2_with fail
    refine (HLM.out W6 (Below.refl _ _)).mono ?_
    rintro e w7 ⟨rfl, hb7⟩
    obtain ⟨⟨q0, q1, q2, q3, q4⟩, _⟩ := five_cells (row_below hb7 rx6)
    obtain ⟨⟨p0, p1, p2, p3, p4⟩, _⟩ := five_cells (row_below hb7 rw6)
    clear x0 x1 x2 x3 x4 y0 y1 y2 y3 y4 d0 d1 d2 d3 d4 dp
    go_wp2_with fail
    refine (HLM.out w7 hb7).mono ?_
    rintro e w8 ⟨rfl, hb8⟩
    have z7 := hb7.size
    go_wp2
    go_ret
    exact ⟨rfl, (hB6.trans (hb7.mono z6)).trans (hb8.mono (by omega))⟩
  obtain ⟨N, rfl, hN, hg, hR⟩ := HPL.out rfl
  have hMany := many_run ms N H
  have gR := Good.run N H hg
  rw [← hR] at hMany gR
  have HR : Hid (R = runH ms N H) := hR
  have HGS : Hid (ManyOp H R N ∧ Good ms R ∧ Good ms H) := ⟨hMany, gR, hg⟩
  clear hR hMany gR hg
  go_upto_region 8 with (go_at_call 23; refine (HLM.out W6 (Below.refl _ _)).mono ?_; rintro e w7 ⟨rfl, hb7⟩)
  have z7 := hb7.size
  have hB7 := hB6.trans (hb7.mono z6)
  have rx7 := row_below hb7 rx6
  have rh7 := row_below hb7 rh6
  have rp7 := row_below hb7 rp6
  have b7 := b6.trans (hb7.mono b6.size)
  clear x0 x1 x2 x3 x4 y0 y1 y2 y3 y4 d0 d1 d2 d3 d4 dp HLM rx6 rw6 rh6 rp6 hb5 hb3
  obtain ⟨⟨x0, x1, x2, x3, x4⟩, _⟩ := five_cells rx7
  obtain ⟨⟨d0, d1, d2, d3, d4⟩, _⟩ := five_cells rh7
  obtain ⟨hMany, gR, hg⟩ := HGS.out
  have dp := rp7.cell (i := 0) (by decide)
  obtain ⟨c, hcd⟩ : ∃ c : Nat, c = len2 % (N + 1) := ⟨_, rfl⟩
  have hcN : c ≤ N := by rw [hcd]; exact Nat.le_of_lt_succ (Nat.mod_lt len2 (Nat.succ_pos N))
  have hmod : Int.tmod (len2 : Int) ((N : Int) + 1) = (c : Int) := by
    rw [hcd]
    exact (Int.ofNat_tmod len2 (N + 1)).symm
  have hw1 : IntKind.i64.wrap ((N : Int) + 1) = (N : Int) + 1 := by rw [IntKind.wrap_i64]; omega
  have hw2 : IntKind.i64.wrap ((N : Int) - (c : Int)) = ((N - c : Nat) : Int) := by rw [IntKind.wrap_i64]; omega
  have hn0 : ((N : Int) + 1 == 0) = false := beq_eq_false_iff_ne.2 (by omega)
  have gY := Good.run c H hg
  have hlY := gY.lens
  have f2 := said_run ms c H
  have e1 : (heapOk ms H && inR (c : Int) 0 400) = true := by rw [good_iff.2 hg, inR_true.2 (by omega)]; rfl
  have r1 : hRun ms H (c : Int) = runH ms c H := by unfold hRun; rw [if_pos e1, Int.toNat_natCast]
  have HI8 := implHeapRun_any _ _ _ ms H (c : Int) w7 (HMH.out.1.below b7) (HMH.out.2.2.below b7) (HMH.out.2.1.below b7) (by omega) (by omega)
  rw [e1, r1] at HI8
  unfold hpCells at HI8
  have e2 : (heapOk ms (runH ms c H) && inR ((N - c : Nat) : Int) 0 400) = true := by rw [good_iff.2 gY, inR_true.2 (by omega)]; rfl
  have r2 : hRun ms (runH ms c H) ((N - c : Nat) : Int) = R := by
    unfold hRun
    rw [if_pos e2, Int.toNat_natCast, ← run_add, HR.out]
    congr 1
    omega
  have HYB : Hid ((runH ms c H).calls.length ≤ 30 ∧ (runH ms c H).said.length ≤ 500) := ⟨hlY.1, by omega⟩
  have HE2 : Hid ((heapOk ms (runH ms c H) && inR ((N - c : Nat) : Int) 0 400) = true ∧ hRun ms (runH ms c H) ((N - c : Nat) : Int) = R) := ⟨e2, r2⟩
  clear hMany gR hg gY hlY f2 e1 r1 e2 r2 hcd HR
  generalize runH ms c H = Y at *
  go_upto_region 9 with fail
  go_wp2_with fail
  refine HI8.mono ?_
  rintro e w8 ⟨⟨vc8, vs8, V8, rfl, hO8⟩, hb8⟩
  obtain ⟨a8, k8, hv8⟩ := hO8.at.c.shape
  obtain ⟨b8, l8, hs8⟩ := hO8.at.s.shape
  subst hv8 hs8
  have z8 := hb8.size
  clear HI8 x0 x1 x2 x3 x4 d0 d1 d2 d3 d4 dp
  go_upto_region 10 with fail
  have N9 : Below w8.heap.size w8 (w8.alloc (.cells #[.slice a8 Y.calls.length k8, .int .i64 Y.now, .int .i64 Y.born, .slice b8 Y.said.length l8, .int .i64 Y.code] 31)) := (Below.refl _ _).alloc (Nat.le_refl _) _
  have ry9 := five_new w8 31 (.slice a8 Y.calls.length k8) (.int .i64 Y.now) (.int .i64 Y.born) (.slice b8 Y.said.length l8) (.int .i64 Y.code)
  have b79 := hb8.trans (N9.mono z8)
  have rx9 := row_below b79 rx7
  have rp9 := row_below b79 rp7
  have b29 := b7.trans (b79.mono b7.size)
  have HY9 : Hid (HeapAt (w8.alloc (.cells #[.slice a8 Y.calls.length k8, .int .i64 Y.now, .int .i64 Y.born, .slice b8 Y.said.length l8, .int .i64 Y.code] 31)) (.slice a8 Y.calls.length k8) (.slice b8 Y.said.length l8) Y) := hO8.at.below N9
  have HX9 : Hid (HeapAt (w8.alloc (.cells #[.slice a8 Y.calls.length k8, .int .i64 Y.now, .int .i64 Y.born, .slice b8 Y.said.length l8, .int .i64 Y.code] 31)) (.slice a5 R.calls.length k5) (.slice b5 R.said.length l5) R) := (H5.out.1.below hb7).below b79
  clear hO8 N9 rx7 rh7 rp7
  generalize w8.alloc (.cells #[.slice a8 Y.calls.length k8, .int .i64 Y.now, .int .i64 Y.born, .slice b8 Y.said.length l8, .int .i64 Y.code] 31) = W9 at *
  generalize w8.heap.size = by8 at *
  have hB9 := hB7.trans (b79.mono hB7.size)
  have z9 := hB9.size
  obtain ⟨⟨u0, u1, u2, u3, u4⟩, _⟩ := five_cells ry9
  have dp9 := rp9.cell (i := 0) (by decide)
  have HI10 := implHeapRun_any _ _ _ ms Y ((N - c : Nat) : Int) W9 (HMH.out.1.below b29) (HMH.out.2.2.below b29) HY9.out (by have := HYB.out.1; omega) (by have := HYB.out.2; omega)
  rw [HE2.out.1, HE2.out.2] at HI10
  unfold hpCells at HI10
  go_wp2_with fail
  refine HI10.mono ?_
  rintro e w10 ⟨⟨vc10, vs10, V10, rfl, hO10⟩, hb10⟩
  obtain ⟨a10, k10, hv10⟩ := hO10.at.c.shape
  obtain ⟨b10, l10, hs10⟩ := hO10.at.s.shape
  subst hv10 hs10
  have z10 := hb10.size
  clear HI10 u0 u1 u2 u3 u4 dp9
  go_upto_region 11 with fail
  have N11 : Below w10.heap.size w10 (w10.alloc (.cells #[.slice a10 R.calls.length k10, .int .i64 R.now, .int .i64 R.born, .slice b10 R.said.length l10, .int .i64 R.code] 31)) := (Below.refl _ _).alloc (Nat.le_refl _) _
  have rz := five_new w10 31 (.slice a10 R.calls.length k10) (.int .i64 R.now) (.int .i64 R.born) (.slice b10 R.said.length l10) (.int .i64 R.code)
  have b911 := hb10.trans (N11.mono z10)
  have rx11 := row_below b911 rx9
  have HLMZ := lmHeap_same R _ _ _ _ (w10.alloc (.cells #[.slice a10 R.calls.length k10, .int .i64 R.now, .int .i64 R.born, .slice b10 R.said.length l10, .int .i64 R.code] 31)) (hO10.at.below N11) (HX9.out.below b911)
  unfold hpCells at HLMZ
  have hB11 := hB9.trans (b911.mono z9)
  clear hO10 N11
  generalize w10.alloc (.cells #[.slice a10 R.calls.length k10, .int .i64 R.now, .int .i64 R.born, .slice b10 R.said.length l10, .int .i64 R.code] 31) = W11 at *
  generalize w10.heap.size = bz at *
  obtain ⟨⟨x0, x1, x2, x3, x4⟩, _⟩ := five_cells rx11
  obtain ⟨⟨u0, u1, u2, u3, u4⟩, _⟩ := five_cells rz
  have z11 := hB11.size
  go_wp2_with fail
  refine HLMZ.mono ?_
  rintro e w12 ⟨rfl, hb12⟩
  go_wp2
  go_ret
  exact ⟨rfl, hB11.trans (hb12.mono z11)⟩
end Go.Proofs.YtoaalcijdcmboaaGreatDoor
