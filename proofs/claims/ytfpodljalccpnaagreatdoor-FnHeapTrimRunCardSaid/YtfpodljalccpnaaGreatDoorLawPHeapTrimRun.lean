/-
  The law FnHeapTrimRun, walked: whatever bytes come in, it answers true and writes to nothing that was there, where the table opForms lies as its text lays it.
-/
import Derived.Test.YtfpodljalccpnaaGreatDoorDrawHeapRun
import Derived.Test.YtfpodljalccpnaaGreatDoorSWalkR
import Derived.Test.YtfpodljalccpnaaGreatDoorLOut
import Derived.Test.YtfpodljalccpnaaGreatDoorLmHeap
import Derived.Test.YtfpodljalccpnaaGreatDoorTrimPlain
import Derived.Test.YtfpodljalccpnaaGreatDoorEmb
import Derived.Test.YtfpodljalccpnaaGreatDoorTrim3
import Derived.Test.YtfpodljalccpnaaGreatDoorLWalk14
import Derived.Deep.RegionHeld3

namespace Go.Proofs.YtfpodljalccpnaaGreatDoor
open Go.RowKit
set_option maxRecDepth 100000 in
set_option maxHeartbeats 4000000 in
theorem lawHeapTrimRun_any (w : World) (a : Option Addr) (len cap : Nat) (h : BytesAt w a len cap) (hT : TabAt w) :
    Calls Tryz.prog 7 #[.slice a len cap] w fun e w' => e = .returned (.bool true) ∧ Below w.heap.size w w' := by
  have hc := h.1
  have hm := h.2.1
  unfold maxLen at hm
  have HB : Hid (BytesAt w a len cap) := h
  have HT : Hid (TabAt w) := hT
  clear h hT
  by_cases hl : 1048576 < len
  · have hlz : (1048576 : Int) < (len : Int) := by omega
    go_enter Tryz.func7, Tryz.ntmps7
    go_wp2
    go_ret
    exact ⟨rfl, Below.refl _ _⟩
  have hlz : (len : Int) ≤ 1048576 := by omega
  go_enter Tryz.func7, Tryz.ntmps7
  go_wp2_with fail
  refine (drawHeapRun_any _ a len cap HB.out).mono ?_
  rintro e w1 ⟨v, vc, vs, ms, H, n, rfl, hD, hnb, hB1⟩
  obtain ⟨hM1, hH1⟩ := hD.st.here
  have l30 := hD.fine.l30
  have sd100 := hD.fine.sd
  have hsm : H.small := fine_small hD.fine
  clear hD
  obtain ⟨aV, cV, hvV, _⟩ := id hM1
  obtain ⟨ac, kc, hvc⟩ := hH1.c.shape
  obtain ⟨aD, kD, hvs⟩ := hH1.s.shape
  subst hvV hvc hvs
  have z1 := hB1.size
  clear HB
  unfold hpCells
  go_upto_region 4 with fail
  have N2 : Below w1.heap.size w1 ((w1.alloc (.cells #[.slice aV ms.length cV] 25)).alloc (.cells #[.slice ac H.calls.length kc, .int .i64 H.now, .int .i64 H.born, .slice aD H.said.length kD, .int .i64 H.code] 29)) := ((Below.refl _ _).alloc (Nat.le_refl _) _).alloc (by simp) _
  have rp := (pbox_new w1 (.slice aV ms.length cV)).alloc (.cells #[.slice ac H.calls.length kc, .int .i64 H.now, .int .i64 H.born, .slice aD H.said.length kD, .int .i64 H.code] 29)
  have rh := five_new (w1.alloc (.cells #[.slice aV ms.length cV] 25)) 29 (.slice ac H.calls.length kc) (.int .i64 H.now) (.int .i64 H.born) (.slice aD H.said.length kD) (.int .i64 H.code)
  simp only [World.size_alloc] at rh
  generalize (w1.alloc (.cells #[.slice aV ms.length cV] 25)).alloc (.cells #[.slice ac H.calls.length kc, .int .i64 H.now, .int .i64 H.born, .slice aD H.said.length kD, .int .i64 H.code] 29) = W2 at *
  have hB2 := hB1.trans (N2.mono z1)
  have z2 := hB2.size
  have HMH : Hid (MethsAt W2 (.slice aV ms.length cV) ms ∧ HeapAt W2 (.slice ac H.calls.length kc) (.slice aD H.said.length kD) H ∧ TabAt W2) := ⟨hM1.below N2, hH1.below N2, HT.out.below hB2⟩
  clear hM1 hH1 hB1 N2 HT
  have HSP := specHeapRun_any (.slice aV ms.length cV) (.slice ac H.calls.length kc) (.slice aD H.said.length kD) ms H n W2 HMH.out.1 HMH.out.2.1 (by omega) (by omega)
  have HIM : Hid (∀ W, Below W2.heap.size W2 W → Calls Tryz.prog 13 #[.agg #[.slice aV ms.length cV], .agg #[.slice ac H.calls.length kc, .int .i64 H.now, .int .i64 H.born, .slice aD H.said.length kD, .int .i64 H.code], .int .i64 n] W fun e w' => (∃ vc' vs' V', e = .returned (.tuple #[.agg (hpCells vc' vs' (hRun ms H n)), .bool (heapOk ms H && inR n 0 400)]) ∧ OwnHeap W.heap.size w' vc' vs' (hRun ms H n) V') ∧ Below W.heap.size W w') := fun W hW => implHeapRun_any _ _ _ ms H n W (HMH.out.1.below hW) (HMH.out.2.2.below hW) (HMH.out.2.1.below hW) (by omega) (by omega)
  have HPL : Hid ((heapOk ms H && inR n 0 400) = true → ∃ N : Nat, n = (N : Int) ∧ N ≤ 400 ∧ Good ms H ∧ hRun ms H n = runH ms N H) := fun e => by
    obtain ⟨e1, e2⟩ := Bool.and_eq_true _ _ |>.mp e
    have e3 := inR_true.1 e2
    obtain ⟨N, hN⟩ := Int.eq_ofNat_of_zero_le e3.1
    refine ⟨N, hN, by omega, good_iff.1 e1, ?_⟩
    unfold hRun
    rw [if_pos e, hN, Int.toNat_natCast]
  generalize hRun ms H n = R at *
  generalize (heapOk ms H && inR n 0 400) = ok at *
  unfold hpCells at HSP
  obtain ⟨⟨d0, d1, d2, d3, d4⟩, _⟩ := five_cells rh
  have dp := rp.cell (i := 0) (by decide)
  go_wp2_with fail
  refine HSP.mono ?_
  rintro e w3 ⟨⟨vc3, vs3, V3, rfl, hO3⟩, hb3⟩
  obtain ⟨a3, k3, hv3⟩ := hO3.at.c.shape
  obtain ⟨b3, l3, hs3⟩ := hO3.at.s.shape
  subst hv3 hs3
  have z3 := hb3.size
  have rp3 := row_below hb3 rp
  have rh3 := row_below hb3 rh
  clear HSP d0 d1 d2 d3 d4 dp rp rh
  go_upto_region 5 with fail
  have N4 : Below w3.heap.size w3 (w3.alloc (.cells #[.slice a3 R.calls.length k3, .int .i64 R.now, .int .i64 R.born, .slice b3 R.said.length l3, .int .i64 R.code] 29)) := (Below.refl _ _).alloc (Nat.le_refl _) _
  have rw4 := five_new w3 29 (.slice a3 R.calls.length k3) (.int .i64 R.now) (.int .i64 R.born) (.slice b3 R.said.length l3) (.int .i64 R.code)
  have rp4 := row_below N4 rp3
  have rh4 := row_below N4 rh3
  have b4 := hb3.trans (N4.mono z3)
  have H3 : Hid (HeapAt (w3.alloc (.cells #[.slice a3 R.calls.length k3, .int .i64 R.now, .int .i64 R.born, .slice b3 R.said.length l3, .int .i64 R.code] 29)) (.slice a3 R.calls.length k3) (.slice b3 R.said.length l3) R) := hO3.at.below N4
  clear hO3 rp3 rh3 N4
  generalize w3.alloc (.cells #[.slice a3 R.calls.length k3, .int .i64 R.now, .int .i64 R.born, .slice b3 R.said.length l3, .int .i64 R.code] 29) = W4 at *
  generalize w3.heap.size = bw at *
  have z4 := b4.size
  obtain ⟨⟨d0, d1, d2, d3, d4⟩, _⟩ := five_cells rh4
  have dp := rp4.cell (i := 0) (by decide)
  have HI4 := HIM.out W4 b4
  unfold hpCells at HI4
  go_wp2_with fail
  refine HI4.mono ?_
  rintro e w5 ⟨⟨vc5, vs5, V5, rfl, hO5⟩, hb5⟩
  obtain ⟨a5, k5, hv5⟩ := hO5.at.c.shape
  obtain ⟨b5, l5, hs5⟩ := hO5.at.s.shape
  subst hv5 hs5
  have z5 := hb5.size
  have rp5 := row_below hb5 rp4
  have rh5 := row_below hb5 rh4
  have rw5 := row_below hb5 rw4
  clear HI4 d0 d1 d2 d3 d4 dp rp4 rh4 rw4
  go_upto_region 6 with fail
  have N6 : Below w5.heap.size w5 (w5.alloc (.cells #[.slice a5 R.calls.length k5, .int .i64 R.now, .int .i64 R.born, .slice b5 R.said.length l5, .int .i64 R.code] 29)) := (Below.refl _ _).alloc (Nat.le_refl _) _
  have rx6 := five_new w5 29 (.slice a5 R.calls.length k5) (.int .i64 R.now) (.int .i64 R.born) (.slice b5 R.said.length l5) (.int .i64 R.code)
  have rp6 := row_below N6 rp5
  have rh6 := row_below N6 rh5
  have rw6 := row_below N6 rw5
  have b6 : Below W2.heap.size W2 (w5.alloc (.cells #[.slice a5 R.calls.length k5, .int .i64 R.now, .int .i64 R.born, .slice b5 R.said.length l5, .int .i64 R.code] 29)) := (b4.trans (hb5.mono (by omega))).trans (N6.mono (by omega))
  have H5 : Hid (HeapAt (w5.alloc (.cells #[.slice a5 R.calls.length k5, .int .i64 R.now, .int .i64 R.born, .slice b5 R.said.length l5, .int .i64 R.code] 29)) (.slice a5 R.calls.length k5) (.slice b5 R.said.length l5) R ∧ HeapAt (w5.alloc (.cells #[.slice a5 R.calls.length k5, .int .i64 R.now, .int .i64 R.born, .slice b5 R.said.length l5, .int .i64 R.code] 29)) (.slice a3 R.calls.length k3) (.slice b3 R.said.length l3) R) := ⟨hO5.at.below N6, (H3.out.below hb5).below N6⟩
  have HPS : Hid (PairRow W4.heap.size (w5.alloc (.cells #[.slice a5 R.calls.length k5, .int .i64 R.now, .int .i64 R.born, .slice b5 R.said.length l5, .int .i64 R.code] 29)) (.slice b5 R.said.length l5) R.said) := hO5.s.below N6
  clear hO5 rp5 rh5 rw5 N6 H3
  generalize w5.alloc (.cells #[.slice a5 R.calls.length k5, .int .i64 R.now, .int .i64 R.born, .slice b5 R.said.length l5, .int .i64 R.code] 29) = W6 at *
  generalize w5.heap.size = bx at *
  have hB6 := hB2.trans (b6.mono z2)
  have z6 := hB6.size
  obtain ⟨⟨x0, x1, x2, x3, x4⟩, _⟩ := five_cells rx6
  obtain ⟨⟨y0, y1, y2, y3, y4⟩, _⟩ := five_cells rw6
  obtain ⟨⟨d0, d1, d2, d3, d4⟩, _⟩ := five_cells rh6
  have dp := rp6.cell (i := 0) (by decide)
  have HLM : Hid (∀ W, Below W6.heap.size W6 W → Calls Tryz.prog 14 #[.agg #[.slice a5 R.calls.length k5, .int .i64 R.now, .int .i64 R.born, .slice b5 R.said.length l5, .int .i64 R.code], .agg #[.slice a3 R.calls.length k3, .int .i64 R.now, .int .i64 R.born, .slice b3 R.said.length l3, .int .i64 R.code]] W fun e w' => e = .returned (.bool true) ∧ Below W.heap.size W w') := fun W hW => lmHeap_same R _ _ _ _ W (H5.out.1.below hW) (H5.out.2.below hW)
  cases ok
  · go_wp2_with fail
    refine (HLM.out W6 (Below.refl _ _)).mono ?_
    rintro e w7 ⟨rfl, hb7⟩
    obtain ⟨⟨q0, q1, q2, q3, q4⟩, _⟩ := five_cells (row_below hb7 rx6)
    obtain ⟨⟨p0, p1, p2, p3, p4⟩, _⟩ := five_cells (row_below hb7 rw6)
    clear x0 x1 x2 x3 x4 y0 y1 y2 y3 y4 d0 d1 d2 d3 d4 dp
    go_wp2_with fail
    refine (HLM.out w7 hb7).mono ?_
    rintro e w8 ⟨rfl, hb8⟩
    have z7 := hb7.size
    go_wp2
    go_ret
    exact ⟨rfl, (hB6.trans (hb7.mono z6)).trans (hb8.mono (by omega))⟩
  obtain ⟨N, rfl, hN, hg, hR⟩ := HPL.out rfl
  have gR := Good.run N H hg
  rw [← hR] at gR
  obtain ⟨gT, _, _, _, hsT, _, h30T⟩ := trim_says hg sd100
  have gY := Good.run N _ gT
  obtain ⟨eV, eS, eC, eB⟩ := trim_run hg N
  rw [← hR] at eV eS eC eB
  have hTsd : (trimH ms H).said.length ≤ 100 := by rw [trim_eq hg]; exact sd100
  have HIT : Hid (∀ W, Below W6.heap.size W6 W → Calls Tryz.prog 30 #[.agg #[.slice aV ms.length cV], .agg #[.slice ac H.calls.length kc, .int .i64 H.now, .int .i64 H.born, .slice aD H.said.length kD, .int .i64 H.code]] W fun e w' => (∃ a1 k1 a2 k2, e = .returned (.tuple #[.agg #[.slice a1 (trimH ms H).calls.length k1, .int .i64 (trimH ms H).now, .int .i64 (trimH ms H).born, .slice a2 (trimH ms H).said.length k2, .int .i64 (trimH ms H).code], .bool true]) ∧ HeapAt w' (.slice a1 (trimH ms H).calls.length k1) (.slice a2 (trimH ms H).said.length k2) (trimH ms H)) ∧ Below W.heap.size W w') := fun W hW => by
    have q := implHeapTrim_any (.slice aV ms.length cV) (.slice ac H.calls.length kc) (.slice aD H.said.length kD) ms H W ((HMH.out.1.below b6).below hW) ((HMH.out.2.1.below b6).below hW) hsm
    rw [good_iff.2 hg] at q
    refine q.mono ?_
    rintro e w' ⟨hb, vc', vs', V', rfl, ho⟩
    obtain ⟨a1, k1, hv1⟩ := ho.at.c.shape
    obtain ⟨a2, k2, hv2⟩ := ho.at.s.shape
    subst hv1 hv2
    exact ⟨⟨a1, k1, a2, k2, rfl, ho.at⟩, hb⟩
  have HRY : hRun ms (trimH ms H) (N : Int) = runH ms N (trimH ms H) ∧ (heapOk ms (trimH ms H) && inR (N : Int) 0 400) = true := by
    have q : (heapOk ms (trimH ms H) && inR (N : Int) 0 400) = true := by rw [good_iff.2 gT, inR_true.2 ⟨by omega, by omega⟩]; rfl
    refine ⟨?_, q⟩
    unfold hRun
    rw [if_pos q, Int.toNat_natCast]
  have HIR : Hid (∀ W vc' vs', Below W6.heap.size W6 W → HeapAt W vc' vs' (trimH ms H) → Calls Tryz.prog 13 #[.agg #[.slice aV ms.length cV], .agg (hpCells vc' vs' (trimH ms H)), .int .i64 (N : Int)] W fun e w' => (∃ a1 k1 a2 k2, e = .returned (.tuple #[.agg #[.slice a1 (runH ms N (trimH ms H)).calls.length k1, .int .i64 (runH ms N (trimH ms H)).now, .int .i64 R.born, .slice a2 R.said.length k2, .int .i64 R.code], .bool true]) ∧ HeapAt w' (.slice a1 (runH ms N (trimH ms H)).calls.length k1) (.slice a2 R.said.length k2) (runH ms N (trimH ms H))) ∧ Below W.heap.size W w') := fun W vc' vs' hW hHA => by
    have q := implHeapRun_any (.slice aV ms.length cV) vc' vs' ms (trimH ms H) (N : Int) W ((HMH.out.1.below b6).below hW) ((HMH.out.2.2.below b6).below hW) hHA (by omega) (by omega)
    rw [HRY.1, HRY.2] at q
    refine q.mono ?_
    rintro e w' ⟨⟨vc2, vs2, V', rfl, ho⟩, hb⟩
    obtain ⟨a1, k1, hv1⟩ := ho.at.c.shape
    obtain ⟨a2, k2, hv2⟩ := ho.at.s.shape
    rw [eS] at hv2
    subst hv1 hv2
    refine ⟨⟨a1, k1, a2, k2, ?_, ho.at⟩, hb⟩
    unfold hpCells
    rw [eC, eB]
  have HYV : Hid (Good ms (runH ms N (trimH ms H)) ∧ viewL (runH ms N (trimH ms H)) = viewL R ∧ (runH ms N (trimH ms H)).said = R.said ∧ (runH ms N (trimH ms H)).code = R.code ∧ (runH ms N (trimH ms H)).born = R.born ∧ Good ms R) := ⟨gY, eV, eS, eC, eB, gR⟩
  clear hR gR gT gY eV eS eC eB HRY hg hsT h30T hTsd HPL
  generalize runH ms N (trimH ms H) = YH at *
  generalize trimH ms H = TH at *
  go_upto_region 8 with (go_at_call 14; refine (HLM.out W6 (Below.refl _ _)).mono ?_; rintro e w7 ⟨rfl, hb7⟩)
  have z7 := hb7.size
  have hB7 := hB6.trans (hb7.mono z6)
  have rp7 := row_below hb7 rp6
  have rx7 := row_below hb7 rx6
  have rh7 := row_below hb7 rh6
  have HX7 : Hid (HeapAt w7 (.slice a5 R.calls.length k5) (.slice b5 R.said.length l5) R) := H5.out.1.below hb7
  clear x0 x1 x2 x3 x4 y0 y1 y2 y3 y4 d0 d1 d2 d3 d4 dp HLM rx6 rw6 rh6 rp6 hb5 hb3 HIM H5
  obtain ⟨⟨d0, d1, d2, d3, d4⟩, _⟩ := five_cells rh7
  have dp := rp7.cell (i := 0) (by decide)
  have HT8 := HIT.out w7 hb7
  go_wp2_with fail
  refine HT8.mono ?_
  rintro e w8 ⟨⟨a9, k9, b9, l9, rfl, hO8⟩, hb8⟩
  have z8 := hb8.size
  have rp8 := row_below hb8 rp7
  have rx8 := row_below hb8 rx7
  clear HT8 HIT d0 d1 d2 d3 d4 dp rp7 rx7 rh7
  go_upto_region 9 with fail
  have N9 : Below w8.heap.size w8 (w8.alloc (.cells #[.slice a9 TH.calls.length k9, .int .i64 TH.now, .int .i64 TH.born, .slice b9 TH.said.length l9, .int .i64 TH.code] 29)) := (Below.refl _ _).alloc (Nat.le_refl _) _
  have rt9 := five_new w8 29 (.slice a9 TH.calls.length k9) (.int .i64 TH.now) (.int .i64 TH.born) (.slice b9 TH.said.length l9) (.int .i64 TH.code)
  have rp9 := row_below N9 rp8
  have rx9 := row_below N9 rx8
  have b9b : Below w7.heap.size w7 (w8.alloc (.cells #[.slice a9 TH.calls.length k9, .int .i64 TH.now, .int .i64 TH.born, .slice b9 TH.said.length l9, .int .i64 TH.code] 29)) := hb8.trans (N9.mono z8)
  have HT9 : Hid (HeapAt (w8.alloc (.cells #[.slice a9 TH.calls.length k9, .int .i64 TH.now, .int .i64 TH.born, .slice b9 TH.said.length l9, .int .i64 TH.code] 29)) (.slice a9 TH.calls.length k9) (.slice b9 TH.said.length l9) TH) := hO8.below N9
  clear hO8 rp8 rx8 N9
  generalize w8.alloc (.cells #[.slice a9 TH.calls.length k9, .int .i64 TH.now, .int .i64 TH.born, .slice b9 TH.said.length l9, .int .i64 TH.code] 29) = W9 at *
  generalize w8.heap.size = bt9 at *
  have z9 := b9b.size
  have hB9 := hB7.trans (b9b.mono hB7.size)
  have b69 := hb7.trans (b9b.mono z7)
  obtain ⟨⟨t0, t1, t2, t3, t4⟩, _⟩ := five_cells rt9
  have dp := rp9.cell (i := 0) (by decide)
  have HR9 := HIR.out W9 _ _ b69 HT9.out
  unfold hpCells at HR9
  go_wp2_with fail
  refine HR9.mono ?_
  rintro e w10 ⟨⟨a10, k10, b10, l10, rfl, hO10⟩, hb10⟩
  have z10 := hb10.size
  have rx10 := row_below hb10 rx9
  clear HR9 HIR t0 t1 t2 t3 t4 dp rp9 rx9 rt9
  go_upto_region 10 with fail
  have N11 : Below w10.heap.size w10 (w10.alloc (.cells #[.slice a10 YH.calls.length k10, .int .i64 YH.now, .int .i64 R.born, .slice b10 R.said.length l10, .int .i64 R.code] 29)) := (Below.refl _ _).alloc (Nat.le_refl _) _
  have ry11 := five_new w10 29 (.slice a10 YH.calls.length k10) (.int .i64 YH.now) (.int .i64 R.born) (.slice b10 R.said.length l10) (.int .i64 R.code)
  have rx11 := row_below N11 rx10
  have b11 : Below W9.heap.size W9 (w10.alloc (.cells #[.slice a10 YH.calls.length k10, .int .i64 YH.now, .int .i64 R.born, .slice b10 R.said.length l10, .int .i64 R.code] 29)) := hb10.trans (N11.mono z10)
  have HY11 : Hid (HeapAt (w10.alloc (.cells #[.slice a10 YH.calls.length k10, .int .i64 YH.now, .int .i64 R.born, .slice b10 R.said.length l10, .int .i64 R.code] 29)) (.slice a10 YH.calls.length k10) (.slice b10 R.said.length l10) YH) := hO10.below N11
  clear hO10 rx10 N11
  generalize w10.alloc (.cells #[.slice a10 YH.calls.length k10, .int .i64 YH.now, .int .i64 R.born, .slice b10 R.said.length l10, .int .i64 R.code] 29) = W11 at *
  generalize w10.heap.size = by10 at *
  have hB11 := hB9.trans (b11.mono hB9.size)
  have HX11 : Hid (HeapAt W11 (.slice a5 R.calls.length k5) (.slice b5 R.said.length l5) R) := (HX7.out.below b9b).below b11
  obtain ⟨⟨x0, x1, x2, x3, x4⟩, _⟩ := five_cells rx11
  obtain ⟨⟨y0, y1, y2, y3, y4⟩, _⟩ := five_cells ry11
  obtain ⟨VL, hVL⟩ : ∃ VL, viewL R = VL := ⟨_, rfl⟩
  rw [hVL] at HYV
  have HVL : Hid (viewL R = VL) := hVL
  clear hVL
  have HVY : Hid (∀ W, Below W11.heap.size W11 W → Calls Tryz.prog 20 #[.agg #[.slice a10 YH.calls.length k10, .int .i64 YH.now, .int .i64 R.born, .slice b10 R.said.length l10, .int .i64 R.code]] W fun e w' => (∃ a1 k1, e = .returned (.slice a1 VL.length k1) ∧ CallsAt w' (.slice a1 VL.length k1) VL) ∧ Below W.heap.size W w') := fun W hW => by
    obtain ⟨g1, g2, g3, g4, g5, _⟩ := HYV.out
    obtain ⟨s1, s2⟩ := good_short g1
    have q := implHeapView_any (.slice a10 YH.calls.length k10) (.slice b10 R.said.length l10) YH W (HY11.out.below hW) s1 s2
    unfold hpCells at q
    rw [g2, g4, g5] at q
    refine q.mono ?_
    rintro e w' ⟨⟨v', V', rfl, ho⟩, hb⟩
    obtain ⟨a1, k1, hv1⟩ := ho.at.shape
    subst hv1
    exact ⟨⟨a1, k1, rfl, ho.at⟩, hb⟩
  have HVX : Hid (∀ W, Below W11.heap.size W11 W → Calls Tryz.prog 20 #[.agg #[.slice a5 R.calls.length k5, .int .i64 R.now, .int .i64 R.born, .slice b5 R.said.length l5, .int .i64 R.code]] W fun e w' => (∃ a1 k1, e = .returned (.slice a1 VL.length k1) ∧ CallsAt w' (.slice a1 VL.length k1) VL) ∧ Below W.heap.size W w') := fun W hW => by
    obtain ⟨s1, s2⟩ := good_short HYV.out.2.2.2.2.2
    have q := implHeapView_any (.slice a5 R.calls.length k5) (.slice b5 R.said.length l5) R W (HX11.out.below hW) s1 s2
    rw [HVL.out] at q
    refine q.mono ?_
    rintro e w' ⟨⟨v', V', rfl, ho⟩, hb⟩
    obtain ⟨a1, k1, hv1⟩ := ho.at.shape
    subst hv1
    exact ⟨⟨a1, k1, rfl, ho.at⟩, hb⟩
  have HLV : Hid (∀ W, Below W11.heap.size W11 W → Calls Tryz.prog 32 #[.slice b10 R.said.length l10, .slice b5 R.said.length l5] W fun e w' => e = .returned (.bool true) ∧ Below W.heap.size W w') := fun W hW => by
    have q := HY11.out.s
    rw [HYV.out.2.2.1] at q
    exact lmVals_same _ _ R.said W (q.below hW) (HX11.out.s.below hW)
  have HKC : ∀ W, Below W11.heap.size W11 W → (W.cell? ⟨bx, 0, none⟩ = some (.slice a5 R.calls.length k5) ∧ W.cell? ⟨bx, 1, none⟩ = some (.int .i64 R.now) ∧ W.cell? ⟨bx, 2, none⟩ = some (.int .i64 R.born) ∧ W.cell? ⟨bx, 3, none⟩ = some (.slice b5 R.said.length l5) ∧ W.cell? ⟨bx, 4, none⟩ = some (.int .i64 R.code)) ∧ (W.cell? ⟨by10, 0, none⟩ = some (.slice a10 YH.calls.length k10) ∧ W.cell? ⟨by10, 1, none⟩ = some (.int .i64 YH.now) ∧ W.cell? ⟨by10, 2, none⟩ = some (.int .i64 R.born) ∧ W.cell? ⟨by10, 3, none⟩ = some (.slice b10 R.said.length l10) ∧ W.cell? ⟨by10, 4, none⟩ = some (.int .i64 R.code)) := fun W hW => ⟨⟨cell_below hW x0, cell_below hW x1, cell_below hW x2, cell_below hW x3, cell_below hW x4⟩, ⟨cell_below hW y0, cell_below hW y1, cell_below hW y2, cell_below hW y3, cell_below hW y4⟩⟩
  have b11d : Below W11.heap.size W11 W11.drew := (Below.refl _ _).drew
  clear HX7 HMH hb7 hb8 HYV HVL HX11 HY11 hb10
  go_wp2_with fail
  go_region_held3 (fun W => (W.cell? ⟨bx, 0, none⟩ = some (.slice a5 R.calls.length k5) ∧ W.cell? ⟨bx, 1, none⟩ = some (.int .i64 R.now) ∧ W.cell? ⟨bx, 2, none⟩ = some (.int .i64 R.born) ∧ W.cell? ⟨bx, 3, none⟩ = some (.slice b5 R.said.length l5) ∧ W.cell? ⟨bx, 4, none⟩ = some (.int .i64 R.code)) ∧ (W.cell? ⟨by10, 0, none⟩ = some (.slice a10 YH.calls.length k10) ∧ W.cell? ⟨by10, 1, none⟩ = some (.int .i64 YH.now) ∧ W.cell? ⟨by10, 2, none⟩ = some (.int .i64 R.born) ∧ W.cell? ⟨by10, 3, none⟩ = some (.slice b10 R.said.length l10) ∧ W.cell? ⟨by10, 4, none⟩ = some (.int .i64 R.code)))
    (first | with_reducible exact SD | with_reducible exact SC | with_reducible exact SB | with_reducible exact SA | go_keep)
    ((first
      | (have hh := hbC; clear hh; go_at_call 32; refine (HLV.out _ BC).mono ?_; rintro e wD ⟨rfl, hbD⟩; have BD := BC.trans (hbD.mono BC.size); have SD := HKC wD BD)
      | (have hh := hbB; clear hh; go_at_call 31; refine (lmCalls_same _ _ VL _ (HCA.out.below hbB) HCB.out).mono ?_; rintro e wC ⟨rfl, hbC⟩; have BC := BB.trans (hbC.mono BB.size); have SC := HKC wC BC)
      | (have hh := hbA; clear hh; go_at_call 20; refine (HVX.out _ BA).mono ?_; rintro e wB ⟨⟨aB, kB, rfl, hcB⟩, hbB⟩; have HCB : Hid (CallsAt wB (.slice aB VL.length kB) VL) := hcB; clear hcB; have BB := BA.trans (hbB.mono BA.size); have SB := HKC wB BB)
      | (go_at_call 20; refine (HVY.out _ b11d).mono ?_; rintro e wA ⟨⟨aA, kA, rfl, hcA⟩, hbA⟩; have HCA : Hid (CallsAt wA (.slice aA VL.length kA) VL) := hcA; clear hcA; have BA := b11d.trans (hbA.mono (Nat.le_refl _)); have SA := HKC wA BA)))
  have BZ : Below w.heap.size w wD := hB11.trans (BD.mono hB11.size)
  go_wp2
  go_ret
  exact ⟨ret_bool (by first | rfl | simp), BZ⟩
end Go.Proofs.YtfpodljalccpnaaGreatDoor
