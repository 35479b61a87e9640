/-
  The law FnHeapTrim, walked: whatever bytes come in, it answers true and writes to nothing that was there.
-/
import Derived.Test.YtfpodljalccpnaaDrawHeapOk
import Derived.Test.YtfpodljalccpnaaTrimX
import Derived.Test.YtfpodljalccpnaaTrim3
import Derived.Test.YtfpodljalccpnaaTrim
import Derived.Test.YtfpodljalccpnaaLmHeap
import Derived.Test.YtfpodljalccpnaaHChain
import Derived.Test.YtfpodljalccpnaaStepS
import Derived.Test.YtfpodljalccpnaaVImpl5
import Derived.Test.YtfpodljalccpnaaViewAgain
import Derived.Deep.RegionHeld3

namespace Go.Proofs.Ytfpodljalccpnaa
open Go.RowKit
set_option maxRecDepth 100000 in
set_option maxHeartbeats 4000000 in
theorem lawHeapTrim_any (w : World) (a : Option Addr) (len cap : Nat) (h : BytesAt w a len cap) :
    Calls Try.prog 3 #[.slice a len cap] w fun e w' => e = .returned (.bool true) ∧ Below w.heap.size w w' := by
  have hc := h.1
  have hm := h.2.1
  unfold maxLen at hm
  have HB : Hid (BytesAt w a len cap) := h
  clear h
  by_cases hl : 1048576 < len
  · have hlz : (1048576 : Int) < (len : Int) := by omega
    go_enter Try.func3, Try.ntmps3
    go_wp2
    go_ret
    exact ⟨rfl, Below.refl _ _⟩
  have hlz : (len : Int) ≤ 1048576 := by omega
  go_enter Try.func3, Try.ntmps3
  go_wp2_with fail
  refine (drawHeapTrim_any _ a len cap HB.out).mono ?_
  rintro e w1 ⟨v, vc, vs, ms, H, rfl, hD, hB1⟩
  obtain ⟨hM1, hH1⟩ := hD.st.here
  have l30 := hD.fine.l30
  have sd100 := hD.fine.sd
  have hsm : H.small := fine_small hD.fine
  have HSH : Hid H.short := fine_short hD.fine
  clear hD
  obtain ⟨aV, cV, hvV, _⟩ := id hM1
  obtain ⟨ac, kc, hvc⟩ := hH1.c.shape
  obtain ⟨aD, kD, hvs⟩ := hH1.s.shape
  subst hvV hvc hvs
  have z1 := hB1.size
  clear HB
  unfold hpCells
  go_upto_region 4 with fail
  have N2 : Below w1.heap.size w1 ((w1.alloc (.cells #[.slice aV ms.length cV] 25)).alloc (.cells #[.slice ac H.calls.length kc, .int .i64 H.now, .int .i64 H.born, .slice aD H.said.length kD, .int .i64 H.code] 29)) := ((Below.refl _ _).alloc (Nat.le_refl _) _).alloc (by simp) _
  have rp := (pbox_new w1 (.slice aV ms.length cV)).alloc (.cells #[.slice ac H.calls.length kc, .int .i64 H.now, .int .i64 H.born, .slice aD H.said.length kD, .int .i64 H.code] 29)
  have rh := five_new (w1.alloc (.cells #[.slice aV ms.length cV] 25)) 29 (.slice ac H.calls.length kc) (.int .i64 H.now) (.int .i64 H.born) (.slice aD H.said.length kD) (.int .i64 H.code)
  simp only [World.size_alloc] at rh
  generalize (w1.alloc (.cells #[.slice aV ms.length cV] 25)).alloc (.cells #[.slice ac H.calls.length kc, .int .i64 H.now, .int .i64 H.born, .slice aD H.said.length kD, .int .i64 H.code] 29) = W2 at *
  have hB2 := hB1.trans (N2.mono z1)
  have z2 := hB2.size
  have HMH : Hid (MethsAt W2 (.slice aV ms.length cV) ms ∧ HeapAt W2 (.slice ac H.calls.length kc) (.slice aD H.said.length kD) H) := ⟨hM1.below N2, hH1.below N2⟩
  clear hM1 hH1 hB1 N2
  have HSP : Calls Try.prog 5 #[.agg #[.slice aV ms.length cV], .agg #[.slice ac H.calls.length kc, .int .i64 H.now, .int .i64 H.born, .slice aD H.said.length kD, .int .i64 H.code]] W2 fun e w' => (∃ a1 k1 a2 k2, e = .returned (.tuple #[.agg #[.slice a1 (trimH ms H).calls.length k1, .int .i64 (trimH ms H).now, .int .i64 (trimH ms H).born, .slice a2 (trimH ms H).said.length k2, .int .i64 (trimH ms H).code], .bool (heapOk ms H)]) ∧ HeapAt w' (.slice a1 (trimH ms H).calls.length k1) (.slice a2 (trimH ms H).said.length k2) (trimH ms H)) ∧ Below W2.heap.size W2 w' := by
    refine (specHeapTrim_x (.slice aV ms.length cV) (.slice ac H.calls.length kc) (.slice aD H.said.length kD) ms H W2 HMH.out.1 HMH.out.2 hsm).mono ?_
    rintro e w' ⟨hb, a1, k1, a2, k2, rfl, ho⟩
    exact ⟨⟨a1, k1, a2, k2, rfl, ho w' (Nat.le_refl _) (fun _ _ _ => rfl)⟩, hb⟩
  have HIM : Hid (∀ W, Below W2.heap.size W2 W → Calls Try.prog 6 #[.agg #[.slice aV ms.length cV], .agg #[.slice ac H.calls.length kc, .int .i64 H.now, .int .i64 H.born, .slice aD H.said.length kD, .int .i64 H.code]] W fun e w' => (∃ a1 k1 a2 k2, e = .returned (.tuple #[.agg #[.slice a1 (trimH ms H).calls.length k1, .int .i64 (trimH ms H).now, .int .i64 (trimH ms H).born, .slice a2 (trimH ms H).said.length k2, .int .i64 (trimH ms H).code], .bool (heapOk ms H)]) ∧ HeapAt w' (.slice a1 (trimH ms H).calls.length k1) (.slice a2 (trimH ms H).said.length k2) (trimH ms H)) ∧ Below W.heap.size W w') := fun W hW => by
    refine (implHeapTrim_any (.slice aV ms.length cV) (.slice ac H.calls.length kc) (.slice aD H.said.length kD) ms H W (HMH.out.1.below hW) (HMH.out.2.below hW) hsm).mono ?_
    rintro e w' ⟨hb, vc', vs', V', rfl, ho⟩
    obtain ⟨a1, k1, hv1⟩ := ho.at.c.shape
    obtain ⟨a2, k2, hv2⟩ := ho.at.s.shape
    subst hv1 hv2
    exact ⟨⟨a1, k1, a2, k2, rfl, ho.at⟩, hb⟩
  have HPL : Hid (heapOk ms H = true → Good ms (trimH ms H) ∧ trimH ms (trimH ms H) = trimH ms H ∧ viewL (trimH ms H) = viewL H ∧ deepOf (trimH ms H).calls (trimH ms H).now = deepOf H.calls H.now ∧ (trimH ms H).small ∧ (trimH ms H).short ∧ (trimH ms H).calls.length ≤ 30) := fun e => trim_says (good_iff.1 e) sd100
  generalize trimH ms H = R at *
  generalize heapOk ms H = ok at *
  obtain ⟨⟨d0, d1, d2, d3, d4⟩, _⟩ := five_cells rh
  have dp := rp.cell (i := 0) (by decide)
  go_wp2_with fail
  refine HSP.mono ?_
  rintro e w3 ⟨⟨a3, k3, b3, l3, rfl, hO3⟩, hb3⟩
  have z3 := hb3.size
  have rp3 := row_below hb3 rp
  have rh3 := row_below hb3 rh
  clear HSP d0 d1 d2 d3 d4 dp rp rh
  go_upto_region 5 with fail
  have N4 : Below w3.heap.size w3 (w3.alloc (.cells #[.slice a3 R.calls.length k3, .int .i64 R.now, .int .i64 R.born, .slice b3 R.said.length l3, .int .i64 R.code] 29)) := (Below.refl _ _).alloc (Nat.le_refl _) _
  have rw4 := five_new w3 29 (.slice a3 R.calls.length k3) (.int .i64 R.now) (.int .i64 R.born) (.slice b3 R.said.length l3) (.int .i64 R.code)
  have rp4 := row_below N4 rp3
  have rh4 := row_below N4 rh3
  have b4 := hb3.trans (N4.mono z3)
  have H3 : Hid (HeapAt (w3.alloc (.cells #[.slice a3 R.calls.length k3, .int .i64 R.now, .int .i64 R.born, .slice b3 R.said.length l3, .int .i64 R.code] 29)) (.slice a3 R.calls.length k3) (.slice b3 R.said.length l3) R) := hO3.below N4
  clear hO3 rp3 rh3 N4
  generalize w3.alloc (.cells #[.slice a3 R.calls.length k3, .int .i64 R.now, .int .i64 R.born, .slice b3 R.said.length l3, .int .i64 R.code] 29) = W4 at *
  generalize w3.heap.size = bw at *
  have z4 := b4.size
  obtain ⟨⟨d0, d1, d2, d3, d4⟩, _⟩ := five_cells rh4
  have dp := rp4.cell (i := 0) (by decide)
  have HI4 := HIM.out W4 b4
  go_wp2_with fail
  refine HI4.mono ?_
  rintro e w5 ⟨⟨a5, k5, b5, l5, rfl, hO5⟩, hb5⟩
  have z5 := hb5.size
  have rp5 := row_below hb5 rp4
  have rh5 := row_below hb5 rh4
  have rw5 := row_below hb5 rw4
  clear HI4 d0 d1 d2 d3 d4 dp rp4 rh4 rw4
  go_upto_region 6 with fail
  have N6 : Below w5.heap.size w5 (w5.alloc (.cells #[.slice a5 R.calls.length k5, .int .i64 R.now, .int .i64 R.born, .slice b5 R.said.length l5, .int .i64 R.code] 29)) := (Below.refl _ _).alloc (Nat.le_refl _) _
  have rx6 := five_new w5 29 (.slice a5 R.calls.length k5) (.int .i64 R.now) (.int .i64 R.born) (.slice b5 R.said.length l5) (.int .i64 R.code)
  have rp6 := row_below N6 rp5
  have rh6 := row_below N6 rh5
  have rw6 := row_below N6 rw5
  have b6 : Below W2.heap.size W2 (w5.alloc (.cells #[.slice a5 R.calls.length k5, .int .i64 R.now, .int .i64 R.born, .slice b5 R.said.length l5, .int .i64 R.code] 29)) := (b4.trans (hb5.mono (by omega))).trans (N6.mono (by omega))
  have H5 : Hid (HeapAt (w5.alloc (.cells #[.slice a5 R.calls.length k5, .int .i64 R.now, .int .i64 R.born, .slice b5 R.said.length l5, .int .i64 R.code] 29)) (.slice a5 R.calls.length k5) (.slice b5 R.said.length l5) R ∧ HeapAt (w5.alloc (.cells #[.slice a5 R.calls.length k5, .int .i64 R.now, .int .i64 R.born, .slice b5 R.said.length l5, .int .i64 R.code] 29)) (.slice a3 R.calls.length k3) (.slice b3 R.said.length l3) R) := ⟨hO5.below N6, (H3.out.below hb5).below N6⟩
  clear hO5 rp5 rh5 rw5 N6 H3
  generalize w5.alloc (.cells #[.slice a5 R.calls.length k5, .int .i64 R.now, .int .i64 R.born, .slice b5 R.said.length l5, .int .i64 R.code] 29) = W6 at *
  generalize w5.heap.size = bx at *
  have hB6 := hB2.trans (b6.mono z2)
  have z6 := hB6.size
  obtain ⟨⟨x0, x1, x2, x3, x4⟩, _⟩ := five_cells rx6
  obtain ⟨⟨y0, y1, y2, y3, y4⟩, _⟩ := five_cells rw6
  obtain ⟨⟨d0, d1, d2, d3, d4⟩, _⟩ := five_cells rh6
  have dp := rp6.cell (i := 0) (by decide)
  have HLM : Hid (∀ W, Below W6.heap.size W6 W → Calls Try.prog 7 #[.agg #[.slice a5 R.calls.length k5, .int .i64 R.now, .int .i64 R.born, .slice b5 R.said.length l5, .int .i64 R.code], .agg #[.slice a3 R.calls.length k3, .int .i64 R.now, .int .i64 R.born, .slice b3 R.said.length l3, .int .i64 R.code]] W fun e w' => e = .returned (.bool true) ∧ Below W.heap.size W w') := fun W hW => lmHeap_same R _ _ _ _ W (H5.out.1.below hW) (H5.out.2.below hW)
  cases ok
  · go_wp2_with fail
    refine (HLM.out W6 (Below.refl _ _)).mono ?_
    rintro e w7 ⟨rfl, hb7⟩
    obtain ⟨⟨q0, q1, q2, q3, q4⟩, _⟩ := five_cells (row_below hb7 rx6)
    obtain ⟨⟨p0, p1, p2, p3, p4⟩, _⟩ := five_cells (row_below hb7 rw6)
    clear x0 x1 x2 x3 x4 y0 y1 y2 y3 y4 d0 d1 d2 d3 d4 dp
    go_wp2_with fail
    refine (HLM.out w7 hb7).mono ?_
    rintro e w8 ⟨rfl, hb8⟩
    have z7 := hb7.size
    go_wp2
    go_ret
    exact ⟨rfl, (hB6.trans (hb7.mono z6)).trans (hb8.mono (by omega))⟩
  obtain ⟨gR, hTT, hVV, hDD, hsR, hshR, h30R⟩ := HPL.out rfl
  have HTR : Hid (∀ W, Below W6.heap.size W6 W → Calls Try.prog 6 #[.agg #[.slice aV ms.length cV], .agg #[.slice a5 R.calls.length k5, .int .i64 R.now, .int .i64 R.born, .slice b5 R.said.length l5, .int .i64 R.code]] W fun e w' => (∃ a1 k1 a2 k2, e = .returned (.tuple #[.agg #[.slice a1 R.calls.length k1, .int .i64 R.now, .int .i64 R.born, .slice a2 R.said.length k2, .int .i64 R.code], .bool true]) ∧ HeapAt w' (.slice a1 R.calls.length k1) (.slice a2 R.said.length k2) R) ∧ Below W.heap.size W w') := fun W hW => by
    have q := implHeapTrim_any (.slice aV ms.length cV) (.slice a5 R.calls.length k5) (.slice b5 R.said.length l5) ms R W ((HMH.out.1.below b6).below hW) (H5.out.1.below hW) hsR
    rw [hTT, good_iff.2 gR] at q
    refine q.mono ?_
    rintro e w' ⟨hb, vc', vs', V', rfl, ho⟩
    obtain ⟨a1, k1, hv1⟩ := ho.at.c.shape
    obtain ⟨a2, k2, hv2⟩ := ho.at.s.shape
    subst hv1 hv2
    exact ⟨⟨a1, k1, a2, k2, rfl, ho.at⟩, hb⟩
  have HRO : Hid (heapOk ms R = true ∧ viewL R = viewL H ∧ deepOf R.calls R.now = deepOf H.calls H.now ∧ R.short) := ⟨good_iff.2 gR, hVV, hDD, hshR⟩
  clear gR hTT hVV hDD hsR hshR HPL
  go_upto_region 8 with (go_at_call 7; refine (HLM.out W6 (Below.refl _ _)).mono ?_; rintro e w7 ⟨rfl, hb7⟩)
  have z7 := hb7.size
  have hB7 := hB6.trans (hb7.mono z6)
  have rp7 := row_below hb7 rp6
  have rx7 := row_below hb7 rx6
  have rh7 := row_below hb7 rh6
  have b7 := b6.trans (hb7.mono b6.size)
  have HX7 : Hid (HeapAt w7 (.slice a5 R.calls.length k5) (.slice b5 R.said.length l5) R ∧ HeapAt w7 (.slice ac H.calls.length kc) (.slice aD H.said.length kD) H ∧ MethsAt w7 (.slice aV ms.length cV) ms) := ⟨H5.out.1.below hb7, HMH.out.2.below b7, HMH.out.1.below b7⟩
  clear x0 x1 x2 x3 x4 y0 y1 y2 y3 y4 d0 d1 d2 d3 d4 dp HLM rx6 rw6 rh6 rp6 hb5 hb3 HIM H5
  obtain ⟨⟨x0, x1, x2, x3, x4⟩, _⟩ := five_cells rx7
  have dp := rp7.cell (i := 0) (by decide)
  have HT8 := HTR.out w7 hb7
  go_wp2_with fail
  refine HT8.mono ?_
  rintro e w8 ⟨⟨a9, k9, b9, l9, rfl, hO8⟩, hb8⟩
  have z8 := hb8.size
  have rp8 := row_below hb8 rp7
  have rx8 := row_below hb8 rx7
  have rh8 := row_below hb8 rh7
  clear HT8 HTR x0 x1 x2 x3 x4 dp rp7 rx7 rh7
  go_upto_region 9 with fail
  have N9 : Below w8.heap.size w8 (w8.alloc (.cells #[.slice a9 R.calls.length k9, .int .i64 R.now, .int .i64 R.born, .slice b9 R.said.length l9, .int .i64 R.code] 29)) := (Below.refl _ _).alloc (Nat.le_refl _) _
  have ry9 := five_new w8 29 (.slice a9 R.calls.length k9) (.int .i64 R.now) (.int .i64 R.born) (.slice b9 R.said.length l9) (.int .i64 R.code)
  have rp9 := row_below N9 rp8
  have rx9 := row_below N9 rx8
  have rh9 := row_below N9 rh8
  have b9b : Below w7.heap.size w7 (w8.alloc (.cells #[.slice a9 R.calls.length k9, .int .i64 R.now, .int .i64 R.born, .slice b9 R.said.length l9, .int .i64 R.code] 29)) := hb8.trans (N9.mono z8)
  have HY9 : Hid (HeapAt (w8.alloc (.cells #[.slice a9 R.calls.length k9, .int .i64 R.now, .int .i64 R.born, .slice b9 R.said.length l9, .int .i64 R.code] 29)) (.slice a9 R.calls.length k9) (.slice b9 R.said.length l9) R) := hO8.below N9
  clear hO8 rp8 rx8 rh8 N9
  generalize w8.alloc (.cells #[.slice a9 R.calls.length k9, .int .i64 R.now, .int .i64 R.born, .slice b9 R.said.length l9, .int .i64 R.code] 29) = W9 at *
  generalize w8.heap.size = by9 at *
  have z9 := b9b.size
  have hB9 := hB7.trans (b9b.mono hB7.size)
  have HX9 : Hid (HeapAt W9 (.slice a5 R.calls.length k5) (.slice b5 R.said.length l5) R ∧ HeapAt W9 (.slice ac H.calls.length kc) (.slice aD H.said.length kD) H ∧ MethsAt W9 (.slice aV ms.length cV) ms) := ⟨HX7.out.1.below b9b, HX7.out.2.1.below b9b, HX7.out.2.2.below b9b⟩
  obtain ⟨⟨x0, x1, x2, x3, x4⟩, _⟩ := five_cells rx9
  obtain ⟨⟨y0, y1, y2, y3, y4⟩, _⟩ := five_cells ry9
  obtain ⟨⟨d0, d1, d2, d3, d4⟩, _⟩ := five_cells rh9
  have dp := rp9.cell (i := 0) (by decide)
  obtain ⟨VL, hVL⟩ : ∃ VL, viewL H = VL := ⟨_, rfl⟩
  obtain ⟨al, hal⟩ : ∃ al, deepOf H.calls H.now = al := ⟨_, rfl⟩
  rw [hVL, hal] at HRO
  have HVH' : Hid (viewL H = VL ∧ deepOf H.calls H.now = al) := ⟨hVL, hal⟩
  clear hVL hal
  have HA : Hid (∀ W, Below W9.heap.size W9 W → Calls Try.prog 8 #[.agg #[.slice aV ms.length cV], .agg #[.slice a5 R.calls.length k5, .int .i64 R.now, .int .i64 R.born, .slice b5 R.said.length l5, .int .i64 R.code]] W fun e w' => e = .returned (.bool true) ∧ Below W.heap.size W w') := fun W hW => by
    have q := implHeapOk_any (.slice aV ms.length cV) (.slice a5 R.calls.length k5) (.slice b5 R.said.length l5) ms R W (HX9.out.2.2.below hW) (HX9.out.1.below hW) (by omega)
    rw [HRO.out.1] at q
    exact q
  have HVX : Hid (∀ W, Below W9.heap.size W9 W → Calls Try.prog 10 #[.agg #[.slice a5 R.calls.length k5, .int .i64 R.now, .int .i64 R.born, .slice b5 R.said.length l5, .int .i64 R.code]] W fun e w' => (∃ a1 k1, e = .returned (.slice a1 VL.length k1) ∧ CallsAt w' (.slice a1 VL.length k1) VL) ∧ Below W.heap.size W w') := fun W hW => by
    have q := implHeapView_any (.slice a5 R.calls.length k5) (.slice b5 R.said.length l5) R W (HX9.out.1.below hW) HRO.out.2.2.2 h30R
    rw [HRO.out.2.1] at q
    refine q.mono ?_
    rintro e w' ⟨⟨v', V', rfl, ho⟩, hb⟩
    obtain ⟨a1, k1, hv1⟩ := ho.at.shape
    subst hv1
    exact ⟨⟨a1, k1, rfl, ho.at⟩, hb⟩
  have HVY : Hid (∀ W, Below W9.heap.size W9 W → Calls Try.prog 10 #[.agg #[.slice ac H.calls.length kc, .int .i64 H.now, .int .i64 H.born, .slice aD H.said.length kD, .int .i64 H.code]] W fun e w' => (∃ a1 k1, e = .returned (.slice a1 VL.length k1) ∧ CallsAt w' (.slice a1 VL.length k1) VL) ∧ Below W.heap.size W w') := fun W hW => by
    have q := implHeapView_any (.slice ac H.calls.length kc) (.slice aD H.said.length kD) H W (HX9.out.2.1.below hW) HSH.out l30
    rw [HVH'.out.1] at q
    refine q.mono ?_
    rintro e w' ⟨⟨v', V', rfl, ho⟩, hb⟩
    obtain ⟨a1, k1, hv1⟩ := ho.at.shape
    subst hv1
    exact ⟨⟨a1, k1, rfl, ho.at⟩, hb⟩
  have HLH : Hid (∀ W, Below W9.heap.size W9 W → Calls Try.prog 7 #[.agg #[.slice a9 R.calls.length k9, .int .i64 R.now, .int .i64 R.born, .slice b9 R.said.length l9, .int .i64 R.code], .agg #[.slice a5 R.calls.length k5, .int .i64 R.now, .int .i64 R.born, .slice b5 R.said.length l5, .int .i64 R.code]] W fun e w' => e = .returned (.bool true) ∧ Below W.heap.size W w') := fun W hW => lmHeap_same R (.slice a9 R.calls.length k9) (.slice b9 R.said.length l9) (.slice a5 R.calls.length k5) (.slice b5 R.said.length l5) W (HY9.out.below hW) (HX9.out.1.below hW)
  have HDX : Hid (∀ W, Below W9.heap.size W9 W → Calls Try.prog 11 #[.agg #[.slice a5 R.calls.length k5, .int .i64 R.now, .int .i64 R.born, .slice b5 R.said.length l5, .int .i64 R.code]] W fun e w' => e = .returned (.int .i64 (al : Int)) ∧ Below W.heap.size W w') := fun W hW => by
    have q := implHeapDeep_any (.slice a5 R.calls.length k5) (.slice b5 R.said.length l5) R W (HX9.out.1.below hW) (by omega)
    rw [HRO.out.2.2.1] at q
    exact q
  have HDY : Hid (∀ W, Below W9.heap.size W9 W → Calls Try.prog 11 #[.agg #[.slice ac H.calls.length kc, .int .i64 H.now, .int .i64 H.born, .slice aD H.said.length kD, .int .i64 H.code]] W fun e w' => e = .returned (.int .i64 (al : Int)) ∧ Below W.heap.size W w') := fun W hW => by
    have q := implHeapDeep_any (.slice ac H.calls.length kc) (.slice aD H.said.length kD) H W (HX9.out.2.1.below hW) (by omega)
    rw [HVH'.out.2] at q
    exact q
  have HKC : ∀ W, Below W9.heap.size W9 W → (W.cell? ⟨w1.heap.size, 0, none⟩ = some (.slice aV ms.length cV)) ∧ (W.cell? ⟨bx, 0, none⟩ = some (.slice a5 R.calls.length k5) ∧ W.cell? ⟨bx, 1, none⟩ = some (.int .i64 R.now) ∧ W.cell? ⟨bx, 2, none⟩ = some (.int .i64 R.born) ∧ W.cell? ⟨bx, 3, none⟩ = some (.slice b5 R.said.length l5) ∧ W.cell? ⟨bx, 4, none⟩ = some (.int .i64 R.code)) ∧ (W.cell? ⟨w1.heap.size + 1, 0, none⟩ = some (.slice ac H.calls.length kc) ∧ W.cell? ⟨w1.heap.size + 1, 1, none⟩ = some (.int .i64 H.now) ∧ W.cell? ⟨w1.heap.size + 1, 2, none⟩ = some (.int .i64 H.born) ∧ W.cell? ⟨w1.heap.size + 1, 3, none⟩ = some (.slice aD H.said.length kD) ∧ W.cell? ⟨w1.heap.size + 1, 4, none⟩ = some (.int .i64 H.code)) ∧ (W.cell? ⟨by9, 0, none⟩ = some (.slice a9 R.calls.length k9) ∧ W.cell? ⟨by9, 1, none⟩ = some (.int .i64 R.now) ∧ W.cell? ⟨by9, 2, none⟩ = some (.int .i64 R.born) ∧ W.cell? ⟨by9, 3, none⟩ = some (.slice b9 R.said.length l9) ∧ W.cell? ⟨by9, 4, none⟩ = some (.int .i64 R.code)) := fun W hW => ⟨cell_below hW dp, ⟨cell_below hW x0, cell_below hW x1, cell_below hW x2, cell_below hW x3, cell_below hW x4⟩, ⟨cell_below hW d0, cell_below hW d1, cell_below hW d2, cell_below hW d3, cell_below hW d4⟩, ⟨cell_below hW y0, cell_below hW y1, cell_below hW y2, cell_below hW y3, cell_below hW y4⟩⟩
  have b9d : Below W9.heap.size W9 W9.drew := (Below.refl _ _).drew
  clear HX7 HRO HVH' HMH hb7 hb8
  go_wp2_with fail
  go_region_held3 (fun W => (W.cell? ⟨w1.heap.size, 0, none⟩ = some (.slice aV ms.length cV)) ∧ (W.cell? ⟨bx, 0, none⟩ = some (.slice a5 R.calls.length k5) ∧ W.cell? ⟨bx, 1, none⟩ = some (.int .i64 R.now) ∧ W.cell? ⟨bx, 2, none⟩ = some (.int .i64 R.born) ∧ W.cell? ⟨bx, 3, none⟩ = some (.slice b5 R.said.length l5) ∧ W.cell? ⟨bx, 4, none⟩ = some (.int .i64 R.code)) ∧ (W.cell? ⟨w1.heap.size + 1, 0, none⟩ = some (.slice ac H.calls.length kc) ∧ W.cell? ⟨w1.heap.size + 1, 1, none⟩ = some (.int .i64 H.now) ∧ W.cell? ⟨w1.heap.size + 1, 2, none⟩ = some (.int .i64 H.born) ∧ W.cell? ⟨w1.heap.size + 1, 3, none⟩ = some (.slice aD H.said.length kD) ∧ W.cell? ⟨w1.heap.size + 1, 4, none⟩ = some (.int .i64 H.code)) ∧ (W.cell? ⟨by9, 0, none⟩ = some (.slice a9 R.calls.length k9) ∧ W.cell? ⟨by9, 1, none⟩ = some (.int .i64 R.now) ∧ W.cell? ⟨by9, 2, none⟩ = some (.int .i64 R.born) ∧ W.cell? ⟨by9, 3, none⟩ = some (.slice b9 R.said.length l9) ∧ W.cell? ⟨by9, 4, none⟩ = some (.int .i64 R.code)))
    (first | with_reducible exact SG | with_reducible exact SF | with_reducible exact SE | with_reducible exact SD | with_reducible exact SC | with_reducible exact SB | with_reducible exact SA | go_keep)
    ((first
      | (have hh := hbF; clear hh; go_at_call 11; refine (HDY.out _ BF).mono ?_; rintro e wG ⟨rfl, hbG⟩; have BG := BF.trans (hbG.mono BF.size); have SG := HKC wG BG)
      | (have hh := hbE; clear hh; go_at_call 11; refine (HDX.out _ BE).mono ?_; rintro e wF ⟨rfl, hbF⟩; have BF := BE.trans (hbF.mono BE.size); have SF := HKC wF BF)
      | (have hh := hbD; clear hh; go_at_call 7; refine (HLH.out _ BD).mono ?_; rintro e wE ⟨rfl, hbE⟩; have BE := BD.trans (hbE.mono BD.size); have SE := HKC wE BE)
      | (have hh := hbC; clear hh; go_at_call 9; refine (lmCalls_same _ _ VL _ (HCB.out.below hbC) HCC.out).mono ?_; rintro e wD ⟨rfl, hbD⟩; have BD := BC.trans (hbD.mono BC.size); have SD := HKC wD BD)
      | (have hh := hbB; clear hh; go_at_call 10; refine (HVY.out _ BB).mono ?_; rintro e wC ⟨⟨aC, kC, rfl, hcC⟩, hbC⟩; have HCC : Hid (CallsAt wC (.slice aC VL.length kC) VL) := hcC; clear hcC; have BC := BB.trans (hbC.mono BB.size); have SC := HKC wC BC)
      | (have hh := hbA; clear hh; go_at_call 10; refine (HVX.out _ BA).mono ?_; rintro e wB ⟨⟨aB, kB, rfl, hcB⟩, hbB⟩; have HCB : Hid (CallsAt wB (.slice aB VL.length kB) VL) := hcB; clear hcB; have BB := BA.trans (hbB.mono BA.size); have SB := HKC wB BB)
      | (go_at_call 8; refine (HA.out _ b9d).mono ?_; rintro e wA ⟨rfl, hbA⟩; have BA := b9d.trans (hbA.mono (Nat.le_refl _)); have SA := HKC wA BA)))
  have BZ : Below w.heap.size w wG := hB9.trans (BG.mono hB9.size)
  go_wp2
  go_ret
  exact ⟨ret_bool (by first | rfl | simp), BZ⟩
end Go.Proofs.Ytfpodljalccpnaa
