/-
  The law FnHeapMethod, walked: whatever bytes come in, it answers true and writes to nothing that was there, where the table opForms lies as its text lays it.
-/
import Derived.Test.YtfpodljalccpnaaGreatDoorDrawHeap
import Derived.Test.YtfpodljalccpnaaGreatDoorLOut
import Derived.Test.YtfpodljalccpnaaGreatDoorLmHeap
import Derived.Test.YtfpodljalccpnaaGreatDoorMorePlain
import Derived.Test.YtfpodljalccpnaaGreatDoorLmRow
import Derived.Test.YtfpodljalccpnaaGreatDoorHChain
import Derived.Test.YtfpodljalccpnaaGreatDoorStepT

namespace Go.Proofs.YtfpodljalccpnaaGreatDoor
open Go.RowKit
theorem more_row {B : Nat} {w : World} {g off cap : Nat} {ms : List (Int × Int × List (Int × Int))} {V : Nat → Value} (hr : CRow B 3 w (.slice (some ⟨g, off, none⟩) (ms.length + 1) cap) (ms.length + 1) (flat3 (methL ms V) ++ [.int .i64 0, .int .i64 0, .slice none 0 0]))
    (hl : ∀ i, (hi : i < ms.length) → OpsAt w (V i) ms[i].2.2) : MethsAt w (.slice (some ⟨g, off, none⟩) (ms.length + 1) cap) (ms ++ [(0, 0, [])]) := by
  obtain ⟨hm, hx⟩ := hr.at
  have hlen : (flat3 (methL ms V)).length = ms.length * 3 := by rw [flat3_length, methL_len]
  refine ⟨some ⟨g, off, none⟩, cap, by rw [List.length_append]; rfl, by rw [List.length_append]; exact hm, fun i hi => ?_⟩
  have hi' : i < ms.length + 1 := by simpa using hi
  by_cases e : i < ms.length
  · rw [List.getElem_append_left e]
    have hr := flat3_at (methL ms V) i (by rw [methL_len]; exact e)
    rw [methL_at e] at hr
    obtain ⟨r0, r1, r2⟩ := hr
    refine ⟨g, off, V i, rfl, ?_, ?_, ?_, hl i e⟩
    · exact (hx _ _ (by rw [List.getElem?_append_left (by omega)]; exact r0)).1
    · rw [Nat.add_assoc]; exact (hx _ _ (by rw [List.getElem?_append_left (by omega)]; exact r1)).1
    · rw [Nat.add_assoc]; exact (hx _ _ (by rw [List.getElem?_append_left (by omega)]; exact r2)).1
  · obtain rfl : i = ms.length := by omega
    rw [List.getElem_append_right (Nat.le_refl _)]
    simp only [Nat.sub_self, List.getElem_singleton]
    refine ⟨g, off, .slice none 0 0, rfl, ?_, ?_, ?_, none, 0, rfl, Nat.zero_le _, fun j hj => absurd hj (Nat.not_lt_zero _)⟩
    · exact (hx (ms.length * 3) _ (by rw [List.getElem?_append_right (by omega), hlen, Nat.sub_self]; rfl)).1
    · rw [Nat.add_assoc]; exact (hx (ms.length * 3 + 1) _ (by rw [List.getElem?_append_right (by omega), hlen, show ms.length * 3 + 1 - ms.length * 3 = 1 by omega]; rfl)).1
    · rw [Nat.add_assoc]; exact (hx (ms.length * 3 + 2) _ (by rw [List.getElem?_append_right (by omega), hlen, show ms.length * 3 + 2 - ms.length * 3 = 2 by omega]; rfl)).1
set_option maxRecDepth 100000 in
set_option maxHeartbeats 4000000 in
theorem lawHeapMethod_any (w : World) (a : Option Addr) (len cap : Nat) (h : BytesAt w a len cap) (hT : TabAt w) :
    Calls Tryz.prog 3 #[.slice a len cap] w fun e w' => e = .returned (.bool true) ∧ Below w.heap.size w w' := by
  have hc := h.1
  have hm := h.2.1
  unfold maxLen at hm
  have HB : Hid (BytesAt w a len cap) := h
  have HT : Hid (TabAt w) := hT
  clear h hT
  by_cases hl : 1048576 < len
  · have hlz : (1048576 : Int) < (len : Int) := by omega
    go_enter Tryz.func3, Tryz.ntmps3
    go_wp2
    go_ret
    exact ⟨rfl, Below.refl _ _⟩
  have hlz : (len : Int) ≤ 1048576 := by omega
  go_enter Tryz.func3, Tryz.ntmps3
  go_wp2_with fail
  refine (drawHeapOk_any _ a len cap HB.out).mono ?_
  rintro e w1 ⟨v, vc, vs, ms, H, rfl, hD, hB1⟩
  obtain ⟨hM1, hH1⟩ := hD.st.here
  have l30 := hD.fine.l30
  have sd100 := hD.fine.sd
  have HOKM : Hid (progOk ms = true) := hD.ok
  clear hD
  obtain ⟨aV, cV, hvV, hmx, _⟩ := id hM1
  obtain ⟨ac, kc, hvc⟩ := hH1.c.shape
  obtain ⟨aD, kD, hvs⟩ := hH1.s.shape
  subst hvV hvc hvs
  have z1 := hB1.size
  clear HB
  unfold hpCells
  go_upto_region 4 with fail
  have N2 : Below w1.heap.size w1 ((w1.alloc (.cells #[.slice aV ms.length cV] 25)).alloc (.cells #[.slice ac H.calls.length kc, .int .i64 H.now, .int .i64 H.born, .slice aD H.said.length kD, .int .i64 H.code] 29)) := ((Below.refl _ _).alloc (Nat.le_refl _) _).alloc (by simp) _
  have rp := (pbox_new w1 (.slice aV ms.length cV)).alloc (.cells #[.slice ac H.calls.length kc, .int .i64 H.now, .int .i64 H.born, .slice aD H.said.length kD, .int .i64 H.code] 29)
  have rh := five_new (w1.alloc (.cells #[.slice aV ms.length cV] 25)) 29 (.slice ac H.calls.length kc) (.int .i64 H.now) (.int .i64 H.born) (.slice aD H.said.length kD) (.int .i64 H.code)
  simp only [World.size_alloc] at rh
  generalize (w1.alloc (.cells #[.slice aV ms.length cV] 25)).alloc (.cells #[.slice ac H.calls.length kc, .int .i64 H.now, .int .i64 H.born, .slice aD H.said.length kD, .int .i64 H.code] 29) = W2 at *
  have hB2 := hB1.trans (N2.mono z1)
  have z2 := hB2.size
  have HMH : Hid (MethsAt W2 (.slice aV ms.length cV) ms ∧ HeapAt W2 (.slice ac H.calls.length kc) (.slice aD H.said.length kD) H ∧ TabAt W2) := ⟨hM1.below N2, hH1.below N2, HT.out.below hB2⟩
  clear hM1 hH1 hB1 N2 HT
  have HI : Hid (∀ wx, Below W2.heap.size W2 wx → Calls Tryz.prog 11 #[.agg #[.slice aV ms.length cV], .agg #[.slice ac H.calls.length kc, .int .i64 H.now, .int .i64 H.born, .slice aD H.said.length kD, .int .i64 H.code]] wx fun e w' => e = .returned (.bool (heapOk ms H)) ∧ Below wx.heap.size wx w') := fun wx hb => implHeapOk_any _ _ _ ms H wx (HMH.out.1.below hb) (HMH.out.2.1.below hb) (by omega)
  have HS : Hid (∀ wx, Below W2.heap.size W2 wx → Calls Tryz.prog 12 #[.agg #[.slice aV ms.length cV], .agg #[.slice ac H.calls.length kc, .int .i64 H.now, .int .i64 H.born, .slice aD H.said.length kD, .int .i64 H.code]] wx fun e w' => e = .returned (.bool (heapOk ms H)) ∧ Below wx.heap.size wx w') := fun wx hb => specHeapOk_any _ _ _ ms H wx (HMH.out.1.below hb) (HMH.out.2.1.below hb) (by omega)
  have HOK : Hid (heapOk ms H = true → Good ms H) := fun e => good_iff.1 e
  have HHO : Hid (heapOk ms H = heapOk ms H) := rfl
  obtain ⟨ok, hok⟩ : ∃ ok, heapOk ms H = ok := ⟨_, rfl⟩
  rw [hok] at HI HS HOK
  clear HHO
  have HOE : Hid (heapOk ms H = ok) := hok
  clear hok
  obtain ⟨⟨d0, d1, d2, d3, d4⟩, _⟩ := five_cells rh
  have dp := rp.cell (i := 0) (by decide)
  go_wp2_with fail
  refine (HI.out W2 (Below.refl _ _)).mono ?_
  rintro e w3 ⟨rfl, hb3⟩
  have rp3 := row_below hb3 rp
  have rh3 := row_below hb3 rh
  have z3 := hb3.size
  clear d0 d1 d2 d3 d4 dp
  obtain ⟨⟨d0, d1, d2, d3, d4⟩, _⟩ := five_cells rh3
  have dp := rp3.cell (i := 0) (by decide)
  go_wp2_with fail
  refine (HS.out w3 hb3).mono ?_
  rintro e w4 ⟨rfl, hb4⟩
  have b4 := hb3.trans (hb4.mono z3)
  have rp4 := row_below hb4 rp3
  have rh4 := row_below hb4 rh3
  have z4 := hb4.size
  have hB4 := hB2.trans (b4.mono z2)
  clear d0 d1 d2 d3 d4 dp hb3 hb4 rp3 rh3 rp rh
  obtain ⟨⟨d0, d1, d2, d3, d4⟩, _⟩ := five_cells rh4
  have dp := rp4.cell (i := 0) (by decide)
  cases ok
  · go_wp2_with fail
    refine (HS.out w4 b4).mono ?_
    rintro e w5 ⟨rfl, hb5⟩
    go_wp2
    go_ret
    exact ⟨rfl, hB4.trans (hb5.mono hB4.size)⟩
  by_cases h4 : 4 ≤ ms.length
  · have h4z : (4 : Int) ≤ (ms.length : Int) := by omega
    go_wp2_with fail
    refine (HS.out w4 b4).mono ?_
    rintro e w5 ⟨rfl, hb5⟩
    go_wp2
    go_ret
    exact ⟨rfl, hB4.trans (hb5.mono hB4.size)⟩
  have h4z : (ms.length : Int) < 4 := by omega
  have hn0 : 0 < ms.length := by
    have q := HOKM.out
    unfold progOk at q
    simp only [Bool.and_eq_true, inR_true] at q
    omega
  have HG : Hid (Good ms H) := HOK.out rfl
  obtain ⟨V, hsrc, hV⟩ := src_meths HMH.out.1
  have HV : Hid ((∀ w', Below W2.heap.size W2 w' → Src Tryz.prog 3 23 (.slice aV ms.length cV) ms.length (flat3 (methL ms V)) w') ∧ (∀ i, (hi : i < ms.length) → OpsAt W2 (V i) ms[i].2.2)) := ⟨hsrc, hV⟩
  have mk7 := CRow.made (B := w4.heap.size) (sz := 3) (w := w4) (e := 35) (Nat.le_refl _)
  have A7 : Below w4.heap.size w4 (w4.alloc (.cells #[] 35)) := (Below.refl _ _).alloc (Nat.le_refl _) _
  have s7 := HV.out.1 _ (b4.trans (A7.mono b4.size))
  clear hsrc hV HOK HS
  have lp4 := rp4.lt
  go_upto_region 8 with (first
    | (at_builtin; refine append_row _ (by rfl) _ _ 23 35 (by rfl) Tryz.underlying23 Tryz.infoMeth (by rfl) (by omega) w4.heap.size _ _ 0 ms.length [] (flat3 (methL ms V)) (by rfl) (by rfl) mk7 s7 (by omega) (by simp) ?_; intro v6 w6 hrow6 hg6 hb6; rw [Nat.zero_add, List.nil_append] at hrow6; obtain ⟨gq, oq, cq, hv6, hgq, hgq'⟩ := hrow6.form (by omega); subst hv6)
    | (at_builtin; refine append_row _ (by rfl) _ _ 23 35 (by rfl) Tryz.underlying23 Tryz.infoMeth (by rfl) (by omega) w4.heap.size _ _ ms.length 1 (flat3 (methL ms V)) [.int .i64 0, .int .i64 0, .slice none 0 0] (by first | rfl | (simp; rfl)) (by rfl) (hrow6.below ((Below.refl _ _).alloc (Nat.le_refl _) _)) (Src.ofSlice _ Tryz.underlying23 ⟨w6.heap.size, 0, none⟩ 1 _ [.int .i64 0, .int .i64 0, .slice none 0 0] rfl (World.news_of_block (Go.Deep.blk_alloc_new w6 _)) (fun u hu => by simp only [List.mem_cons, List.not_mem_nil, or_false] at hu; rcases hu with rfl | rfl | rfl <;> rfl)) (by omega) (by have := hg6.size; simp at this; simp; omega) ?_; intro v7 w7 hrow7 hg7 hb7; obtain ⟨g8, o8, c8, hv7, hg8, hg8'⟩ := hrow7.form (by omega); subst hv7))
  have b6 : Below w4.heap.size w4 w6 := A7.grown hg6 A7.size (fun q e => (mk7.lt q e).1)
  have n6 := b6.alloc b6.size (.cells #[.int .i64 0, .int .i64 0, .slice none 0 0] 35)
  have b7 : Below w4.heap.size w4 w7 := n6.grown hg7 n6.size (fun q e => (hrow6.lt q e).1)
  have z7 := b7.size
  have b27 := b4.trans (b7.mono b4.size)
  have N8 : Below w7.heap.size w7 (w7.alloc (.cells #[.slice (some ⟨g8, o8, none⟩) (ms.length + 1) c8] 25)) := (Below.refl _ _).alloc (Nat.le_refl _) _
  have rq8 := pbox_new w7 (.slice (some ⟨g8, o8, none⟩) (ms.length + 1) c8)
  have rp8 := row_below N8 (row_below b7 rp4)
  have rh8 := row_below N8 (row_below b7 rh4)
  have b28 := b27.trans (N8.mono b27.size)
  have MQ : Hid (MethsAt (w7.alloc (.cells #[.slice (some ⟨g8, o8, none⟩) (ms.length + 1) c8] 25)) (.slice (some ⟨g8, o8, none⟩) (ms.length + 1) c8) (ms ++ [(0, 0, [])])) := (more_row hrow7 (fun i hi => (HV.out.2 i hi).below b27)).below N8
  clear hrow6 hrow7 hg6 hg7 hb6 hb7 mk7 A7 s7 n6 b6 b7 N8 rp4 rh4 d0 d1 d2 d3 d4 dp hgq hgq' hg8 hg8' lp4 HV
  generalize w7.alloc (.cells #[.slice (some ⟨g8, o8, none⟩) (ms.length + 1) c8] 25) = W8 at *
  generalize w7.heap.size = bq at *
  have hB8 := hB2.trans (b28.mono z2)
  obtain ⟨R, hR⟩ : ∃ R, runH ms 100 H = R := ⟨_, rfl⟩
  have HR1 : Hid (∀ W, Below W8.heap.size W8 W → Calls Tryz.prog 13 #[.agg #[.slice aV ms.length cV], .agg #[.slice ac H.calls.length kc, .int .i64 H.now, .int .i64 H.born, .slice aD H.said.length kD, .int .i64 H.code], .int .i64 100] W fun e w' => (∃ a1 k1 a2 k2, e = .returned (.tuple #[.agg #[.slice a1 R.calls.length k1, .int .i64 R.now, .int .i64 R.born, .slice a2 R.said.length k2, .int .i64 R.code], .bool true]) ∧ HeapAt w' (.slice a1 R.calls.length k1) (.slice a2 R.said.length k2) R) ∧ Below W.heap.size W w') := fun W hW => by
    have q := implHeapRun_any (.slice aV ms.length cV) (.slice ac H.calls.length kc) (.slice aD H.said.length kD) ms H 100 W ((HMH.out.1.below b28).below hW) ((HMH.out.2.2.below b28).below hW) ((HMH.out.2.1.below b28).below hW) (by omega) (by omega)
    have e1 : (heapOk ms H && inR 100 0 400) = true := by rw [good_iff.2 HG.out]; rfl
    have e2 : hRun ms H 100 = R := by unfold hRun; rw [if_pos e1]; exact hR
    rw [e1, e2] at q
    refine q.mono ?_
    rintro e w' ⟨⟨vc', vs', V', rfl, ho⟩, hb⟩
    obtain ⟨a1, k1, hv1⟩ := ho.at.c.shape
    obtain ⟨a2, k2, hv2⟩ := ho.at.s.shape
    subst hv1 hv2
    exact ⟨⟨a1, k1, a2, k2, rfl, ho.at⟩, hb⟩
  have gM : Good (ms ++ [(0, 0, [])]) H := HG.out.more (by omega)
  have HR2 : Hid (∀ W, Below W8.heap.size W8 W → Calls Tryz.prog 13 #[.agg #[.slice (some ⟨g8, o8, none⟩) (ms.length + 1) c8], .agg #[.slice ac H.calls.length kc, .int .i64 H.now, .int .i64 H.born, .slice aD H.said.length kD, .int .i64 H.code], .int .i64 100] W fun e w' => (∃ a1 k1 a2 k2, e = .returned (.tuple #[.agg #[.slice a1 R.calls.length k1, .int .i64 R.now, .int .i64 R.born, .slice a2 R.said.length k2, .int .i64 R.code], .bool true]) ∧ HeapAt w' (.slice a1 R.calls.length k1) (.slice a2 R.said.length k2) R) ∧ Below W.heap.size W w') := fun W hW => by
    have q := implHeapRun_any (.slice (some ⟨g8, o8, none⟩) (ms.length + 1) c8) (.slice ac H.calls.length kc) (.slice aD H.said.length kD) (ms ++ [(0, 0, [])]) H 100 W (MQ.out.below hW) ((HMH.out.2.2.below b28).below hW) ((HMH.out.2.1.below b28).below hW) (by omega) (by omega)
    have e1 : (heapOk (ms ++ [(0, 0, [])]) H && inR 100 0 400) = true := by rw [good_iff.2 gM]; rfl
    have e2 : hRun (ms ++ [(0, 0, [])]) H 100 = R := by unfold hRun; rw [if_pos e1]; exact (run_more (0, 0, []) 100 HG.out).trans hR
    rw [e1, e2] at q
    refine q.mono ?_
    rintro e w' ⟨⟨vc', vs', V', rfl, ho⟩, hb⟩
    obtain ⟨a1, k1, hv1⟩ := ho.at.c.shape
    obtain ⟨a2, k2, hv2⟩ := ho.at.s.shape
    subst hv1 hv2
    exact ⟨⟨a1, k1, a2, k2, rfl, ho.at⟩, hb⟩
  have HQ : Hid (∀ W, Below W8.heap.size W8 W → Calls Tryz.prog 11 #[.agg #[.slice (some ⟨g8, o8, none⟩) (ms.length + 1) c8], .agg #[.slice ac H.calls.length kc, .int .i64 H.now, .int .i64 H.born, .slice aD H.said.length kD, .int .i64 H.code]] W fun e w' => e = .returned (.bool true) ∧ Below W.heap.size W w') := fun W hW => by
    have q := implHeapOk_any (.slice (some ⟨g8, o8, none⟩) (ms.length + 1) c8) (.slice ac H.calls.length kc) (.slice aD H.said.length kD) (ms ++ [(0, 0, [])]) H W (MQ.out.below hW) ((HMH.out.2.1.below b28).below hW) (by omega)
    rw [good_iff.2 gM] at q
    exact q
  clear hR gM HG HI HMH MQ HOE HOKM hB4 b4 b27 hB2
  obtain ⟨⟨d0, d1, d2, d3, d4⟩, _⟩ := five_cells rh8
  have dp := rp8.cell (i := 0) (by decide)
  have HC8 := HR1.out W8 (Below.refl _ _)
  go_wp2_with fail
  refine HC8.mono ?_
  rintro e w9 ⟨⟨a9, k9, b9, l9, rfl, hO9⟩, hb9⟩
  have z9 := hb9.size
  have rq9 := row_below hb9 rq8
  have rh9 := row_below hb9 rh8
  clear HC8 HR1 d0 d1 d2 d3 d4 dp rp8 rh8 rq8
  go_upto_region 9 with fail
  have N10 : Below w9.heap.size w9 (w9.alloc (.cells #[.slice a9 R.calls.length k9, .int .i64 R.now, .int .i64 R.born, .slice b9 R.said.length l9, .int .i64 R.code] 29)) := (Below.refl _ _).alloc (Nat.le_refl _) _
  have rx10 := five_new w9 29 (.slice a9 R.calls.length k9) (.int .i64 R.now) (.int .i64 R.born) (.slice b9 R.said.length l9) (.int .i64 R.code)
  have rq10 := row_below N10 rq9
  have rh10 := row_below N10 rh9
  have b10 := hb9.trans (N10.mono z9)
  have HX10 : Hid (HeapAt (w9.alloc (.cells #[.slice a9 R.calls.length k9, .int .i64 R.now, .int .i64 R.born, .slice b9 R.said.length l9, .int .i64 R.code] 29)) (.slice a9 R.calls.length k9) (.slice b9 R.said.length l9) R) := hO9.below N10
  clear hO9 rq9 rh9 N10 hb9
  generalize w9.alloc (.cells #[.slice a9 R.calls.length k9, .int .i64 R.now, .int .i64 R.born, .slice b9 R.said.length l9, .int .i64 R.code] 29) = W10 at *
  generalize w9.heap.size = bx at *
  have z10 := b10.size
  obtain ⟨⟨d0, d1, d2, d3, d4⟩, _⟩ := five_cells rh10
  have dq := rq10.cell (i := 0) (by decide)
  have HC10 := HR2.out W10 b10
  go_wp2_with fail
  refine HC10.mono ?_
  rintro e w11 ⟨⟨a11, k11, b11, l11, rfl, hO11⟩, hb11⟩
  have z11 := hb11.size
  have rq11 := row_below hb11 rq10
  have rh11 := row_below hb11 rh10
  have rx11 := row_below hb11 rx10
  clear HC10 HR2 d0 d1 d2 d3 d4 dq rq10 rh10 rx10
  go_upto_region 10 with fail
  have N12 : Below w11.heap.size w11 (w11.alloc (.cells #[.slice a11 R.calls.length k11, .int .i64 R.now, .int .i64 R.born, .slice b11 R.said.length l11, .int .i64 R.code] 29)) := (Below.refl _ _).alloc (Nat.le_refl _) _
  have ry12 := five_new w11 29 (.slice a11 R.calls.length k11) (.int .i64 R.now) (.int .i64 R.born) (.slice b11 R.said.length l11) (.int .i64 R.code)
  have rq12 := row_below N12 rq11
  have rh12 := row_below N12 rh11
  have rx12 := row_below N12 rx11
  have c12 := hb11.trans (N12.mono z11)
  have b12 := b10.trans (c12.mono z10)
  have HX12 : Hid (HeapAt (w11.alloc (.cells #[.slice a11 R.calls.length k11, .int .i64 R.now, .int .i64 R.born, .slice b11 R.said.length l11, .int .i64 R.code] 29)) (.slice a9 R.calls.length k9) (.slice b9 R.said.length l9) R ∧ HeapAt (w11.alloc (.cells #[.slice a11 R.calls.length k11, .int .i64 R.now, .int .i64 R.born, .slice b11 R.said.length l11, .int .i64 R.code] 29)) (.slice a11 R.calls.length k11) (.slice b11 R.said.length l11) R) := ⟨HX10.out.below c12, hO11.below N12⟩
  clear hO11 rq11 rh11 rx11 N12 hb11 HX10 c12
  generalize w11.alloc (.cells #[.slice a11 R.calls.length k11, .int .i64 R.now, .int .i64 R.born, .slice b11 R.said.length l11, .int .i64 R.code] 29) = W12 at *
  generalize w11.heap.size = by12 at *
  have hB12 := hB8.trans (b12.mono hB8.size)
  obtain ⟨⟨d0, d1, d2, d3, d4⟩, _⟩ := five_cells rh12
  have dq := rq12.cell (i := 0) (by decide)
  have HC12 := HQ.out W12 b12
  go_wp2_with fail
  refine HC12.mono ?_
  rintro e w13 ⟨rfl, hb13⟩
  obtain ⟨⟨x0, x1, x2, x3, x4⟩, _⟩ := five_cells (row_below hb13 rx12)
  obtain ⟨⟨y0, y1, y2, y3, y4⟩, _⟩ := five_cells (row_below hb13 ry12)
  have HLM := lmHeap_same R _ _ _ _ w13 (HX12.out.1.below hb13) (HX12.out.2.below hb13)
  unfold hpCells at HLM
  have hB13 := hB12.trans (hb13.mono hB12.size)
  clear HC12 HQ d0 d1 d2 d3 d4 dq
  go_wp2_with fail
  refine HLM.mono ?_
  rintro e w14 ⟨rfl, hb14⟩
  go_wp2
  go_ret
  exact ⟨ret_bool (by first | rfl | simp), hB13.trans (hb14.mono hB13.size)⟩
end Go.Proofs.YtfpodljalccpnaaGreatDoor
