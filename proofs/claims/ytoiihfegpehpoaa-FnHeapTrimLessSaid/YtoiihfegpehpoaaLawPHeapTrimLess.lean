/-
  The law FnHeapTrimLess, walked: whatever bytes come in, it answers true and writes to nothing that was there.
-/
import Derived.Test.YtoiihfegpehpoaaDrawHeapOk
import Derived.Test.YtoiihfegpehpoaaTrimX
import Derived.Test.YtoiihfegpehpoaaTrim3
import Derived.Test.YtoiihfegpehpoaaTrimPlain
import Derived.Test.YtoiihfegpehpoaaHSame
import Derived.Test.YtoiihfegpehpoaaHWait
import Derived.Test.YtoiihfegpehpoaaViewAgain
import Derived.Deep.RegionHeld3

namespace Go.Proofs.Ytoiihfegpehpoaa
open Go.RowKit
theorem fine_small {h : Hp} (f : HpFine h) : h.small := by
  have h1 := f.l30
  have h2 := f.sd
  refine ⟨by omega, fun i hi => ?_, by omega⟩
  have := f.ts _ (List.getElem_mem hi)
  exact ⟨by omega, by omega⟩
theorem dead_alive : ∀ l : List Cl, (l.filter fun c => c.dead).length + (l.filter fun c => !c.dead).length = l.length
  | [] => rfl
  | c :: l => by
    have := dead_alive l
    cases hd : c.dead <;> simp [hd] <;> omega
set_option maxRecDepth 100000 in
set_option maxHeartbeats 4000000 in
theorem lawHeapTrimLess_any (w : World) (a : Option Addr) (len cap : Nat) (h : BytesAt w a len cap) :
    Calls Try.prog 4 #[.slice a len cap] w fun e w' => e = .returned (.bool true) ∧ Below w.heap.size w w' := by
  have hc := h.1
  have hm := h.2.1
  unfold maxLen at hm
  have HB : Hid (BytesAt w a len cap) := h
  clear h
  by_cases hl : 1048576 < len
  · have hlz : (1048576 : Int) < (len : Int) := by omega
    go_enter Try.func4, Try.ntmps4
    go_wp2
    go_ret
    exact ⟨rfl, Below.refl _ _⟩
  have hlz : (len : Int) ≤ 1048576 := by omega
  go_enter Try.func4, Try.ntmps4
  go_wp2_with fail
  refine (drawHeapTrim_any _ a len cap HB.out).mono ?_
  rintro e w1 ⟨v, vc, vs, ms, H, rfl, hD, hB1⟩
  obtain ⟨hM1, hH1⟩ := hD.st.here
  have l30 := hD.fine.l30
  have sd100 := hD.fine.sd
  have hsm : H.small := fine_small hD.fine
  have HDE : Hid (deepOf H.calls H.now = (chainOf H.calls H.now).length) := hD.fine.deep
  clear hD
  obtain ⟨aV, cV, hvV, _⟩ := id hM1
  obtain ⟨ac, kc, hvc⟩ := hH1.c.shape
  obtain ⟨aD, kD, hvs⟩ := hH1.s.shape
  subst hvV hvc hvs
  have z1 := hB1.size
  clear HB
  unfold hpCells
  go_upto_region 4 with fail
  have N2 : Below w1.heap.size w1 ((w1.alloc (.cells #[.slice aV ms.length cV] 25)).alloc (.cells #[.slice ac H.calls.length kc, .int .i64 H.now, .int .i64 H.born, .slice aD H.said.length kD, .int .i64 H.code] 29)) := ((Below.refl _ _).alloc (Nat.le_refl _) _).alloc (by simp) _
  have rp := (pbox_new w1 (.slice aV ms.length cV)).alloc (.cells #[.slice ac H.calls.length kc, .int .i64 H.now, .int .i64 H.born, .slice aD H.said.length kD, .int .i64 H.code] 29)
  have rh := five_new (w1.alloc (.cells #[.slice aV ms.length cV] 25)) 29 (.slice ac H.calls.length kc) (.int .i64 H.now) (.int .i64 H.born) (.slice aD H.said.length kD) (.int .i64 H.code)
  simp only [World.size_alloc] at rh
  generalize (w1.alloc (.cells #[.slice aV ms.length cV] 25)).alloc (.cells #[.slice ac H.calls.length kc, .int .i64 H.now, .int .i64 H.born, .slice aD H.said.length kD, .int .i64 H.code] 29) = W2 at *
  have hB2 := hB1.trans (N2.mono z1)
  have z2 := hB2.size
  have HMH : Hid (MethsAt W2 (.slice aV ms.length cV) ms ∧ HeapAt W2 (.slice ac H.calls.length kc) (.slice aD H.said.length kD) H) := ⟨hM1.below N2, hH1.below N2⟩
  clear hM1 hH1 hB1 N2
  have HSP : Calls Try.prog 6 #[.agg #[.slice aV ms.length cV], .agg #[.slice ac H.calls.length kc, .int .i64 H.now, .int .i64 H.born, .slice aD H.said.length kD, .int .i64 H.code]] W2 fun e w' => (∃ a1 k1 a2 k2, e = .returned (.tuple #[.agg #[.slice a1 (trimH ms H).calls.length k1, .int .i64 (trimH ms H).now, .int .i64 (trimH ms H).born, .slice a2 (trimH ms H).said.length k2, .int .i64 (trimH ms H).code], .bool (heapOk ms H)]) ∧ HeapAt w' (.slice a1 (trimH ms H).calls.length k1) (.slice a2 (trimH ms H).said.length k2) (trimH ms H)) ∧ Below W2.heap.size W2 w' := by
    refine (specHeapTrim_x (.slice aV ms.length cV) (.slice ac H.calls.length kc) (.slice aD H.said.length kD) ms H W2 HMH.out.1 HMH.out.2 hsm).mono ?_
    rintro e w' ⟨hb, a1, k1, a2, k2, rfl, ho⟩
    exact ⟨⟨a1, k1, a2, k2, rfl, ho w' (Nat.le_refl _) (fun _ _ _ => rfl)⟩, hb⟩
  have HIM : Hid (∀ W, Below W2.heap.size W2 W → Calls Try.prog 7 #[.agg #[.slice aV ms.length cV], .agg #[.slice ac H.calls.length kc, .int .i64 H.now, .int .i64 H.born, .slice aD H.said.length kD, .int .i64 H.code]] W fun e w' => (∃ a1 k1 a2 k2, e = .returned (.tuple #[.agg #[.slice a1 (trimH ms H).calls.length k1, .int .i64 (trimH ms H).now, .int .i64 (trimH ms H).born, .slice a2 (trimH ms H).said.length k2, .int .i64 (trimH ms H).code], .bool (heapOk ms H)]) ∧ HeapAt w' (.slice a1 (trimH ms H).calls.length k1) (.slice a2 (trimH ms H).said.length k2) (trimH ms H)) ∧ Below W.heap.size W w') := fun W hW => by
    refine (implHeapTrim_any (.slice aV ms.length cV) (.slice ac H.calls.length kc) (.slice aD H.said.length kD) ms H W (HMH.out.1.below hW) (HMH.out.2.below hW) hsm).mono ?_
    rintro e w' ⟨hb, vc', vs', V', rfl, ho⟩
    obtain ⟨a1, k1, hv1⟩ := ho.at.c.shape
    obtain ⟨a2, k2, hv2⟩ := ho.at.s.shape
    subst hv1 hv2
    exact ⟨⟨a1, k1, a2, k2, rfl, ho.at⟩, hb⟩
  have HPL : Hid (heapOk ms H = true → Good ms H ∧ trimH ms H = ⟨viewL H, numOf (found H) H.now, H.born, H.said, H.code⟩) := fun e => ⟨good_iff.1 e, trim_eq (good_iff.1 e)⟩
  generalize trimH ms H = R at *
  generalize heapOk ms H = ok at *
  obtain ⟨⟨d0, d1, d2, d3, d4⟩, _⟩ := five_cells rh
  have dp := rp.cell (i := 0) (by decide)
  go_wp2_with fail
  refine HSP.mono ?_
  rintro e w3 ⟨⟨a3, k3, b3, l3, rfl, hO3⟩, hb3⟩
  have z3 := hb3.size
  have rp3 := row_below hb3 rp
  have rh3 := row_below hb3 rh
  clear HSP d0 d1 d2 d3 d4 dp rp rh
  go_upto_region 5 with fail
  have N4 : Below w3.heap.size w3 (w3.alloc (.cells #[.slice a3 R.calls.length k3, .int .i64 R.now, .int .i64 R.born, .slice b3 R.said.length l3, .int .i64 R.code] 29)) := (Below.refl _ _).alloc (Nat.le_refl _) _
  have rw4 := five_new w3 29 (.slice a3 R.calls.length k3) (.int .i64 R.now) (.int .i64 R.born) (.slice b3 R.said.length l3) (.int .i64 R.code)
  have rp4 := row_below N4 rp3
  have rh4 := row_below N4 rh3
  have b4 := hb3.trans (N4.mono z3)
  have H3 : Hid (HeapAt (w3.alloc (.cells #[.slice a3 R.calls.length k3, .int .i64 R.now, .int .i64 R.born, .slice b3 R.said.length l3, .int .i64 R.code] 29)) (.slice a3 R.calls.length k3) (.slice b3 R.said.length l3) R) := hO3.below N4
  clear hO3 rp3 rh3 N4
  generalize w3.alloc (.cells #[.slice a3 R.calls.length k3, .int .i64 R.now, .int .i64 R.born, .slice b3 R.said.length l3, .int .i64 R.code] 29) = W4 at *
  generalize w3.heap.size = bw at *
  have z4 := b4.size
  obtain ⟨⟨d0, d1, d2, d3, d4⟩, _⟩ := five_cells rh4
  have dp := rp4.cell (i := 0) (by decide)
  have HI4 := HIM.out W4 b4
  go_wp2_with fail
  refine HI4.mono ?_
  rintro e w5 ⟨⟨a5, k5, b5, l5, rfl, hO5⟩, hb5⟩
  have z5 := hb5.size
  have rp5 := row_below hb5 rp4
  have rh5 := row_below hb5 rh4
  have rw5 := row_below hb5 rw4
  clear HI4 d0 d1 d2 d3 d4 dp rp4 rh4 rw4
  go_upto_region 6 with fail
  have N6 : Below w5.heap.size w5 (w5.alloc (.cells #[.slice a5 R.calls.length k5, .int .i64 R.now, .int .i64 R.born, .slice b5 R.said.length l5, .int .i64 R.code] 29)) := (Below.refl _ _).alloc (Nat.le_refl _) _
  have rx6 := five_new w5 29 (.slice a5 R.calls.length k5) (.int .i64 R.now) (.int .i64 R.born) (.slice b5 R.said.length l5) (.int .i64 R.code)
  have rp6 := row_below N6 rp5
  have rh6 := row_below N6 rh5
  have rw6 := row_below N6 rw5
  have b6 : Below W2.heap.size W2 (w5.alloc (.cells #[.slice a5 R.calls.length k5, .int .i64 R.now, .int .i64 R.born, .slice b5 R.said.length l5, .int .i64 R.code] 29)) := (b4.trans (hb5.mono (by omega))).trans (N6.mono (by omega))
  have H5 : Hid (HeapAt (w5.alloc (.cells #[.slice a5 R.calls.length k5, .int .i64 R.now, .int .i64 R.born, .slice b5 R.said.length l5, .int .i64 R.code] 29)) (.slice a5 R.calls.length k5) (.slice b5 R.said.length l5) R ∧ HeapAt (w5.alloc (.cells #[.slice a5 R.calls.length k5, .int .i64 R.now, .int .i64 R.born, .slice b5 R.said.length l5, .int .i64 R.code] 29)) (.slice a3 R.calls.length k3) (.slice b3 R.said.length l3) R) := ⟨hO5.below N6, (H3.out.below hb5).below N6⟩
  clear hO5 rp5 rh5 rw5 N6 H3
  generalize w5.alloc (.cells #[.slice a5 R.calls.length k5, .int .i64 R.now, .int .i64 R.born, .slice b5 R.said.length l5, .int .i64 R.code] 29) = W6 at *
  generalize w5.heap.size = bx at *
  have hB6 := hB2.trans (b6.mono z2)
  have z6 := hB6.size
  obtain ⟨⟨x0, x1, x2, x3, x4⟩, _⟩ := five_cells rx6
  obtain ⟨⟨y0, y1, y2, y3, y4⟩, _⟩ := five_cells rw6
  obtain ⟨⟨d0, d1, d2, d3, d4⟩, _⟩ := five_cells rh6
  have dp := rp6.cell (i := 0) (by decide)
  have HLM : Hid (∀ W, Below W6.heap.size W6 W → Calls Try.prog 8 #[.agg #[.slice a5 R.calls.length k5, .int .i64 R.now, .int .i64 R.born, .slice b5 R.said.length l5, .int .i64 R.code], .agg #[.slice a3 R.calls.length k3, .int .i64 R.now, .int .i64 R.born, .slice b3 R.said.length l3, .int .i64 R.code]] W fun e w' => e = .returned (.bool true) ∧ Below W.heap.size W w') := fun W hW => lmHeap_same R _ _ _ _ W (H5.out.1.below hW) (H5.out.2.below hW)
  cases ok
  · go_wp2_with fail
    refine (HLM.out W6 (Below.refl _ _)).mono ?_
    rintro e w7 ⟨rfl, hb7⟩
    obtain ⟨⟨q0, q1, q2, q3, q4⟩, _⟩ := five_cells (row_below hb7 rx6)
    obtain ⟨⟨p0, p1, p2, p3, p4⟩, _⟩ := five_cells (row_below hb7 rw6)
    clear x0 x1 x2 x3 x4 y0 y1 y2 y3 y4 d0 d1 d2 d3 d4 dp
    go_wp2_with fail
    refine (HLM.out w7 hb7).mono ?_
    rintro e w8 ⟨rfl, hb8⟩
    have z7 := hb7.size
    go_wp2
    go_ret
    exact ⟨rfl, (hB6.trans (hb7.mono z6)).trans (hb8.mono (by omega))⟩
  obtain ⟨gH, hRe⟩ := HPL.out rfl
  subst hRe
  dsimp only at *
  have HGH : Hid (Good ms H) := gH
  have hvl : (viewL H).length ≤ H.calls.length := by rw [viewL_len]; exact (found_ok H).len
  have HAL : Hid (((viewL H).filter fun c => !c.dead).length = (chainOf H.calls H.now).length) := alive_view gH
  clear gH HPL
  go_upto_region 8 with (go_at_call 8; refine (HLM.out W6 (Below.refl _ _)).mono ?_; rintro e w7 ⟨rfl, hb7⟩)
  have z7 := hb7.size
  have hB7 := hB6.trans (hb7.mono z6)
  have rx7 := row_below hb7 rx6
  have rh7 := row_below hb7 rh6
  have b7 := b6.trans (hb7.mono b6.size)
  have HX7 : Hid (HeapAt w7 (.slice a5 (viewL H).length k5) (.slice b5 H.said.length l5) ⟨viewL H, numOf (found H) H.now, H.born, H.said, H.code⟩ ∧ HeapAt w7 (.slice ac H.calls.length kc) (.slice aD H.said.length kD) H) := ⟨H5.out.1.below hb7, HMH.out.2.below b7⟩
  clear x0 x1 x2 x3 x4 y0 y1 y2 y3 y4 d0 d1 d2 d3 d4 dp HLM rx6 rw6 rh6 rp6 hb5 hb3 HIM H5
  obtain ⟨⟨x0, x1, x2, x3, x4⟩, _⟩ := five_cells rx7
  obtain ⟨⟨d0, d1, d2, d3, d4⟩, _⟩ := five_cells rh7
  have HCL : Hid (∀ k, (hk : k < (viewL H).length) → ∃ b o, a5 = some ⟨b, o, none⟩ ∧ w7.cell? ⟨b, o + k * 6 + 5, none⟩ = some (.bool (viewL H)[k].dead)) := fun k hk => by
    obtain ⟨a', c', e, _, hcl⟩ := HX7.out.1.c
    obtain ⟨b, o, vt, vs, rfl, hc⟩ := hcl k hk
    injection e with e _ _
    exact ⟨b, o, e, hc.c5⟩
  have HCT : Hid (((viewL H).filter fun c => c.dead).length + (chainOf H.calls H.now).length = (viewL H).length) := by
    show _ = _
    rw [← HAL.out]
    exact dead_alive (viewL H)
  generalize viewL H = VL at *
  have hn30 : VL.length ≤ 30 := by omega
  go_wp2_with fail
  go_loopg [9, 10] VL.length (fun g dv i wr => ∃ k : Nat, k ≤ VL.length ∧ g = VL.length - k ∧ i = .int .i64 (k : Int) ∧ dv = .int .i64 (((VL.take k).filter fun c => c.dead).length : Int) ∧ wr = w7)
  case atStart => exact ⟨0, Nat.zero_le _, rfl, rfl, by simp, rfl⟩
  case round =>
    obtain ⟨k, hk, rfl, rfl, rfl, hwr⟩ := hrel
    obtain rfl := hwr.symm
    obtain ⟨nd, hnd⟩ : ∃ nd, ((VL.take k).filter fun c => c.dead).length = nd := ⟨_, rfl⟩
    have HND : Hid (((VL.take k).filter fun c => c.dead).length = nd) := hnd
    have hdk : nd ≤ 30 := by
      have q : ((VL.take k).filter fun c => c.dead).length ≤ (VL.take k).length := List.length_filter_le _ _
      rw [List.length_take] at q
      omega
    rw [hnd]
    clear hnd
    by_cases hlt : k < VL.length
    · obtain ⟨b, o, rfl, ck⟩ := HCL.out k hlt
      have hkz : (k : Int) < (VL.length : Int) := by omega
      have HTK : Hid (((VL.take (k + 1)).filter fun c => c.dead).length = ((VL.take k).filter fun c => c.dead).length + (if VL[k].dead then 1 else 0)) := by
        show _ = _
        rw [← List.take_append_getElem hlt, List.filter_append, List.length_append]
        cases hd : VL[k].dead <;> simp [hd]
      rw [HND.out] at HTK
      cases hd : VL[k].dead
      · rw [hd] at ck HTK
        go_wp2
        go_roundg (VL.length - (k + 1))
        case measure => omega
        case rel => exact ⟨k + 1, by omega, rfl, by go_num, by rw [HTK.out]; simp, rfl⟩
      · rw [hd] at ck HTK
        go_wp2
        go_roundg (VL.length - (k + 1))
        case measure => omega
        case rel => exact ⟨k + 1, by omega, rfl, by go_num, by rw [HTK.out]; go_num, rfl⟩
    obtain rfl : k = VL.length := by omega
    have hnd := HND.out
    rw [List.take_length] at hnd
    obtain ⟨al, hal⟩ : ∃ al, (chainOf H.calls H.now).length = al := ⟨_, rfl⟩
    have hct := HCT.out
    rw [hnd, hal] at hct
    have HDP : Hid (∀ W, Below w7.heap.size w7 W → Calls Try.prog 12 #[.agg #[.slice ac H.calls.length kc, .int .i64 H.now, .int .i64 H.born, .slice aD H.said.length kD, .int .i64 H.code]] W fun e w' => e = .returned (.int .i64 (al : Int)) ∧ Below W.heap.size W w') := fun W hW => by
      have q := implHeapDeep_any (.slice ac H.calls.length kc) (.slice aD H.said.length kD) H W (HX7.out.2.below hW) (by omega)
      rw [HDE.out, hal] at q
      exact q
    have HLV : Hid (∀ W, Below w7.heap.size w7 W → Calls Try.prog 13 #[.slice b5 H.said.length l5, .slice aD H.said.length kD] W fun e w' => e = .returned (.bool true) ∧ Below W.heap.size W w') := fun W hW => lmVals_same _ _ H.said W (HX7.out.1.s.below hW) (HX7.out.2.s.below hW)
    have hw : IntKind.i64.wrap ((VL.length : Int) - (nd : Int)) = (al : Int) := by rw [IntKind.wrap_i64]; omega
    have hle : (VL.length : Int) ≤ (H.calls.length : Int) := by omega
    have hkz : ¬ ((VL.length : Int) < (VL.length : Int)) := by omega
    have b7d : Below w7.heap.size w7 w7.drew := (Below.refl _ _).drew
    clear hnd hal hct hdk HCL HCT
    have KC : ∀ W, Below w7.heap.size w7 W → (W.cell? ⟨bx, 0, none⟩ = some (.slice a5 VL.length k5) ∧ W.cell? ⟨bx, 2, none⟩ = some (.int .i64 H.born) ∧ W.cell? ⟨bx, 3, none⟩ = some (.slice b5 H.said.length l5) ∧ W.cell? ⟨bx, 4, none⟩ = some (.int .i64 H.code)) ∧ (W.cell? ⟨w1.heap.size + 1, 0, none⟩ = some (.slice ac H.calls.length kc) ∧ W.cell? ⟨w1.heap.size + 1, 1, none⟩ = some (.int .i64 H.now) ∧ W.cell? ⟨w1.heap.size + 1, 2, none⟩ = some (.int .i64 H.born) ∧ W.cell? ⟨w1.heap.size + 1, 3, none⟩ = some (.slice aD H.said.length kD) ∧ W.cell? ⟨w1.heap.size + 1, 4, none⟩ = some (.int .i64 H.code)) := fun W hW => ⟨⟨cell_below hW x0, cell_below hW x2, cell_below hW x3, cell_below hW x4⟩, cell_below hW d0, cell_below hW d1, cell_below hW d2, cell_below hW d3, cell_below hW d4⟩
    have HKC := KC
    clear KC
    go_wp2_with fail
    go_region_held3 (fun W => (W.cell? ⟨bx, 0, none⟩ = some (.slice a5 VL.length k5) ∧ W.cell? ⟨bx, 2, none⟩ = some (.int .i64 H.born) ∧ W.cell? ⟨bx, 3, none⟩ = some (.slice b5 H.said.length l5) ∧ W.cell? ⟨bx, 4, none⟩ = some (.int .i64 H.code)) ∧ (W.cell? ⟨w1.heap.size + 1, 0, none⟩ = some (.slice ac H.calls.length kc) ∧ W.cell? ⟨w1.heap.size + 1, 1, none⟩ = some (.int .i64 H.now) ∧ W.cell? ⟨w1.heap.size + 1, 2, none⟩ = some (.int .i64 H.born) ∧ W.cell? ⟨w1.heap.size + 1, 3, none⟩ = some (.slice aD H.said.length kD) ∧ W.cell? ⟨w1.heap.size + 1, 4, none⟩ = some (.int .i64 H.code)))
      (first | with_reducible exact SB | with_reducible exact SA | go_keep)
      ((first
        | (have hh := hbA; clear hh; go_at_call 13; refine (HLV.out _ (b7d.trans (hbA.mono (Nat.le_refl _)))).mono ?_; rintro e wB ⟨rfl, hbB⟩; have SB := HKC wB ((b7d.trans (hbA.mono (Nat.le_refl _))).trans (hbB.mono hbA.size)))
        | (go_at_call 12; refine (HDP.out _ b7d).mono ?_; rintro e wA ⟨rfl, hbA⟩; have SA := HKC wA (b7d.trans (hbA.mono (Nat.le_refl _))))))
    have BB : Below w.heap.size w wB := hB7.trans (((b7d.trans (hbA.mono (Nat.le_refl _))).trans (hbB.mono hbA.size)).mono hB7.size)
    go_wp2
    go_ret
    exact ⟨ret_bool (by first | rfl | simp), BB⟩
end Go.Proofs.Ytoiihfegpehpoaa
