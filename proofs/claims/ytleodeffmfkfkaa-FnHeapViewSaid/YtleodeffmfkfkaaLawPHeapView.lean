/-
  The law FnHeapView, walked: whatever bytes come in, it answers true and writes to nothing that was there.
-/
import Derived.Test.YtleodeffmfkfkaaDrawHeapView
import Derived.Test.YtleodeffmfkfkaaViewAgain
import Derived.Test.YtleodeffmfkfkaaLmHeap
import Derived.Test.YtleodeffmfkfkaaVImpl5
namespace Go.Proofs.Ytleodeffmfkfkaa
open Go.RowKit

theorem HpFine.short {h : Hp} (f : HpFine h) : h.short := by
  have := f.l30
  exact ⟨by omega, fun i hi => by have := f.ts _ (List.getElem_mem hi); omega⟩

theorem view_short {h : Hp} (f : HpFine h) (b : Int) (s : List (Int × Int)) (c : Int) : (⟨viewL h, 0, b, s, c⟩ : Hp).short ∧ (viewL h).length ≤ h.calls.length := by
  have h1 := (found_ok h).len
  have h2 := viewL_len h
  have h3 := f.l30
  refine ⟨⟨show (viewL h).length ≤ 1000 by omega, fun i hi => ?_⟩, by omega⟩
  have hi' : i < (found h).length := by rw [← h2]; exact hi
  have hp : (found h)[i] < h.calls.length := (found_ok h).lt _ (List.getElem_mem hi')
  have := f.ts _ (List.getElem_mem hp)
  show (viewL h)[i].temps.length ≤ 1000 ∧ (viewL h)[i].stack.length ≤ 1000
  have e : (viewL h)[i] = viewC (found h) h.calls[(found h)[i]] := by unfold viewL; simp [hp]
  rw [e]
  simp only [viewC, List.length_map]
  omega

/-- what is seen first is the call that runs -/
theorem view_head {h : Hp} (hne : viewL h ≠ []) : ∃ (k : Nat) (hk : k < h.calls.length) (h0 : 0 < (viewL h).length), h.now = k ∧ (viewL h)[0] = viewC (found h) h.calls[k] := by
  have hf : found h ≠ [] := fun e => hne (by unfold viewL; rw [e]; rfl)
  obtain ⟨k, e1, e2, e3⟩ := found_first hf
  have hl : 0 < (found h).length := List.length_pos_iff.2 hf
  have e0 : (found h)[0] = k := by
    obtain ⟨t, ht⟩ := foundF_pre h.calls h.calls.length 0 [k]
    have : found h = [k] ++ t := by unfold found; rw [e3]; exact ht
    simp [this]
  refine ⟨k, e2, by rw [viewL_len]; exact hl, e1, ?_⟩
  unfold viewL
  simp [e0, e2]

set_option maxRecDepth 100000 in
set_option maxHeartbeats 4000000 in
theorem lawHeapView_any (w : World) (a : Option Addr) (len cap : Nat) (h : BytesAt w a len cap) :
    Calls Try.prog 5 #[.slice a len cap] w fun e w' => e = .returned (.bool true) ∧ Below w.heap.size w w' := by
  have hc := h.1
  have hm := h.2.1
  unfold maxLen at hm
  have HB : Hid (BytesAt w a len cap) := h
  clear h
  by_cases hl : 1048576 < len
  · have hlz : (1048576 : Int) < (len : Int) := by omega
    go_enter Try.func5, Try.ntmps5
    go_wp2
    go_ret
    exact ⟨rfl, Below.refl _ _⟩
  have hlz : (len : Int) ≤ 1048576 := by omega
  go_enter Try.func5, Try.ntmps5
  go_wp2_with fail
  refine (drawHeapView_any _ a len cap HB.out).mono ?_
  rintro e w1 ⟨vc, vs, H, rfl, hH1, hfi, hB1⟩
  obtain ⟨ac, kc, hvc⟩ := hH1.c.shape
  obtain ⟨aD, kD, hvs⟩ := hH1.s.shape
  subst hvc hvs
  have z1 := hB1.size
  have l30 := hfi.l30
  have HFI : Hid (HpFine H) := hfi
  clear HB hfi
  unfold hpCells
  go_upto_region 4 with fail
  have N2 : Below w1.heap.size w1 (w1.alloc (.cells #[.slice ac H.calls.length kc, .int .i64 H.now, .int .i64 H.born, .slice aD H.said.length kD, .int .i64 H.code] 29)) := (Below.refl _ _).alloc (Nat.le_refl _) _
  have rh := five_new w1 29 (.slice ac H.calls.length kc) (.int .i64 H.now) (.int .i64 H.born) (.slice aD H.said.length kD) (.int .i64 H.code)
  generalize w1.alloc (.cells #[.slice ac H.calls.length kc, .int .i64 H.now, .int .i64 H.born, .slice aD H.said.length kD, .int .i64 H.code] 29) = W2 at *
  have hH2 := hH1.below N2
  have hB2 := hB1.trans (N2.mono z1)
  have z2 := hB2.size
  clear hH1 hB1 N2
  have HS : Hid (∀ wx, Below W2.heap.size W2 wx → Calls Try.prog 20 #[.agg #[.slice ac H.calls.length kc, .int .i64 H.now, .int .i64 H.born, .slice aD H.said.length kD, .int .i64 H.code]] wx fun e w' => ∃ av kv, e = .returned (.slice av (viewL H).length kv) ∧ CallsAt w' (.slice av (viewL H).length kv) (viewL H) ∧ Below wx.heap.size wx w') := fun wx hb => by
    refine (specHeapView_any _ _ H wx (hH2.below hb) HFI.out.short fun i hi => (HFI.out.ts _ (List.getElem_mem hi)).2.2).mono ?_
    rintro e w' ⟨v, rfl, hv, hb'⟩
    have := hv.at
    obtain ⟨av, kv, hvv⟩ := this.shape
    subst hvv
    exact ⟨av, kv, rfl, this, hb'⟩
  have HI := implHeapView_any _ _ H W2 hH2 HFI.out.short l30
  unfold hpCells at HI
  have HV2 := (view_short HFI.out 0 [] 0)
  have HAG : Hid (viewL H ≠ [] → viewL ⟨viewL H, 0, 0, [], 0⟩ = viewL H) := fun hne => view_again (fun e => hne (by unfold viewL; rw [e]; rfl)) 0 [] 0
  have HHD : Hid (viewL H ≠ [] → ∃ (k : Nat) (hk : k < H.calls.length) (h0 : 0 < (viewL H).length), H.now = k ∧ (viewL H)[0] = viewC (found H) H.calls[k]) := fun hne => view_head hne
  obtain ⟨hsh2, hle2⟩ := HV2
  have HSH : Hid ((⟨viewL H, 0, 0, [], 0⟩ : Hp).short) := hsh2
  clear hsh2 HFI
  obtain ⟨VL, hVL⟩ : ∃ VL, viewL H = VL := ⟨_, rfl⟩
  rw [hVL] at HI HAG HHD HSH hle2 HS
  clear hVL
  obtain ⟨⟨d0, d1, d2, d3, d4⟩, _⟩ := five_cells rh
  go_wp2_with fail
  refine HI.mono ?_
  rintro e w3 ⟨⟨v3, V3, rfl, hO3⟩, hb3⟩
  have hA3 := hO3.at
  obtain ⟨a3, k3, hv3⟩ := hA3.shape
  subst hv3
  have rh3 := row_below hb3 rh
  have z3 := hb3.size
  clear d0 d1 d2 d3 d4 HI hO3
  obtain ⟨⟨d0, d1, d2, d3, d4⟩, _⟩ := five_cells rh3
  go_wp2_with fail
  refine (HS.out w3 hb3).mono ?_
  rintro e w4 ⟨a4, k4, rfl, hA4, hb4⟩
  have hA3' := hA3.below hb4
  have b4 := hb3.trans (hb4.mono z3)
  go_wp2_with fail
  refine (lmCalls_same _ _ VL _ hA3' hA4).mono ?_
  rintro e w5 ⟨rfl, hb5⟩
  have b5 := b4.trans (hb5.mono b4.size)
  have hA5 := hA3'.below hb5
  have rh5 := row_below hb5 (row_below hb4 rh3)
  have hB5 := hB2.trans (b5.mono z2)
  have z5 := hb5.size
  have z5' := hB5.size
  clear hA3 hA3' hA4 hb3 hb4 hb5 b4 rh3 d0 d1 d2 d3 d4
  obtain ⟨⟨d0, d1, d2, d3, d4⟩, _⟩ := five_cells rh5
  by_cases hne : VL = []
  · subst hne
    go_wp2_with fail
    refine (HS.out w5 b5).mono ?_
    rintro e w6 ⟨a6, k6, rfl, hA6, hb6⟩
    have hA5' := hA5.below hb6
    go_wp2_with fail
    refine (lmCalls_same _ _ [] _ hA5' hA6).mono ?_
    rintro e w7 ⟨rfl, hb7⟩
    go_wp2
    go_ret
    exact ⟨rfl, (hB5.trans (hb6.mono hB5.size)).trans (hb7.mono (hB5.trans (hb6.mono hB5.size)).size)⟩
  · have hpos : 0 < VL.length := List.length_pos_iff.2 hne
    have hpz : ((VL.length : Int) == 0) = false := beq_eq_false_iff_ne.2 (by omega)
    obtain ⟨k, hk, h0, hnow, hhead⟩ := HHD.out hne
    have HAG' : Hid (viewL ⟨VL, 0, 0, [], 0⟩ = VL) := HAG.out hne
    have HI2 := implHeapView_any (.slice a3 VL.length k3) (.slice none 0 0) ⟨VL, 0, 0, [], 0⟩ w5 ⟨hA5, none, 0, rfl, Nat.zero_le _, fun _ hi => absurd hi (Nat.not_lt_zero _)⟩ HSH.out (show VL.length ≤ 30 by omega)
    unfold hpCells at HI2
    simp only [] at HI2
    rw [HAG'.out] at HI2
    clear HAG HHD HSH HS HAG'
    have hH5 := hH2.below b5
    clear hH2
    go_wp2_with fail
    refine HI2.mono ?_
    rintro e w7 ⟨⟨v7, V7, rfl, hO7⟩, hb7⟩
    have hA7 := hO7.at
    obtain ⟨a7, k7, hv7⟩ := hA7.shape
    subst hv7
    have hV7 := hA5.below hb7
    have hC7 := (hH5.below hb7).c
    have rh7 := row_below hb7 rh5
    have hB7 := hB5.trans (hb7.mono z5')
    have z7 := hB7.size
    clear HI2 hO7 hA5 hH5 rh5 d0 d1 d2 d3 d4 hB5
    have hkz : (k : Int) < (H.calls.length : Int) := by omega
    have hpz' : (0 : Int) < (VL.length : Int) := by omega
    have hlez : (VL.length : Int) ≤ (H.calls.length : Int) := by omega
    have CEL : Hid (∀ wx, Below w7.heap.size w7 wx → ∃ b o b' o', a3 = some ⟨b, o, none⟩ ∧ ac = some ⟨b', o', none⟩ ∧ wx.cell? ⟨b, o, none⟩ = some (.int .i64 H.calls[k].m) ∧ wx.cell? ⟨b', o' + k * 6, none⟩ = some (.int .i64 H.calls[k].m) ∧ wx.cell? ⟨w1.heap.size, 0, none⟩ = some (.slice ac H.calls.length kc) ∧ wx.cell? ⟨w1.heap.size, 1, none⟩ = some (.int .i64 (k : Int))) := fun wx hb => by
      obtain ⟨b, o, vt, vs', e1, c1⟩ := (hV7.below hb).cl hpos
      obtain ⟨b', o', vt', vs'', e2, c2⟩ := (hC7.below hb).cl hk
      obtain ⟨⟨q0, q1, _⟩, _⟩ := five_cells (row_below hb rh7)
      rw [hnow] at q1
      have c10 := c1.c0
      rw [hhead, Nat.zero_mul, Nat.add_zero] at c10
      exact ⟨b, o, b', o', e1, e2, c10, c2.c0, q0, q1⟩
    obtain ⟨b, o, b', o', rfl, rfl, x0, x1, x2, x3⟩ := CEL.out w7 (Below.refl _ _)
    have hV7d : CallsAt w7.drew (.slice (some ⟨b, o, none⟩) VL.length k3) VL := hV7.below ((Below.refl _ _).drew)
    have hA7d : CallsAt w7.drew (.slice a7 VL.length k7) VL := hA7.below ((Below.refl _ _).drew)
    go_wp2_with fail
    go_region_law (go_simp; go_at_call 17; refine (lmCalls_same _ _ VL _ hA7d hV7d).mono ?_; rintro e w8 ⟨rfl, hb8⟩; obtain ⟨_, _, _, _, e1, e2, y0, y1, y2, y3⟩ := CEL.out w8 ((Below.refl _ _).drew.trans hb8); cases e1; cases e2)
    all_goals
      have hB9 : Below w.heap.size w w8 := hB7.drew.trans (hb8.mono (by simp; omega))
      clear y0 y1 y2 y3 x0 x1 x2 x3
      go_wp2
      go_ret
      exact ⟨rfl, hB9⟩

end Go.Proofs.Ytleodeffmfkfkaa
