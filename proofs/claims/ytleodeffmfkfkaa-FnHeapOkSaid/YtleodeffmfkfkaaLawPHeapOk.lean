/-
  The law FnHeapOk, walked: whatever bytes come in, it answers true and writes to nothing that was there.
-/
import Derived.Test.YtleodeffmfkfkaaDrawHeapView
namespace Go.Proofs.Ytleodeffmfkfkaa
open Go.RowKit

/-- what heapOk says of how many wait, and of how many there are -/
theorem heapOk_says {ms : List (Int × Int × List (Int × Int))} {h : Hp} (e : heapOk ms h = true) : deepOf h.calls h.now = liveN h.calls ∧ (h.calls.length : Int) ≤ h.born := by
  simp only [heapOk, headOk, endOk, Bool.and_eq_true, List.all_eq_true, decide_eq_true_eq, beq_iff_eq] at e
  obtain ⟨⟨⟨⟨⟨⟨⟨⟨_, hnow⟩, _⟩, hle⟩, _⟩, _⟩, _⟩, hcl⟩, ⟨_, hch⟩, _⟩ := e
  obtain ⟨h0, h1⟩ := inR_true.1 hnow
  refine ⟨?_, hle⟩
  rw [deepOf_chain (fun i hi => ?_) h0 (by omega)]
  · exact hch
  · have := hcl _ (List.getElem_mem hi)
    simp only [clOk, Bool.and_eq_true] at this
    have h2 := inR_true.1 this.2.1.1.1
    omega

set_option maxRecDepth 100000 in
set_option maxHeartbeats 4000000 in
theorem lawHeapOk_any (w : World) (a : Option Addr) (len cap : Nat) (h : BytesAt w a len cap) :
    Calls Try.prog 3 #[.slice a len cap] w fun e w' => e = .returned (.bool true) ∧ Below w.heap.size w w' := by
  have hc := h.1
  have hm := h.2.1
  unfold maxLen at hm
  have HB : Hid (BytesAt w a len cap) := h
  clear h
  by_cases hl : 1048576 < len
  · have hlz : (1048576 : Int) < (len : Int) := by omega
    go_enter Try.func3, Try.ntmps3
    go_wp2
    go_ret
    exact ⟨rfl, Below.refl _ _⟩
  have hlz : (len : Int) ≤ 1048576 := by omega
  go_enter Try.func3, Try.ntmps3
  go_wp2_with fail
  refine (drawHeapOk_any _ a len cap HB.out).mono ?_
  rintro e w1 ⟨v, vc, vs, ms, H, rfl, hD, hB1⟩
  obtain ⟨hM1, hH1⟩ := hD.st.here
  have l30 := hD.fine.l30
  clear hD
  obtain ⟨aV, cV, hvV, _⟩ := id hM1
  obtain ⟨ac, kc, hvc⟩ := hH1.c.shape
  obtain ⟨aD, kD, hvs⟩ := hH1.s.shape
  subst hvV hvc hvs
  have z1 := hB1.size
  clear HB
  unfold hpCells
  go_upto_region 4 with fail
  have N2 : Below w1.heap.size w1 ((w1.alloc (.cells #[.slice aV ms.length cV] 25)).alloc (.cells #[.slice ac H.calls.length kc, .int .i64 H.now, .int .i64 H.born, .slice aD H.said.length kD, .int .i64 H.code] 29)) := ((Below.refl _ _).alloc (Nat.le_refl _) _).alloc (by simp) _
  have rp := (pbox_new w1 (.slice aV ms.length cV)).alloc (.cells #[.slice ac H.calls.length kc, .int .i64 H.now, .int .i64 H.born, .slice aD H.said.length kD, .int .i64 H.code] 29)
  have rh := five_new (w1.alloc (.cells #[.slice aV ms.length cV] 25)) 29 (.slice ac H.calls.length kc) (.int .i64 H.now) (.int .i64 H.born) (.slice aD H.said.length kD) (.int .i64 H.code)
  simp only [World.size_alloc] at rh
  generalize (w1.alloc (.cells #[.slice aV ms.length cV] 25)).alloc (.cells #[.slice ac H.calls.length kc, .int .i64 H.now, .int .i64 H.born, .slice aD H.said.length kD, .int .i64 H.code] 29) = W2 at *
  have hM2 := hM1.below N2
  have hH2 := hH1.below N2
  have hB2 := hB1.trans (N2.mono z1)
  have z2 := hB2.size
  clear hM1 hH1 hB1 N2
  have HI : Hid (∀ wx, Below W2.heap.size W2 wx → Calls Try.prog 10 #[.agg #[.slice aV ms.length cV], .agg #[.slice ac H.calls.length kc, .int .i64 H.now, .int .i64 H.born, .slice aD H.said.length kD, .int .i64 H.code]] wx fun e w' => e = .returned (.bool (heapOk ms H)) ∧ Below wx.heap.size wx w') := fun wx hb => implHeapOk_any _ _ _ ms H wx (hM2.below hb) (hH2.below hb) (by omega)
  have HS : Hid (∀ wx, Below W2.heap.size W2 wx → Calls Try.prog 11 #[.agg #[.slice aV ms.length cV], .agg #[.slice ac H.calls.length kc, .int .i64 H.now, .int .i64 H.born, .slice aD H.said.length kD, .int .i64 H.code]] wx fun e w' => e = .returned (.bool (heapOk ms H)) ∧ Below wx.heap.size wx w') := fun wx hb => specHeapOk_any _ _ _ ms H wx (hM2.below hb) (hH2.below hb) (by omega)
  have HD : Hid (∀ wx, Below W2.heap.size W2 wx → Calls Try.prog 12 #[.agg #[.slice ac H.calls.length kc, .int .i64 H.now, .int .i64 H.born, .slice aD H.said.length kD, .int .i64 H.code]] wx fun e w' => e = .returned (.int .i64 (deepOf H.calls H.now : Nat)) ∧ Below wx.heap.size wx w') := fun wx hb => implHeapDeep_any _ _ H wx (hH2.below hb) (by omega)
  have HOK := @heapOk_says ms H
  have HHOK : Hid (heapOk ms H = true → deepOf H.calls H.now = liveN H.calls ∧ (H.calls.length : Int) ≤ H.born) := HOK
  clear HOK
  generalize heapOk ms H = ok at *
  obtain ⟨⟨d0, d1, d2, d3, d4⟩, _⟩ := five_cells rh
  have dp := rp.cell (i := 0) (by decide)
  go_wp2_with fail
  refine (HI.out W2 (Below.refl _ _)).mono ?_
  rintro e w3 ⟨rfl, hb3⟩
  have rp3 := row_below hb3 rp
  have rh3 := row_below hb3 rh
  have z3 := hb3.size
  clear d0 d1 d2 d3 d4 dp HI
  obtain ⟨⟨d0, d1, d2, d3, d4⟩, _⟩ := five_cells rh3
  have dp := rp3.cell (i := 0) (by decide)
  go_wp2_with fail
  refine (HS.out w3 hb3).mono ?_
  rintro e w4 ⟨rfl, hb4⟩
  have b4 := hb3.trans (hb4.mono z3)
  have rp4 := row_below hb4 rp3
  have rh4 := row_below hb4 rh3
  have z4 := hb4.size
  have hB4 := hB2.trans (b4.mono z2)
  clear d0 d1 d2 d3 d4 dp hb3 hb4 rp3 rh3
  obtain ⟨⟨d0, d1, d2, d3, d4⟩, _⟩ := five_cells rh4
  have dp := rp4.cell (i := 0) (by decide)
  cases ok
  · go_wp2_with fail
    refine (HS.out w4 b4).mono ?_
    rintro e w5 ⟨rfl, hb5⟩
    go_wp2
    go_ret
    exact ⟨rfl, hB4.trans (hb5.mono hB4.size)⟩
  · obtain ⟨hdp, hle⟩ := HHOK.out rfl
    have HC : Hid (CallsAt w4 (.slice ac H.calls.length kc) H.calls) := (hH2.below b4).c
    clear hM2 hH2 HS
    have HE : Hid (deepOf H.calls H.now = liveN H.calls) := hdp
    clear hdp
    have hlz4 : liveN H.calls ≤ 30 := by
      have := List.length_filter_le (fun c : Cl => !c.dead) H.calls
      unfold liveN
      omega
    go_wp2
    go_loopg [6, 7] H.calls.length (fun g lv i wr => ∃ k : Nat, k ≤ H.calls.length ∧ g = H.calls.length - k ∧ lv = .int .i64 (liveN (H.calls.take k) : Nat) ∧ i = .int .i64 k ∧ wr = w4)
    case atStart => exact ⟨0, Nat.zero_le _, rfl, by simp [liveN], rfl, rfl⟩
    case round =>
      obtain ⟨k, hk, rfl, rfl, rfl, rfl⟩ := hrel
      by_cases hlt : k < H.calls.length
      · have hkz : (k : Int) < (H.calls.length : Int) := by omega
        obtain ⟨b, o, vt, vs', hac, hcl⟩ := HC.out.cl hlt
        have c5 := hcl.c5
        have HLS : Hid (liveN (H.calls.take (k + 1)) = liveN (H.calls.take k) + (if H.calls[k].dead then 0 else 1)) := liveN_step hlt
        have hlk : liveN (H.calls.take k) ≤ 30 := by
          have := List.length_filter_le (fun c : Cl => !c.dead) (H.calls.take k)
          have h2 : (H.calls.take k).length ≤ k := by simp; omega
          unfold liveN
          omega
        generalize H.calls[k].dead = dd at *
        subst hac
        clear hcl
        cases dd
        · go_wp2
          go_roundg (H.calls.length - (k + 1))
          case measure => omega
          case rel => exact ⟨k + 1, by omega, rfl, by rw [HLS.out]; simp, by go_num, rfl⟩
        · go_wp2
          go_roundg (H.calls.length - (k + 1))
          case measure => omega
          case rel => exact ⟨k + 1, by omega, rfl, by rw [HLS.out]; simp, by go_num, rfl⟩
      · obtain rfl : k = H.calls.length := by omega
        rw [List.take_length]
        go_wp2_with fail
        refine (HD.out _ b4).mono ?_
        rintro e w5 ⟨rfl, hb5⟩
        rw [HE.out]
        obtain ⟨⟨q0, q1, q2, q3, q4⟩, _⟩ := five_cells (row_below hb5 rh4)
        go_wp2
        go_ret
        exact ⟨rfl, hB4.trans (hb5.mono hB4.size)⟩

end Go.Proofs.Ytleodeffmfkfkaa
