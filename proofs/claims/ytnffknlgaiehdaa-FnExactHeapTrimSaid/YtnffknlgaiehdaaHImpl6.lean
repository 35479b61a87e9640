/-
  The program's HeapOk answers the plain heapOk; it writes to nothing that was there.
-/
import Derived.Test.YtnffknlgaiehdaaHImpl5
import Derived.Test.YtnffknlgaiehdaaSpecOk2

namespace Go.Proofs.Ytnffknlgaiehdaa
open Go.RowKit
theorem ops_few {ms : List (Int × Int × List (Int × Int))} (h : progOk ms = true) : ∀ i, (hi : i < ms.length) → ms[i].2.2.length ≤ 1000000 := fun i hi => by
  simp only [progOk, Bool.and_eq_true] at h
  have := List.all_eq_true.1 h.2 ms[i] (List.getElem_mem hi)
  simp only [methOk, Bool.and_eq_true, inR_true, decide_eq_true_iff] at this
  omega
set_option maxRecDepth 100000 in
set_option maxHeartbeats 8000000 in
theorem implHeapOk_any (vp vc vs : Value) (ms : List (Int × Int × List (Int × Int))) (h : Hp) (w : World) (hp : MethsAt w vp ms) (hh : HeapAt w vc vs h) (hn : h.calls.length ≤ 1048576) :
    Calls Try.prog 33 #[.agg #[vp], .agg (hpCells vc vs h)] w fun e w' => e = .returned (.bool (heapOk ms h)) ∧ Below w.heap.size w w' := by
  obtain ⟨ac, kc, hvc⟩ := hh.c.shape
  obtain ⟨aD, kD, hvs⟩ := hh.s.shape
  obtain ⟨ap, cp, hvp, hlp, _⟩ := id hp
  subst hvc hvs hvp
  unfold maxLen at hlp
  unfold hpCells
  have hA : Below w.heap.size w ((w.alloc (.cells #[.slice ap ms.length cp] 39)).alloc (.cells #[.slice ac h.calls.length kc, .int .i64 h.now, .int .i64 h.born, .slice aD h.said.length kD, .int .i64 h.code] 34)) := ((Below.refl _ _).alloc (Nat.le_refl _) _).alloc (by simp) _
  have bp : ((w.alloc (.cells #[.slice ap ms.length cp] 39)).alloc (.cells #[.slice ac h.calls.length kc, .int .i64 h.now, .int .i64 h.born, .slice aD h.said.length kD, .int .i64 h.code] 34)).cell? ⟨w.heap.size, 0, none⟩ = some (.slice ap ms.length cp) := by simp [go_sem]
  have bh := five_new (w.alloc (.cells #[.slice ap ms.length cp] 39)) 34 (.slice ac h.calls.length kc) (.int .i64 h.now) (.int .i64 h.born) (.slice aD h.said.length kD) (.int .i64 h.code)
  simp only [World.size_alloc] at bh
  go_enter Try.func33, Try.ntmps33
  go_upto_region 1 with fail
  generalize (w.alloc (.cells #[.slice ap ms.length cp] 39)).alloc (.cells #[.slice ac h.calls.length kc, .int .i64 h.now, .int .i64 h.born, .slice aD h.said.length kD, .int .i64 h.code] 34) = W0 at *
  obtain ⟨⟨x0, x1, x2, x3, x4⟩, _⟩ := five_cells bh
  have zA := hA.size
  go_wp2_with fail
  refine (implProgOk_any _ ms _ (hp.below hA)).mono ?_
  rintro e w1 ⟨rfl, hb1⟩
  have hB1 : Below w.heap.size w w1 := hA.trans (hb1.mono zA)
  have bp1 := cell_below hb1 bp
  have bh1 := row_below hb1 bh
  have z1 := hB1.size
  clear hA bp bh x0 x1 x2 x3 x4 hb1
  obtain ⟨⟨x0, x1, x2, x3, x4⟩, _⟩ := five_cells bh1
  have HH : Hid (headOk ms h = false → heapOk ms h = false) := heapOk_head
  cases h1 : progOk ms
  · have HE : Hid (heapOk ms h = false) := HH.out (by simp [headOk, h1])
    go_wp2
    go_ret
    exact ⟨ret_bool HE.out.symm, hB1⟩
  have HO := ops_few h1
  have HOPS : Hid (∀ i, (hi : i < ms.length) → ms[i].2.2.length ≤ 1000000) := HO
  clear HO
  have hx := @sender_or h.calls.length h.now
  cases h2 : inR h.now (-1) ((h.calls.length : Int) - 1)
  · have HE : Hid (heapOk ms h = false) := HH.out (by simp [headOk, h2])
    rw [h2] at hx
    have HX : Hid ((h.now == -1 || inR h.now 0 ((h.calls.length : Int) - 1)) = false) := hx
    clear hx
    go_wp2_with (go_at_call 63; refine (implIsCallOrNone_any _ _ _).mono ?_; rintro e w' ⟨rfl, hw⟩; obtain rfl := hw.symm; rw [HX.out])
    go_ret
    exact ⟨ret_bool HE.out.symm, hB1⟩
  rw [h2] at hx
  have HX : Hid ((h.now == -1 || inR h.now 0 ((h.calls.length : Int) - 1)) = true) := hx
  clear hx
  have h2' := inR_true.1 h2
  cases h3 : inR h.born 1 30
  · have HE : Hid (heapOk ms h = false) := HH.out (by simp [headOk, h3])
    go_wp2_with (first | (go_at_call 63; refine (implIsCallOrNone_any _ _ _).mono ?_; rintro e w' ⟨rfl, hw⟩; obtain rfl := hw.symm; rw [HX.out]) | (go_at_call 64; refine (implBornOk_any _ _).mono ?_; rintro e w' ⟨rfl, hw⟩; obtain rfl := hw.symm; rw [h3]))
    go_ret
    exact ⟨ret_bool HE.out.symm, hB1⟩
  have h3' := inR_true.1 h3
  by_cases h4 : h.born < (h.calls.length : Int)
  · have HE : Hid (heapOk ms h = false) := HH.out (by simp only [headOk, decide_eq_false (show ¬ (h.calls.length : Int) ≤ h.born by omega), Bool.and_false, Bool.false_and])
    go_wp2_with (first | (go_at_call 63; refine (implIsCallOrNone_any _ _ _).mono ?_; rintro e w' ⟨rfl, hw⟩; obtain rfl := hw.symm; rw [HX.out]) | (go_at_call 64; refine (implBornOk_any _ _).mono ?_; rintro e w' ⟨rfl, hw⟩; obtain rfl := hw.symm; rw [h3]))
    go_ret
    exact ⟨ret_bool HE.out.symm, hB1⟩
  have h4' : (h.calls.length : Int) ≤ h.born := by omega
  replace hn : h.calls.length ≤ 900000 := by omega
  clear h4
  have HS : Hid (Calls Try.prog 65 #[.agg #[.slice ap ms.length cp], .slice aD h.said.length kD] w1 fun e w' => e = .returned (.bool (valsOk ms.length h.said)) ∧ Below w1.heap.size w1 w') := implSaidOk_any _ _ ms h.said _ (hp.below hB1) (hh.below hB1).s
  obtain ⟨r6, hr6⟩ : ∃ r, valsOk ms.length h.said = r := ⟨_, rfl⟩
  have H6 : Hid (valsOk ms.length h.said = r6) := hr6
  clear hr6
  cases r6
  · have HE : Hid (heapOk ms h = false) := HH.out (by simp [headOk, H6.out])
    go_wp2_with (first | (go_at_call 63; refine (implIsCallOrNone_any _ _ _).mono ?_; rintro e w' ⟨rfl, hw⟩; obtain rfl := hw.symm; rw [HX.out]) | (go_at_call 64; refine (implBornOk_any _ _).mono ?_; rintro e w' ⟨rfl, hw⟩; obtain rfl := hw.symm; rw [h3]) | (go_at_call 65; refine HS.out.mono ?_; rintro e w2 ⟨rfl, hb2⟩; rw [H6.out]))
    go_ret
    exact ⟨ret_bool HE.out.symm, hB1.trans (hb2.mono z1)⟩
  have hcd : ((h.code == 1) == (h.now == -1)) = ((h.code == 1) == decide (h.now < 0)) := by
    have : (h.now == -1) = decide (h.now < 0) := by rw [Bool.eq_iff_iff, beq_iff_eq, decide_eq_true_iff]; omega
    rw [this]
  obtain ⟨r7, hr7⟩ : ∃ r, (inR h.code 0 3 && ((h.code == 1) == (h.now == -1))) = r := ⟨_, rfl⟩
  have H7 : Hid ((inR h.code 0 3 && ((h.code == 1) == (h.now == -1))) = r7) := hr7
  have H7' : Hid ((inR h.code 0 3 && ((h.code == 1) == decide (h.now < 0))) = r7) := by show _ = _; rw [← hcd]; exact hr7
  clear hr7 hcd
  cases r7
  · have HE : Hid (heapOk ms h = false) := HH.out (by
      have e := H7'.out
      cases h5 : inR h.code 0 3
      · simp [headOk, h5]
      · rw [h5, Bool.true_and] at e
        simp only [headOk, e, Bool.and_false])
    go_wp2_with (first | (go_at_call 63; refine (implIsCallOrNone_any _ _ _).mono ?_; rintro e w' ⟨rfl, hw⟩; obtain rfl := hw.symm; rw [HX.out]) | (go_at_call 64; refine (implBornOk_any _ _).mono ?_; rintro e w' ⟨rfl, hw⟩; obtain rfl := hw.symm; rw [h3]) | (go_at_call 65; refine HS.out.mono ?_; rintro e w2 ⟨rfl, hb2⟩; rw [H6.out]; have y4 := cell_below hb2 x4; have y1 := cell_below hb2 x1) | (go_at_call 66; refine (implCodeOk_any _ _ _).mono ?_; rintro e w' ⟨rfl, hw⟩; obtain rfl := hw.symm; rw [H7.out]))
    go_ret
    exact ⟨ret_bool HE.out.symm, hB1.trans (hb2.mono z1)⟩
  have HEND : Hid ((∀ i, (hi : i < h.calls.length) → clOk ms h.calls.length h.calls[i] = true) → heapOk ms h = waitP h.calls h.now) := fun hc => by
    have e := Bool.and_eq_true_iff.1 H7'.out
    rw [heapOk_end (by simp only [headOk, h1, h2, h3, decide_eq_true h4', e.1, e.2, H6.out, Bool.true_and]) hc, wait_end hc h2'.1 (by omega)]
  go_wp2_with (first | (go_at_call 63; refine (implIsCallOrNone_any _ _ _).mono ?_; rintro e w' ⟨rfl, hw⟩; obtain rfl := hw.symm; rw [HX.out]) | (go_at_call 64; refine (implBornOk_any _ _).mono ?_; rintro e w' ⟨rfl, hw⟩; obtain rfl := hw.symm; rw [h3]) | (go_at_call 65; refine HS.out.mono ?_; rintro e w2 ⟨rfl, hb2⟩; rw [H6.out]; have y4 := cell_below hb2 x4; have y1 := cell_below hb2 x1; have y0 := cell_below hb2 x0) | (go_at_call 66; refine (implCodeOk_any _ _ _).mono ?_; rintro e w' ⟨rfl, hw⟩; obtain rfl := hw.symm; rw [H7.out]))
  have hB2 : Below w.heap.size w w2 := hB1.trans (hb2.mono z1)
  have bp2 := cell_below hb2 bp1
  have bh2 := row_below hb2 bh1
  have z2 := hB2.size
  clear hB1 bp1 bh1 x0 x1 x2 x3 x4 hb2 y0 y1 y4 HS H6 H7 H7' HX HH h1 h2 h3
  go_loopg [49] h.calls.length (fun d i wr => ∃ k : Nat, k ≤ h.calls.length ∧ d = h.calls.length - k ∧ i = .int .i64 (k : Nat) ∧ Below w2.heap.size w2 wr ∧ ∀ j, (hj : j < h.calls.length) → j < k → clOk ms h.calls.length h.calls[j] = true)
  case atStart => exact ⟨0, Nat.zero_le _, rfl, rfl, Below.refl _ _, fun j _ hj => absurd hj (Nat.not_lt_zero _)⟩
  case round =>
    obtain ⟨k, hk, rfl, rfl, hbr, hall⟩ := hrel
    have HA : Hid (∀ j, (hj : j < h.calls.length) → j < k → clOk ms h.calls.length h.calls[j] = true) := hall
    clear hall
    have hBr : Below w.heap.size w wr := hB2.trans (hbr.mono z2)
    have zr := hBr.size
    have bpr := cell_below hbr bp2
    have bhr := row_below hbr bh2
    obtain ⟨⟨y0, y1, y2, y3, y4⟩, _⟩ := five_cells bhr
    by_cases hlt : k < h.calls.length
    · have hkz : (k : Int) < (h.calls.length : Int) := by omega
      obtain ⟨_, _, hx, _, hcl⟩ := (hh.below hBr).c
      cases hx
      obtain ⟨b, o, vt, vs', rfl, hc⟩ := hcl k hlt
      obtain ⟨d0, d1, d2, d3, d4, d5, dt, ds⟩ := hc
      obtain ⟨a1, k1, e1⟩ := dt.shape
      obtain ⟨a2, k2, e2⟩ := ds.shape
      subst e1 e2
      clear hcl
      have HCL : Hid (∀ W, Below wr.heap.size wr W → Calls Try.prog 67 #[.agg #[.slice ap ms.length cp], .agg #[.int .i64 h.calls[k].m, .int .i64 h.calls[k].pc, .slice a1 h.calls[k].temps.length k1, .slice a2 h.calls[k].stack.length k2, .int .i64 h.calls[k].sender, .bool h.calls[k].dead], .int .i64 (h.calls.length : Nat)] W fun e w' => e = .returned (.bool (clOk ms h.calls.length h.calls[k])) ∧ Below W.heap.size W w') := fun W hb => implCallOk_any _ _ _ ms h.calls[k] h.calls.length W ((hp.below hBr).below hb) (dt.below hb) (ds.below hb) (by unfold maxLen; omega) HOPS.out
      clear dt ds
      have qN := fun o => cell_below ((Below.refl _ _).alloc (Nat.le_refl _) o) bpr
      have q0N := fun o => cell_below ((Below.refl _ _).alloc (Nat.le_refl _) o) y0
      have hbN := fun o => (Below.refl wr.heap.size wr).alloc (Nat.le_refl _) o
      obtain ⟨r, hr⟩ : ∃ r, clOk ms h.calls.length h.calls[k] = r := ⟨_, rfl⟩
      have HR : Hid (clOk ms h.calls.length h.calls[k] = r) := hr
      clear hr
      cases r
      · go_wp2_with (go_at_call 67; refine (HCL.out _ (hbN _)).mono ?_; rintro e w3 ⟨rfl, hb3⟩; rw [HR.out])
        go_ret
        exact ⟨ret_bool (heapOk_call hlt HR.out).symm, (hBr.alloc zr _).trans (hb3.mono (by simp; omega))⟩
      · go_wp2_with (go_at_call 67; refine (HCL.out _ (hbN _)).mono ?_; rintro e w3 ⟨rfl, hb3⟩; rw [HR.out])
        go_roundg (h.calls.length - (k + 1))
        case measure => omega
        case rel =>
          refine ⟨k + 1, by omega, rfl, by go_num, (hbr.alloc hbr.size _).trans (hb3.mono (by have := hbr.size; simp; omega)), fun j hj hjk => ?_⟩
          by_cases e : j = k
          · subst e; exact HR.out
          · exact HA.out j hj (by omega)
    · obtain rfl : k = h.calls.length := by omega
      have HE : Hid (heapOk ms h = waitP h.calls h.now) := HEND.out fun i hi => HA.out i hi hi
      have HWT : Hid (Calls Try.prog 68 #[.agg #[.slice ac h.calls.length kc, .int .i64 h.now, .int .i64 h.born, .slice aD h.said.length kD, .int .i64 h.code]] wr fun e w' => e = .returned (.bool (waitP h.calls h.now)) ∧ Below wr.heap.size wr w') := implWaitOk_any _ _ h wr (hh.below hBr) hn
      go_wp2_with (go_at_call 68; refine HWT.out.mono ?_; rintro e w3 ⟨rfl, hb3⟩)
      go_ret
      exact ⟨ret_bool HE.out.symm, hBr.trans (hb3.mono zr)⟩
end Go.Proofs.Ytnffknlgaiehdaa
