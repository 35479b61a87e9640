/-
  The document's model of HeapOk, walked: it answers the plain function heapOk, and writes to nothing that was there.
-/
import Derived.Test.YtmifhlkcceafkaaGreatHImpl3
import Derived.Deep.RegionWith

namespace Go.Proofs.YtmifhlkcceafkaaGreat
open Go.RowKit
def headOk (ms : List (Int × Int × List (Int × Int))) (h : Hp) : Bool :=
  progOk ms && inR h.now (-1) ((h.calls.length : Int) - 1) && inR h.born 1 30 && decide ((h.calls.length : Int) ≤ h.born) && inR h.code 0 3 && valsOk ms.length h.said && ((h.code == 1) == decide (h.now < 0))
def liveN (cs : List Cl) : Nat := (cs.filter fun c => !c.dead).length
def endOk (h : Hp) : Bool := (decide (h.now < 0) || !(h.calls.getD h.now.toNat Cl.none).dead) && ((chainOf h.calls h.now).length == liveN h.calls) && roomP h.calls (chainOf h.calls h.now)
def heapOk (ms : List (Int × Int × List (Int × Int))) (h : Hp) : Bool := headOk ms h && h.calls.all (clOk ms h.calls.length) && endOk h
theorem heapOk_head {ms : List (Int × Int × List (Int × Int))} {h : Hp} (e : headOk ms h = false) : heapOk ms h = false := by simp [heapOk, e]
theorem heapOk_call {ms : List (Int × Int × List (Int × Int))} {h : Hp} {i : Nat} (hi : i < h.calls.length) (e : clOk ms h.calls.length h.calls[i] = false) : heapOk ms h = false := by
  simp only [heapOk, all_not hi e, Bool.and_false, Bool.false_and]
theorem heapOk_end {ms : List (Int × Int × List (Int × Int))} {h : Hp} (e : headOk ms h = true) (hc : ∀ i, (hi : i < h.calls.length) → clOk ms h.calls.length h.calls[i] = true) : heapOk ms h = endOk h := by
  simp only [heapOk, e, all_of hc, Bool.true_and]
theorem liveN_step {cs : List Cl} {k : Nat} (hk : k < cs.length) : liveN (cs.take (k + 1)) = liveN (cs.take k) + (if cs[k].dead then 0 else 1) := by
  unfold liveN
  rw [List.take_succ_eq_append_getElem hk, List.filter_append, List.length_append]
  congr 1
  by_cases e : cs[k].dead = true <;> simp [e]
set_option maxRecDepth 100000 in
set_option maxHeartbeats 8000000 in
theorem specHeapOk_any (vp vc vs : Value) (ms : List (Int × Int × List (Int × Int))) (h : Hp) (w : World) (hp : MethsAt w vp ms) (hh : HeapAt w vc vs h) (hn : h.calls.length ≤ 1048576) :
    Calls Tryz.prog 21 #[.agg #[vp], .agg (hpCells vc vs h)] w fun e w' => e = .returned (.bool (heapOk ms h)) ∧ Below w.heap.size w w' := by
  obtain ⟨ac, kc, hvc⟩ := hh.c.shape
  obtain ⟨aD, kD, hvs⟩ := hh.s.shape
  obtain ⟨ap, cp, hvp, hlp, _⟩ := id hp
  subst hvc hvs hvp
  unfold maxLen at hlp
  unfold hpCells
  have hA : Below w.heap.size w ((w.alloc (.cells #[.slice ap ms.length cp] 41)).alloc (.cells #[.slice ac h.calls.length kc, .int .i64 h.now, .int .i64 h.born, .slice aD h.said.length kD, .int .i64 h.code] 45)) := ((Below.refl _ _).alloc (Nat.le_refl _) _).alloc (by simp) _
  have bp : ((w.alloc (.cells #[.slice ap ms.length cp] 41)).alloc (.cells #[.slice ac h.calls.length kc, .int .i64 h.now, .int .i64 h.born, .slice aD h.said.length kD, .int .i64 h.code] 45)).cell? ⟨w.heap.size, 0, none⟩ = some (.slice ap ms.length cp) := by simp [go_sem]
  have bh := five_new (w.alloc (.cells #[.slice ap ms.length cp] 41)) 45 (.slice ac h.calls.length kc) (.int .i64 h.now) (.int .i64 h.born) (.slice aD h.said.length kD) (.int .i64 h.code)
  simp only [World.size_alloc] at bh
  go_enter Tryz.func21, Tryz.ntmps21
  go_upto_region 1 with fail
  generalize (w.alloc (.cells #[.slice ap ms.length cp] 41)).alloc (.cells #[.slice ac h.calls.length kc, .int .i64 h.now, .int .i64 h.born, .slice aD h.said.length kD, .int .i64 h.code] 45) = W0 at *
  obtain ⟨⟨x0, x1, x2, x3, x4⟩, _⟩ := five_cells bh
  have zA := hA.size
  go_wp2_with fail
  refine (specProgOk_any _ ms _ (hp.below hA)).mono ?_
  rintro e w1 ⟨rfl, hb1⟩
  have hB1 : Below w.heap.size w w1 := hA.trans (hb1.mono zA)
  have bp1 := cell_below hb1 bp
  have bh1 := row_below hb1 bh
  have z1 := hB1.size
  clear hA bp bh x0 x1 x2 x3 x4 hb1
  obtain ⟨⟨x0, x1, x2, x3, x4⟩, _⟩ := five_cells bh1
  have HH : Hid (headOk ms h = false → heapOk ms h = false) := heapOk_head
  cases h1 : progOk ms
  · have HE : Hid (heapOk ms h = false) := HH.out (by simp [headOk, h1])
    go_wp2
    go_ret
    exact ⟨ret_bool HE.out.symm, hB1⟩
  cases h2 : inR h.now (-1) ((h.calls.length : Int) - 1)
  · have HE : Hid (heapOk ms h = false) := HH.out (by simp [headOk, h2])
    go_wp2_with (go_at_call 54; refine (l6In_any _ _ _ _).mono ?_; rintro e w' ⟨rfl, hw⟩; obtain rfl := hw.symm)
    go_ret
    exact ⟨ret_bool HE.out.symm, hB1⟩
  cases h3 : inR h.born 1 30
  · have HE : Hid (heapOk ms h = false) := HH.out (by simp [headOk, h3])
    go_wp2_with (go_at_call 54; refine (l6In_any _ _ _ _).mono ?_; rintro e w' ⟨rfl, hw⟩; obtain rfl := hw.symm)
    go_ret
    exact ⟨ret_bool HE.out.symm, hB1⟩
  have h3' := inR_true.1 h3
  by_cases h4 : h.born < (h.calls.length : Int)
  · have HE : Hid (heapOk ms h = false) := HH.out (by simp only [headOk, decide_eq_false (show ¬ (h.calls.length : Int) ≤ h.born by omega), Bool.and_false, Bool.false_and])
    go_wp2_with (go_at_call 54; refine (l6In_any _ _ _ _).mono ?_; rintro e w' ⟨rfl, hw⟩; obtain rfl := hw.symm)
    go_ret
    exact ⟨ret_bool HE.out.symm, hB1⟩
  have h4' : (h.calls.length : Int) ≤ h.born := by omega
  replace hn : h.calls.length ≤ 900000 := by omega
  clear h4
  cases h5 : inR h.code 0 3
  · have HE : Hid (heapOk ms h = false) := HH.out (by simp [headOk, h5])
    go_wp2_with (go_at_call 54; refine (l6In_any _ _ _ _).mono ?_; rintro e w' ⟨rfl, hw⟩; obtain rfl := hw.symm)
    go_ret
    exact ⟨ret_bool HE.out.symm, hB1⟩
  go_wp2_with (go_at_call 54; refine (l6In_any _ _ _ _).mono ?_; rintro e w' ⟨rfl, hw⟩; obtain rfl := hw.symm)
  refine (l11Said_any _ _ ms h.said _ (hp.below hB1) (hh.below hB1).s).mono ?_
  rintro e w2 ⟨rfl, hb2⟩
  have hB2 : Below w.heap.size w w2 := hB1.trans (hb2.mono z1)
  have bp2 := cell_below hb2 bp1
  have bh2 := row_below hb2 bh1
  have z2 := hB2.size
  clear hB1 bp1 bh1 x0 x1 x2 x3 x4 hb2
  obtain ⟨⟨x0, x1, x2, x3, x4⟩, _⟩ := five_cells bh2
  cases h6 : valsOk ms.length h.said
  · have HE : Hid (heapOk ms h = false) := HH.out (by simp [headOk, h6])
    go_wp2
    go_ret
    exact ⟨ret_bool HE.out.symm, hB2⟩
  have HEND : Hid (((h.code == 1) == decide (h.now < 0)) = true → (∀ i, (hi : i < h.calls.length) → clOk ms h.calls.length h.calls[i] = true) → heapOk ms h = endOk h) := fun h7 => heapOk_end (by simp only [headOk, h1, h2, h3, decide_eq_true h4', h5, h6, h7, Bool.true_and])
  have h2' := inR_true.1 h2
  by_cases hc1 : h.code = 1
  · have hcb : (h.code == 1) = true := by rw [beq_iff_eq]; exact hc1
    have HC1 : Hid (h.code = 1) := hc1
    clear hc1
    by_cases hnn : h.now < 0
    · have hdn : decide (h.now < 0) = true := decide_eq_true hnn
      replace HEND : Hid ((∀ i, (hi : i < h.calls.length) → clOk ms h.calls.length h.calls[i] = true) → heapOk ms h = endOk h) := HEND.out (by rw [hcb, decide_eq_true hnn]; rfl)
      have hnb : (h.calls.length : Int) ≤ 30 := by omega
      clear h1 h2 h3 h5 h6 HH
      go_wp2_with fail
      go_loopg [6, 7] h.calls.length (fun d lv i wr => ∃ (k l : Nat), k ≤ h.calls.length ∧ d = h.calls.length - k ∧ lv = .int .i64 l ∧ i = .int .i64 k ∧ l ≤ k ∧ Hid (l = liveN (h.calls.take k)) ∧ Below w2.heap.size w2 wr ∧ ∀ j, (hj : j < h.calls.length) → j < k → clOk ms h.calls.length h.calls[j] = true)
      case atStart => exact ⟨0, 0, Nat.zero_le _, rfl, rfl, rfl, Nat.le_refl _, by show 0 = _; simp [liveN], Below.refl _ _, fun j _ hj => absurd hj (Nat.not_lt_zero _)⟩
      case round =>
        obtain ⟨k, l, hk, rfl, rfl, rfl, hlk, HL, hbr, hall⟩ := hrel
        have HA : Hid (∀ j, (hj : j < h.calls.length) → j < k → clOk ms h.calls.length h.calls[j] = true) := hall
        clear hall
        have hBr : Below w.heap.size w wr := hB2.trans (hbr.mono z2)
        have zr := hBr.size
        have bpr := cell_below hbr bp2
        have bhr := row_below hbr bh2
        obtain ⟨⟨y0, y1, y2, y3, y4⟩, _⟩ := five_cells bhr
        clear x0 x1 x2 x3 x4
        by_cases hlt : k < h.calls.length
        · have hkz : (k : Int) < (h.calls.length : Int) := by omega
          obtain ⟨_, _, hx, _, hcl⟩ := (hh.below hBr).c
          cases hx
          obtain ⟨b, o, vt, vs', rfl, hc⟩ := hcl k hlt
          obtain ⟨d0, d1, d2, d3, d4, d5, dt, ds⟩ := hc
          obtain ⟨a1, k1, e1⟩ := dt.shape
          obtain ⟨a2, k2, e2⟩ := ds.shape
          rw [e1] at d2 dt
          rw [e2] at d3 ds
          clear e1 e2 hcl
          have DT : OpsAt wr.drew _ _ := dt.below (Below.refl _ _).drew
          have DS : OpsAt wr.drew _ _ := ds.below (Below.refl _ _).drew
          have DP : MethsAt wr.drew _ ms := (hp.below hBr).below (Below.refl _ _).drew
          have HNO : Hid (clOk ms h.calls.length h.calls[k] = false → heapOk ms h = false) := heapOk_call hlt
          have HST : Hid (liveN (h.calls.take (k + 1)) = liveN (h.calls.take k) + (if h.calls[k].dead then 0 else 1)) := liveN_step hlt
          have HYES : Hid (clOk ms h.calls.length h.calls[k] = true → ∀ j, (hj : j < h.calls.length) → j < k + 1 → clOk ms h.calls.length h.calls[j] = true) := fun hy j hj hjk => by
            by_cases e : j = k
            · subst e; exact hy
            · exact HA.out j hj (by omega)
          obtain ⟨r, hr⟩ : ∃ r, clOk ms h.calls.length h.calls[k] = r := ⟨_, rfl⟩
          have HR : Hid (clOk ms h.calls.length h.calls[k] = r) := hr
          clear hr dt ds
          go_wp2_with fail
          go_region_with (go_at_call 57; refine (l11Form_any _ _ _ ms h.calls[k] h.calls.length _ DP DT DS (by unfold maxLen; omega)).mono ?_; rintro e w3 ⟨rfl, hb3⟩; rw [HR.out])
          all_goals
            have hb3' : Below w2.heap.size w2 w3 := hbr.drew.trans (hb3.mono hbr.size)
            have hB3 : Below w.heap.size w w3 := hB2.trans (hb3'.mono z2)
            have b3 := row_below hb3' bh2
            obtain ⟨⟨v0, v1, v2, v3, v4⟩, _⟩ := five_cells b3
            have f5 : w3.cell? ⟨b, o + k * 6 + 5, none⟩ = some (.bool h.calls[k].dead) := cell_below hb3 d5
            clear hb3 d0 d1 d2 d3 d4 d5 DT DS DP y0 y1 y2 y3 y4 b3 bpr bhr
            cases r
            · go_wp2
              go_ret
              exact ⟨ret_bool (HNO.out HR.out).symm, hB3⟩
            · have hy := HYES.out HR.out
              have HY : Hid (∀ j, (hj : j < h.calls.length) → j < k + 1 → clOk ms h.calls.length h.calls[j] = true) := hy
              clear hy HYES HNO
              cases hdd : h.calls[k].dead
              · rw [hdd] at f5
                have HL' : Hid (l + 1 = liveN (h.calls.take (k + 1))) := by show _ = _; rw [HST.out, ← HL.out, hdd]; rfl
                go_wp2
                go_roundg (h.calls.length - (k + 1))
                case measure => omega
                case rel => exact ⟨k + 1, l + 1, by omega, rfl, by go_num, by go_num, by omega, HL', hb3', HY.out⟩
              · rw [hdd] at f5
                have HL' : Hid (l = liveN (h.calls.take (k + 1))) := by show _ = _; rw [HST.out, ← HL.out, hdd]; rfl
                go_wp2
                go_roundg (h.calls.length - (k + 1))
                case measure => omega
                case rel => exact ⟨k + 1, l, by omega, rfl, rfl, by go_num, by omega, HL', hb3', HY.out⟩
        · obtain rfl : k = h.calls.length := by omega
          have HE : Hid (heapOk ms h = endOk h) := HEND.out (fun i hi => HA.out i hi hi)
          have HLN : Hid (l = liveN h.calls) := by show _ = _; rw [HL.out, List.take_length]
          clear HL HA HEND
          have HED : Hid (endOk h = (((chainOf h.calls h.now).length == l) && roomP h.calls (chainOf h.calls h.now))) := by
            show _ = _
            unfold endOk
            rw [hdn, HLN.out]
            rfl
          go_wp2_with fail
          refine (l11Chain_any _ _ h _ (hh.below hBr) hn).mono ?_
          rintro e w3 ⟨v3, rfl, hrow, hb3⟩
          have hB3 : Below w.heap.size w w3 := hBr.trans (hb3.mono zr)
          have z3 := hB3.size
          have b3 := row_below hb3 bhr
          obtain ⟨⟨v0, v1, v2, v3', v4⟩, _⟩ := five_cells b3
          obtain ⟨av, kv, hv, hlv⟩ := hrow.slice
          rw [nums_len] at hv hlv
          subst hv
          unfold maxLen at hlv
          clear hb3 hrow
          by_cases hl : (chainOf h.calls h.now).length = l
          · have hlb : (((chainOf h.calls h.now).length : Int) == (l : Int)) = true := by rw [beq_iff_eq]; omega
            have HLL : Hid ((chainOf h.calls h.now).length = l) := hl
            clear hl
            go_wp2_with fail
            refine (l11Wait_any _ _ h _ (hh.below hB3) hn).mono ?_
            rintro e w4 ⟨rfl, hb4⟩
            have hB4 : Below w.heap.size w w4 := hB3.trans (hb4.mono z3)
            clear hb4
            go_wp2
            go_ret
            exact ⟨ret_bool (by rw [HE.out, HED.out, HLL.out]; simp), hB4⟩
          · have hlb : (((chainOf h.calls h.now).length : Int) == (l : Int)) = false := by rw [beq_eq_false_iff_ne]; omega
            have hlb' : ((chainOf h.calls h.now).length == l) = false := beq_eq_false_iff_ne.2 hl
            go_wp2
            go_ret
            exact ⟨ret_bool (by rw [HE.out, HED.out, hlb']; rfl), hB3⟩
    · have hn0 : 0 ≤ h.now := by omega
      have hdn : decide (h.now < 0) = false := decide_eq_false hnn
      have HE : Hid (heapOk ms h = false) := HH.out (by unfold headOk; rw [hcb, decide_eq_false hnn, show (true == false) = false from rfl, Bool.and_false])
      clear hnn
      go_wp2
      go_ret
      exact ⟨ret_bool HE.out.symm, hB2⟩
  · have hcb : (h.code == 1) = false := beq_eq_false_iff_ne.2 hc1
    by_cases hnn : h.now < 0
    · have HE : Hid (heapOk ms h = false) := HH.out (by unfold headOk; rw [hcb, decide_eq_true hnn, show (false == true) = false from rfl, Bool.and_false])
      go_wp2
      go_ret
      exact ⟨ret_bool HE.out.symm, hB2⟩
    · have hn0 : 0 ≤ h.now := by omega
      have hdn : decide (h.now < 0) = false := decide_eq_false hnn
      replace HEND : Hid ((∀ i, (hi : i < h.calls.length) → clOk ms h.calls.length h.calls[i] = true) → heapOk ms h = endOk h) := HEND.out (by rw [hcb, decide_eq_false hnn]; rfl)
      clear hnn
      have hnb : (h.calls.length : Int) ≤ 30 := by omega
      clear h1 h2 h3 h5 h6 HH
      go_wp2_with fail
      go_loopg [6, 7] h.calls.length (fun d lv i wr => ∃ (k l : Nat), k ≤ h.calls.length ∧ d = h.calls.length - k ∧ lv = .int .i64 l ∧ i = .int .i64 k ∧ l ≤ k ∧ Hid (l = liveN (h.calls.take k)) ∧ Below w2.heap.size w2 wr ∧ ∀ j, (hj : j < h.calls.length) → j < k → clOk ms h.calls.length h.calls[j] = true)
      case atStart => exact ⟨0, 0, Nat.zero_le _, rfl, rfl, rfl, Nat.le_refl _, by show 0 = _; simp [liveN], Below.refl _ _, fun j _ hj => absurd hj (Nat.not_lt_zero _)⟩
      case round =>
        obtain ⟨k, l, hk, rfl, rfl, rfl, hlk, HL, hbr, hall⟩ := hrel
        have HA : Hid (∀ j, (hj : j < h.calls.length) → j < k → clOk ms h.calls.length h.calls[j] = true) := hall
        clear hall
        have hBr : Below w.heap.size w wr := hB2.trans (hbr.mono z2)
        have zr := hBr.size
        have bpr := cell_below hbr bp2
        have bhr := row_below hbr bh2
        obtain ⟨⟨y0, y1, y2, y3, y4⟩, _⟩ := five_cells bhr
        clear x0 x1 x2 x3 x4
        by_cases hlt : k < h.calls.length
        · have hkz : (k : Int) < (h.calls.length : Int) := by omega
          obtain ⟨_, _, hx, _, hcl⟩ := (hh.below hBr).c
          cases hx
          obtain ⟨b, o, vt, vs', rfl, hc⟩ := hcl k hlt
          obtain ⟨d0, d1, d2, d3, d4, d5, dt, ds⟩ := hc
          obtain ⟨a1, k1, e1⟩ := dt.shape
          obtain ⟨a2, k2, e2⟩ := ds.shape
          rw [e1] at d2 dt
          rw [e2] at d3 ds
          clear e1 e2 hcl
          have DT : OpsAt wr.drew _ _ := dt.below (Below.refl _ _).drew
          have DS : OpsAt wr.drew _ _ := ds.below (Below.refl _ _).drew
          have DP : MethsAt wr.drew _ ms := (hp.below hBr).below (Below.refl _ _).drew
          have HNO : Hid (clOk ms h.calls.length h.calls[k] = false → heapOk ms h = false) := heapOk_call hlt
          have HST : Hid (liveN (h.calls.take (k + 1)) = liveN (h.calls.take k) + (if h.calls[k].dead then 0 else 1)) := liveN_step hlt
          have HYES : Hid (clOk ms h.calls.length h.calls[k] = true → ∀ j, (hj : j < h.calls.length) → j < k + 1 → clOk ms h.calls.length h.calls[j] = true) := fun hy j hj hjk => by
            by_cases e : j = k
            · subst e; exact hy
            · exact HA.out j hj (by omega)
          obtain ⟨r, hr⟩ : ∃ r, clOk ms h.calls.length h.calls[k] = r := ⟨_, rfl⟩
          have HR : Hid (clOk ms h.calls.length h.calls[k] = r) := hr
          clear hr dt ds
          go_wp2_with fail
          go_region_with (go_at_call 57; refine (l11Form_any _ _ _ ms h.calls[k] h.calls.length _ DP DT DS (by unfold maxLen; omega)).mono ?_; rintro e w3 ⟨rfl, hb3⟩; rw [HR.out])
          all_goals
            have hb3' : Below w2.heap.size w2 w3 := hbr.drew.trans (hb3.mono hbr.size)
            have hB3 : Below w.heap.size w w3 := hB2.trans (hb3'.mono z2)
            have b3 := row_below hb3' bh2
            obtain ⟨⟨v0, v1, v2, v3, v4⟩, _⟩ := five_cells b3
            have f5 : w3.cell? ⟨b, o + k * 6 + 5, none⟩ = some (.bool h.calls[k].dead) := cell_below hb3 d5
            clear hb3 d0 d1 d2 d3 d4 d5 DT DS DP y0 y1 y2 y3 y4 b3 bpr bhr
            cases r
            · go_wp2
              go_ret
              exact ⟨ret_bool (HNO.out HR.out).symm, hB3⟩
            · have hy := HYES.out HR.out
              have HY : Hid (∀ j, (hj : j < h.calls.length) → j < k + 1 → clOk ms h.calls.length h.calls[j] = true) := hy
              clear hy HYES HNO
              cases hdd : h.calls[k].dead
              · rw [hdd] at f5
                have HL' : Hid (l + 1 = liveN (h.calls.take (k + 1))) := by show _ = _; rw [HST.out, ← HL.out, hdd]; rfl
                go_wp2
                go_roundg (h.calls.length - (k + 1))
                case measure => omega
                case rel => exact ⟨k + 1, l + 1, by omega, rfl, by go_num, by go_num, by omega, HL', hb3', HY.out⟩
              · rw [hdd] at f5
                have HL' : Hid (l = liveN (h.calls.take (k + 1))) := by show _ = _; rw [HST.out, ← HL.out, hdd]; rfl
                go_wp2
                go_roundg (h.calls.length - (k + 1))
                case measure => omega
                case rel => exact ⟨k + 1, l, by omega, rfl, rfl, by go_num, by omega, HL', hb3', HY.out⟩
        · obtain rfl : k = h.calls.length := by omega
          have HE : Hid (heapOk ms h = endOk h) := HEND.out (fun i hi => HA.out i hi hi)
          have HLN : Hid (l = liveN h.calls) := by show _ = _; rw [HL.out, List.take_length]
          clear HL HA HEND
          obtain ⟨nn, hnn⟩ := Int.eq_ofNat_of_zero_le hn0
          have hnl : nn < h.calls.length := by omega
          have HNN : Hid (h.now = (nn : Int)) := hnn
          have hnz : (nn : Int) < (h.calls.length : Int) := by omega
          rw [hnn] at y1
          obtain ⟨_, _, hx, _, hcl⟩ := (hh.below hBr).c
          cases hx
          obtain ⟨b, o, vt, vs', rfl, hc⟩ := hcl nn hnl
          have d5 := hc.c5
          clear hcl hc hnn
          have hdn' : decide ((nn : Int) < 0) = false := decide_eq_false (by omega)
          cases hdd : h.calls[nn].dead
          · rw [hdd] at d5
            have HED : Hid (endOk h = (((chainOf h.calls h.now).length == l) && roomP h.calls (chainOf h.calls h.now))) := by
              show _ = _
              unfold endOk
              rw [hdn, HLN.out, HNN.out, Int.toNat_natCast, show h.calls.getD nn Cl.none = h.calls[nn] by simp [hnl], hdd]
              rfl
            go_wp2_with fail
            rw [← HNN.out]
            refine (l11Chain_any _ _ h _ (hh.below hBr) hn).mono ?_
            rintro e w3 ⟨v3, rfl, hrow, hb3⟩
            have hB3 : Below w.heap.size w w3 := hBr.trans (hb3.mono zr)
            have z3 := hB3.size
            have b3 := row_below hb3 bhr
            obtain ⟨⟨v0, v1, v2, v3', v4⟩, _⟩ := five_cells b3
            obtain ⟨av, kv, hv, hlv⟩ := hrow.slice
            rw [nums_len] at hv hlv
            subst hv
            unfold maxLen at hlv
            clear hb3 hrow
            by_cases hl : (chainOf h.calls h.now).length = l
            · have hlb : (((chainOf h.calls h.now).length : Int) == (l : Int)) = true := by rw [beq_iff_eq]; omega
              have HLL : Hid ((chainOf h.calls h.now).length = l) := hl
              clear hl
              go_wp2_with fail
              refine (l11Wait_any _ _ h _ (hh.below hB3) hn).mono ?_
              rintro e w4 ⟨rfl, hb4⟩
              have hB4 : Below w.heap.size w w4 := hB3.trans (hb4.mono z3)
              clear hb4
              go_wp2
              go_ret
              exact ⟨ret_bool (by rw [HE.out, HED.out, HLL.out]; simp), hB4⟩
            · have hlb : (((chainOf h.calls h.now).length : Int) == (l : Int)) = false := by rw [beq_eq_false_iff_ne]; omega
              have hlb' : ((chainOf h.calls h.now).length == l) = false := beq_eq_false_iff_ne.2 hl
              go_wp2
              go_ret
              exact ⟨ret_bool (by rw [HE.out, HED.out, hlb']; rfl), hB3⟩
          · rw [hdd] at d5
            have HED : Hid (endOk h = false) := by
              show _ = _
              unfold endOk
              rw [hdn, HNN.out, Int.toNat_natCast, show h.calls.getD nn Cl.none = h.calls[nn] by simp [hnl], hdd]
              rfl
            go_wp2
            go_ret
            exact ⟨ret_bool (by rw [HE.out, HED.out]), hBr⟩
end Go.Proofs.YtmifhlkcceafkaaGreat
