/-
  What is seen of a heap, by the model: l11Found answers the calls that can be come to.
-/
import Derived.Test.YtnffknlgaiehdaaVSpec
import Derived.Deep.QuietTactic

namespace Go.Proofs.Ytnffknlgaiehdaa
open Go.RowKit
def Hp.short (h : Hp) : Prop := h.calls.length ≤ 1000 ∧ ∀ i, (hi : i < h.calls.length) → h.calls[i].temps.length ≤ 1000 ∧ h.calls[i].stack.length ≤ 1000
theorem fold_take {n : Nat} {ps : List Nat} {rs : List Int} {k : Nat} (h : k < rs.length) : (rs.take (k + 1)).foldl (comeP n) ps = comeP n ((rs.take k).foldl (comeP n) ps) rs[k] := by
  rw [List.take_add_one, List.getElem?_eq_getElem h, List.foldl_append]
  rfl
theorem PsOk.fold {n : Nat} : ∀ (rs : List Int) {ps : List Nat}, PsOk n ps → PsOk n (rs.foldl (comeP n) ps)
  | [], _, h => h
  | r :: t, _, h => PsOk.fold t (h.come r)
theorem PsOk.nil (n : Nat) : PsOk n [] := ⟨by simp, fun p hp => by cases hp⟩
set_option maxRecDepth 100000 in
set_option maxHeartbeats 4000000 in
theorem l11Found_any (vc vs : Value) (h : Hp) (w : World) (hh : HeapAt w vc vs h) (hsh : h.short) :
    Calls Try.prog 55 #[.agg (hpCells vc vs h)] w fun e w' => ∃ v, e = .returned v ∧ IntRow w.heap.size w' v (nums (found h)) ∧ Below w.heap.size w w' := by
  unfold hpCells
  obtain ⟨cs, now, born, said, code⟩ := h
  obtain ⟨hhc, hhs⟩ := hh
  obtain ⟨hs1, hs2⟩ := hsh
  simp only [] at hhc hhs hs1 hs2 ⊢
  obtain ⟨aD, kD, hvs⟩ := hhs.shape
  subst hvs
  obtain ⟨ac, kc, rfl, _, hcl⟩ := id hhc
  have hA : Below w.heap.size w ((w.alloc (.cells #[.slice ac cs.length kc, .int .i64 now, .int .i64 born, .slice aD said.length kD, .int .i64 code] 34)).alloc (.cells #[] 3)) := ((Below.refl _ _).alloc (Nat.le_refl _) _).alloc (by simp) _
  have bx := (five_new w 34 (.slice ac cs.length kc) (.int .i64 now) (.int .i64 born) (.slice aD said.length kD) (.int .i64 code)).alloc (.cells #[] 3)
  have mk := (int_made (w.alloc (.cells #[.slice ac cs.length kc, .int .i64 now, .int .i64 born, .slice aD said.length kD, .int .i64 code] 34))).mono (B' := w.heap.size + 1) (by simp)
  simp only [World.size_alloc] at mk
  obtain ⟨F, hF⟩ : ∃ F, F = found ⟨cs, now, born, said, code⟩ := ⟨_, rfl⟩
  rw [← hF]
  have HF : Hid (F = foundF cs cs.length 0 (comeP cs.length [] now)) := hF
  clear hF
  go_enter Try.func55, Try.ntmps55
  go_upto_region 2 with fail
  generalize (w.alloc (.cells #[.slice ac cs.length kc, .int .i64 now, .int .i64 born, .slice aD said.length kD, .int .i64 code] 34)).alloc (.cells #[] 3) = W1 at *
  obtain ⟨⟨x0, x1, x2, x3, x4⟩, xf⟩ := five_cells bx
  clear xf
  have zA := hA.size
  have yA := bx.lt
  have hwn : IntKind.i64.wrap ((cs.length : Int) - 1) = (cs.length : Int) - 1 := by rw [IntKind.wrap_i64]; omega
  by_cases hin : inR now 0 ((cs.length : Int) - 1) = false
  · have hFE : Hid (F = []) := by
      show F = []
      rw [HF.out, comeP_out (fun e => by have : inR now 0 ((cs.length : Int) - 1) = true := inR_true.2 (by omega); rw [hin] at this; cases this), foundF_end _ (by simp)]
    go_wp2_with (go_at_call 51; refine (l6In_any _ _ _ _).mono ?_; rintro e w' ⟨rfl, hw⟩; obtain rfl := hw.symm)
    go_ret
    exact ⟨_, rfl, by rw [hFE.out]; exact mk.mono (by omega), hA⟩
  have hin' : inR now 0 ((cs.length : Int) - 1) = true := by simpa using hin
  clear hin
  have hin2 := inR_true.1 hin'
  obtain ⟨an, rfl⟩ := Int.eq_ofNat_of_zero_le hin2.1
  have han : an < cs.length := by omega
  have HF2 : Hid (F = foundF cs (cs.length - 0) 0 [an]) := by
    show F = _
    rw [HF.out, comeP_yes han (numOf_none (fun i hi => absurd hi (Nat.not_lt_zero _)))]
    rfl
  have hP1 : PsOk cs.length [an] := ⟨by simp, fun p hp => by simp at hp; omega⟩
  clear HF
  go_upto_region 5 with (first | (go_at_call 51; refine (l6In_any _ _ _ _).mono ?_; rintro e w' ⟨rfl, hw⟩; obtain rfl := hw.symm) | (at_builtin; refine append_i _ (by rfl) _ _ (by rfl) (w.heap.size + 1) _ [] (by rfl) mk (an : Int) _ _ rfl (by rfl) (by simp) (by omega) ?_; intro g2 o2 c2 w2 hrow2 hg2 hb2 hlt2))
  have hg2' : W1.grownBy w2 (some (w.heap.size + 1)) := hg2
  have B2 : Below w.heap.size w w2 := hA.grown hg2' zA (fun q e => by cases e; omega)
  have bx2 := bx.of_block (hg2'.block w.heap.size yA (by simp))
  have hV2 : IntRow (w.heap.size + 1) w2 (.slice (some ⟨g2, o2, none⟩) (([] : List Int).length + 1) c2) (nums [an]) := hrow2
  clear hg2 hg2' hrow2 hb2 hlt2 mk hA bx x0 x1 x2 x3 x4 hin' hin2
  generalize Value.slice (some ⟨g2, o2, none⟩) (([] : List Int).length + 1) c2 = vo at *
  go_wp2
  go_loopg [3, 4] cs.length (fun g o i wr => ∃ (j : Nat) (ps : List Nat), j ≤ ps.length ∧ g = cs.length - j ∧ i = .int .i64 j ∧ PsOk cs.length ps ∧ F = foundF cs (cs.length - j) j ps ∧ IntRow (w.heap.size + 1) wr o (nums ps) ∧ Below w.heap.size w wr ∧ wr.rowIs w.heap.size 34 5 (five (.slice ac cs.length kc) (.int .i64 (an : Int)) (.int .i64 born) (.slice aD said.length kD) (.int .i64 code)))
  case atStart => exact ⟨0, [an], Nat.zero_le _, rfl, rfl, hP1, HF2.out, hV2, B2, bx2⟩
  case round =>
    obtain ⟨j, ps, hj, rfl, rfl, hps, hFF, hrow, hb, hbx⟩ := hrel
    have HFF : Hid (F = foundF cs (cs.length - j) j ps) := hFF
    clear hFF
    have hpl := hps.len
    obtain ⟨av, cv, hv, _⟩ := hrow.slice
    rw [nums_len] at hv
    subst hv
    by_cases hlt : j < ps.length
    · have hjz : (j : Int) < (ps.length : Int) := by omega
      obtain ⟨g1, o1, c1, e1, _⟩ := hrow.form (by rw [nums_len]; omega)
      obtain rfl : av = some ⟨g1, o1, none⟩ := by injection e1
      clear e1
      have d1 := (hrow.cell (i := j) (by rw [nums_len]; exact hlt)).1
      rw [nums_at] at d1
      have hpj : ps[j] < cs.length := hps.lt _ (List.getElem_mem hlt)
      have HST : Hid (F = foundF cs (cs.length - (j + 1)) (j + 1) (comeC cs.length ps cs[ps[j]])) := by show F = _; rw [HFF.out, foundF_step hps hlt hpj]
      generalize hpe : ps[j] = p at *
      clear hpe HFF
      obtain ⟨b, o, vt, vs', hac, hc⟩ := hcl p hpj
      subst hac
      obtain ⟨at', ct', hvt⟩ := hc.t.shape
      obtain ⟨as', ct2, hvs⟩ := hc.s.shape
      subst hvt hvs
      have q0 := cell_below hb hc.c0
      have q1 := cell_below hb hc.c1
      have q2 := cell_below hb hc.c2
      have q3 := cell_below hb hc.c3
      have q4 := cell_below hb hc.c4
      have q5 := cell_below hb hc.c5
      have hct := (hc.t.below hb).below (Below.refl _ _).drew
      have hcs' := (hc.s.below hb).below (Below.refl _ _).drew
      have hlen := hs2 p hpj
      obtain ⟨⟨x0, x1, x2, x3, x4⟩, xf⟩ := five_cells hbx
      clear xf x1 x2 x3 x4
      have hpz : (p : Int) < (cs.length : Int) := by omega
      have hbz := hb.size
      generalize hce : cs[p] = cp at *
      have HCE : Hid (cs[p] = cp) := hce
      clear hce hc
      go_wp2_with fail
      go_region_held3 (fun w' => w'.cell? ⟨g1, o1 + j, none⟩ = some (.int .i64 (p : Int)) ∧ w'.cell? ⟨w.heap.size, 0, none⟩ = some (.slice (some ⟨b, o, none⟩) cs.length kc) ∧ w'.cell? ⟨b, o + p * 6, none⟩ = some (.int .i64 cp.m) ∧ w'.cell? ⟨b, o + p * 6 + 1, none⟩ = some (.int .i64 cp.pc) ∧ w'.cell? ⟨b, o + p * 6 + 2, none⟩ = some (.slice at' cp.temps.length ct') ∧ w'.cell? ⟨b, o + p * 6 + 3, none⟩ = some (.slice as' cp.stack.length ct2) ∧ w'.cell? ⟨b, o + p * 6 + 4, none⟩ = some (.int .i64 cp.sender) ∧ w'.cell? ⟨b, o + p * 6 + 5, none⟩ = some (.bool cp.dead))
        (first | exact ⟨cell_below hb8 d1, cell_below hb8 x0, cell_below hb8 q0, cell_below hb8 q1, cell_below hb8 q2, cell_below hb8 q3, cell_below hb8 q4, cell_below hb8 q5⟩ | go_keep)
        ((go_at_call 80; refine (l11Refs_any _ _ cp _ hct hcs' hlen).mono ?_; rintro e w8 ⟨v8, rfl, hr8, hb8⟩))
      have hb8' : Below wr.heap.size wr w8 := (Below.refl wr.heap.size wr).drew.trans hb8
      have hr8' : IntRow wr.heap.size w8 v8 (refsC cp) := hr8
      have hrow8 := hrow.below hb8'
      have hbx8 := row_below hb8' hbx
      have B8 := hb.trans (hb8'.mono hbz)
      have z8 := hb8'.size
      have hne8 : ∀ q, (Value.slice (some ⟨g1, o1, none⟩) ps.length cv).ownBlock = some q → v8.ownBlock ≠ some q := fun q e e2 => by have h1 := (hrow.lt q e).2; have h2 := (hr8'.lt q e2).1; omega
      obtain ⟨a8, c8, hv8, hl8⟩ := hr8'.slice
      subst hv8
      have HREF : Hid (comeC cs.length ps cp = (refsC cp).foldl (comeP cs.length) ps) := (come_refsC _ _ _).symm
      have hps' := hps
      clear hb8 hb8' hr8 hrow hbx hb hct hcs' q0 q1 q2 q3 q4 q5 x0 d1
      generalize refsC cp = rs at *
      unfold maxLen at hl8
      generalize hvo : Value.slice (some ⟨g1, o1, none⟩) ps.length cv = vo2 at *
      clear hvo
      go_wp2
      go_loopg [3, 6] rs.length (fun g ov i wr2 => ∃ k : Nat, k ≤ rs.length ∧ g = rs.length - k ∧ i = .int .i64 k ∧ IntRow (w.heap.size + 1) wr2 ov (nums ((rs.take k).foldl (comeP cs.length) ps)) ∧ IntRow wr.heap.size wr2 (.slice a8 rs.length c8) rs ∧ (∀ q, ov.ownBlock = some q → (Value.slice a8 rs.length c8).ownBlock ≠ some q) ∧ Below w.heap.size w wr2 ∧ wr.heap.size ≤ wr2.heap.size ∧ wr2.rowIs w.heap.size 34 5 (five (.slice (some ⟨b, o, none⟩) cs.length kc) (.int .i64 (an : Int)) (.int .i64 born) (.slice aD said.length kD) (.int .i64 code)))
      case atStart => exact ⟨0, Nat.zero_le _, rfl, rfl, hrow8, hr8', hne8, B8, z8, hbx8⟩
      case round =>
        obtain ⟨k, hk, rfl, rfl, hrow, hrr, hne, hb, hzr, hbx⟩ := hrel
        have HNE := fun q => hne q
        clear hne
        have hpk : PsOk cs.length ((rs.take k).foldl (comeP cs.length) ps) := hps'.fold _
        have hpkl := hpk.len
        by_cases hltk : k < rs.length
        · obtain ⟨g3, o3, c3, e3, _⟩ := hrr.form (by omega)
          obtain rfl : a8 = some ⟨g3, o3, none⟩ := by injection e3
          clear e3
          have d1 := (hrr.cell hltk).1
          obtain ⟨⟨x0, x1, x2, x3, x4⟩, xf⟩ := five_cells hbx
          clear xf x1 x2 x3 x4
          have hkz : (k : Int) < (rs.length : Int) := by omega
          have hft := fold_take (n := cs.length) (ps := ps) hltk
          generalize (rs.take k).foldl (comeP cs.length) ps = ps2 at *
          generalize rs[k] = r at *
          have HFT : Hid ((rs.take (k + 1)).foldl (comeP cs.length) ps = comeP cs.length ps2 r) := hft
          clear hft
          obtain ⟨ao, co, hvo, _⟩ := hrow.slice
          rw [nums_len] at hvo
          subst hvo
          by_cases hI : inR r 0 ((cs.length : Int) - 1) = false
          · have hE : Hid ((rs.take (k + 1)).foldl (comeP cs.length) ps = ps2) := by
              show _ = _
              rw [HFT.out, comeP_out (fun e => by have : inR r 0 ((cs.length : Int) - 1) = true := inR_true.2 (by omega); rw [hI] at this; cases this)]
            go_wp2
            go_quiet ((first | (go_at_call 51; exact Calls.quiet_of_same (l6In_any _ _ _ _)) | (go_at_call 58; exact Calls.quiet_of_same (l11Has_any _ _ ps2 _ _ (hrow.drewN _)))))
            go_wp2
            go_roundg (rs.length - (k + 1))
            case measure => omega
            case rel => exact ⟨k + 1, by omega, rfl, by go_num, by rw [hE.out]; exact hrow.drewN _, hrr.drewN _, HNE, below_drewN hb _, hzr, hbx⟩
          have hI' : inR r 0 ((cs.length : Int) - 1) = true := by simpa using hI
          clear hI
          have hI2 := inR_true.1 hI'
          obtain ⟨rn, rfl⟩ := Int.eq_ofNat_of_zero_le hI2.1
          by_cases hN : numOf ps2 rn = -1
          · have hE : Hid ((rs.take (k + 1)).foldl (comeP cs.length) ps = ps2 ++ [rn]) := by
              show _ = _
              rw [HFT.out, comeP_yes (by omega) hN]
            go_wp2
            go_quiet ((first | (go_at_call 51; exact Calls.quiet_of_same (l6In_any _ _ _ _)) | (go_at_call 58; exact Calls.quiet_of_same (l11Has_any _ _ ps2 _ _ (hrow.drewN _)))))
            go_wp2_with (at_builtin; refine append_i _ (by rfl) _ _ (by rfl) (w.heap.size + 1) _ (nums ps2) (by rfl) (hrow.drewN nq) (rn : Int) _ _ rfl (by rfl) (by rw [nums_len]; omega) (by show w.heap.size + 1 ≤ wr.heap.size; omega) ?_; intro g2' o2' c2' w2' hrow2 hg2 hb2 hlt2)
            have hbd : Below w.heap.size w (wr.drewN nq) := below_drewN hb nq
            have hb3 : Below w.heap.size w w2' := hbd.grown hg2 hbd.size (fun q e => by have := (hrow.lt q e).1; omega)
            have hp3 : IntRow _ w2' (.slice (some ⟨g3, o3, none⟩) rs.length c8) rs := (hrr.drewN nq).kept hg2.size fun q e => hg2.block q (hrr.lt q e).2 (fun e2 => HNE q e2.symm e)
            have hz3 : wr.heap.size ≤ w2'.heap.size := hg2.size
            have hbx3 := (show (wr.drewN nq).rowIs w.heap.size 34 5 _ from hbx).of_block (hg2.block w.heap.size (by show w.heap.size < wr.heap.size; exact hbx.lt) (fun e => by have := (hrow.lt _ e.symm).1; omega))
            have hne3 : ∀ q, (Value.slice (some ⟨g2', o2', none⟩) ((nums ps2).length + 1) c2').ownBlock = some q → (Value.slice (some ⟨g3, o3, none⟩) rs.length c8).ownBlock ≠ some q := fun q e e2 => by
              simp [Value.ownBlock] at e
              subst e
              rcases hb2 with h2 | h2
              · exact HNE _ h2 e2
              · have := (hrr.lt _ e2).2
                have h9 : (wr.drewN nq).heap.size = wr.heap.size := rfl
                omega
            rw [nums_snoc] at hrow2
            have hrow3 : IntRow (w.heap.size + 1) w2' (.slice (some ⟨g2', o2', none⟩) ((nums ps2).length + 1) c2') (nums ((rs.take (k + 1)).foldl (comeP cs.length) ps)) := by rw [hE.out]; exact hrow2
            clear hg2 hb2 hrow2 hrow hrr hbd
            go_roundg (rs.length - (k + 1))
            case measure => omega
            case rel => exact ⟨k + 1, by omega, rfl, by go_num, hrow3, hp3, hne3, hb3, by omega, hbx3⟩
          · have hE : Hid ((rs.take (k + 1)).foldl (comeP cs.length) ps = ps2) := by
              show _ = _
              rw [HFT.out, comeP_in hN]
            have hN2 : ¬ numOf ps2 rn < 0 := by have := numOf_ge ps2 rn; omega
            clear hN
            go_wp2
            go_quiet ((first | (go_at_call 51; exact Calls.quiet_of_same (l6In_any _ _ _ _)) | (go_at_call 58; exact Calls.quiet_of_same (l11Has_any _ _ ps2 _ _ (hrow.drewN _)))))
            go_wp2
            go_roundg (rs.length - (k + 1))
            case measure => omega
            case rel => exact ⟨k + 1, by omega, rfl, by go_num, by rw [hE.out]; exact hrow.drewN _, hrr.drewN _, HNE, below_drewN hb _, hzr, hbx⟩
        · obtain rfl : k = rs.length := by omega
          rw [List.take_length, ← HREF.out] at hrow hpk
          obtain ⟨t, htt⟩ := comeC_pre cs.length ps cp
          have hlen2 : Hid (j + 1 ≤ (comeC cs.length ps cp).length) := by show _ ≤ _; rw [htt, List.length_append]; omega
          have HST2 : Hid (F = foundF cs (cs.length - (j + 1)) (j + 1) (comeC cs.length ps cp)) := HST.out
          clear htt HST
          go_wp2
          go_roundg (cs.length - (j + 1))
          case measure => omega
          case rel => exact ⟨j + 1, _, hlen2.out, rfl, by go_num, hpk, HST2.out, hrow, hb, hbx⟩
    · obtain rfl : j = ps.length := by omega
      have hE : Hid (F = ps) := by show F = ps; rw [HFF.out, foundF_end _ (by omega)]
      go_wp2
      go_ret
      exact ⟨_, rfl, by rw [hE.out]; exact hrow.mono (by omega), hb⟩
end Go.Proofs.Ytnffknlgaiehdaa
