/-
  What is seen of a heap, by the model: l11Found answers the calls that can be come to.
-/
import Derived.Test.YtfpodljalccpnaaVSpec
import Derived.Deep.QuietTactic
import Derived.Test.YtfpodljalccpnaaStepS
import Derived.Test.YtfpodljalccpnaaVals
import Derived.Test.YtfpodljalccpnaaTakes2
import Derived.Test.YtfpodljalccpnaaViewAgain
import Derived.Test.YtfpodljalccpnaaImplOk
import Derived.Deep.RegionHeld3

namespace Go.Proofs.Ytfpodljalccpnaa
open Go.RowKit
def Hp.short (h : Hp) : Prop := h.calls.length ≤ 1000 ∧ ∀ i, (hi : i < h.calls.length) → h.calls[i].temps.length ≤ 1000 ∧ h.calls[i].stack.length ≤ 1000
theorem fold_take {n : Nat} {ps : List Nat} {rs : List Int} {k : Nat} (h : k < rs.length) : (rs.take (k + 1)).foldl (comeP n) ps = comeP n ((rs.take k).foldl (comeP n) ps) rs[k] := by
  rw [List.take_add_one, List.getElem?_eq_getElem h, List.foldl_append]
  rfl
theorem PsOk.fold {n : Nat} : ∀ (rs : List Int) {ps : List Nat}, PsOk n ps → PsOk n (rs.foldl (comeP n) ps)
  | [], _, h => h
  | r :: t, _, h => PsOk.fold t (h.come r)
theorem PsOk.nil (n : Nat) : PsOk n [] := ⟨by simp, fun p hp => by cases hp⟩
set_option maxRecDepth 100000 in
set_option maxHeartbeats 4000000 in
theorem l11Found_any (vc vs : Value) (h : Hp) (w : World) (hh : HeapAt w vc vs h) (hsh : h.short) :
    Calls Try.prog 39 #[.agg (hpCells vc vs h)] w fun e w' => ∃ v, e = .returned v ∧ IntRow w.heap.size w' v (nums (found h)) ∧ Below w.heap.size w w' := by
  unfold hpCells
  obtain ⟨cs, now, born, said, code⟩ := h
  obtain ⟨hhc, hhs⟩ := hh
  obtain ⟨hs1, hs2⟩ := hsh
  simp only [] at hhc hhs hs1 hs2 ⊢
  obtain ⟨aD, kD, hvs⟩ := hhs.shape
  subst hvs
  obtain ⟨ac, kc, rfl, _, hcl⟩ := id hhc
  have hA : Below w.heap.size w ((w.alloc (.cells #[.slice ac cs.length kc, .int .i64 now, .int .i64 born, .slice aD said.length kD, .int .i64 code] 29)).alloc (.cells #[] 3)) := ((Below.refl _ _).alloc (Nat.le_refl _) _).alloc (by simp) _
  have bx := (five_new w 29 (.slice ac cs.length kc) (.int .i64 now) (.int .i64 born) (.slice aD said.length kD) (.int .i64 code)).alloc (.cells #[] 3)
  have mk := (int_made (w.alloc (.cells #[.slice ac cs.length kc, .int .i64 now, .int .i64 born, .slice aD said.length kD, .int .i64 code] 29))).mono (B' := w.heap.size + 1) (by simp)
  simp only [World.size_alloc] at mk
  obtain ⟨F, hF⟩ : ∃ F, F = found ⟨cs, now, born, said, code⟩ := ⟨_, rfl⟩
  rw [← hF]
  have HF : Hid (F = foundF cs cs.length 0 (comeP cs.length [] now)) := hF
  clear hF
  go_enter Try.func39, Try.ntmps39
  go_upto_region 2 with fail
  generalize (w.alloc (.cells #[.slice ac cs.length kc, .int .i64 now, .int .i64 born, .slice aD said.length kD, .int .i64 code] 29)).alloc (.cells #[] 3) = W1 at *
  obtain ⟨⟨x0, x1, x2, x3, x4⟩, xf⟩ := five_cells bx
  clear xf
  have zA := hA.size
  have yA := bx.lt
  have hwn : IntKind.i64.wrap ((cs.length : Int) - 1) = (cs.length : Int) - 1 := by rw [IntKind.wrap_i64]; omega
  by_cases hin : inR now 0 ((cs.length : Int) - 1) = false
  · have hFE : Hid (F = []) := by
      show F = []
      rw [HF.out, comeP_out (fun e => by have : inR now 0 ((cs.length : Int) - 1) = true := inR_true.2 (by omega); rw [hin] at this; cases this), foundF_end _ (by simp)]
    go_wp2_with (go_at_call 34; refine (l6In_any _ _ _ _).mono ?_; rintro e w' ⟨rfl, hw⟩; obtain rfl := hw.symm)
    go_ret
    exact ⟨_, rfl, by rw [hFE.out]; exact mk.mono (by omega), hA⟩
  have hin' : inR now 0 ((cs.length : Int) - 1) = true := by simpa using hin
  clear hin
  have hin2 := inR_true.1 hin'
  obtain ⟨an, rfl⟩ := Int.eq_ofNat_of_zero_le hin2.1
  have han : an < cs.length := by omega
  have HF2 : Hid (F = foundF cs (cs.length - 0) 0 [an]) := by
    show F = _
    rw [HF.out, comeP_yes han (numOf_none (fun i hi => absurd hi (Nat.not_lt_zero _)))]
    rfl
  have hP1 : PsOk cs.length [an] := ⟨by simp, fun p hp => by simp at hp; omega⟩
  clear HF
  go_upto_region 5 with (first | (go_at_call 34; refine (l6In_any _ _ _ _).mono ?_; rintro e w' ⟨rfl, hw⟩; obtain rfl := hw.symm) | (at_builtin; refine append_i _ (by rfl) _ _ (by rfl) (w.heap.size + 1) _ [] (by rfl) mk (an : Int) _ _ rfl (by rfl) (by simp) (by omega) ?_; intro g2 o2 c2 w2 hrow2 hg2 hb2 hlt2))
  have hg2' : W1.grownBy w2 (some (w.heap.size + 1)) := hg2
  have B2 : Below w.heap.size w w2 := hA.grown hg2' zA (fun q e => by cases e; omega)
  have bx2 := bx.of_block (hg2'.block w.heap.size yA (by simp))
  have hV2 : IntRow (w.heap.size + 1) w2 (.slice (some ⟨g2, o2, none⟩) (([] : List Int).length + 1) c2) (nums [an]) := hrow2
  clear hg2 hg2' hrow2 hb2 hlt2 mk hA bx x0 x1 x2 x3 x4 hin' hin2
  generalize Value.slice (some ⟨g2, o2, none⟩) (([] : List Int).length + 1) c2 = vo at *
  go_wp2
  go_loopg [3, 4] cs.length (fun g o i wr => ∃ (j : Nat) (ps : List Nat), j ≤ ps.length ∧ g = cs.length - j ∧ i = .int .i64 j ∧ PsOk cs.length ps ∧ F = foundF cs (cs.length - j) j ps ∧ IntRow (w.heap.size + 1) wr o (nums ps) ∧ Below w.heap.size w wr ∧ wr.rowIs w.heap.size 29 5 (five (.slice ac cs.length kc) (.int .i64 (an : Int)) (.int .i64 born) (.slice aD said.length kD) (.int .i64 code)))
  case atStart => exact ⟨0, [an], Nat.zero_le _, rfl, rfl, hP1, HF2.out, hV2, B2, bx2⟩
  case round =>
    obtain ⟨j, ps, hj, rfl, rfl, hps, hFF, hrow, hb, hbx⟩ := hrel
    have HFF : Hid (F = foundF cs (cs.length - j) j ps) := hFF
    clear hFF
    have hpl := hps.len
    obtain ⟨av, cv, hv, _⟩ := hrow.slice
    rw [nums_len] at hv
    subst hv
    by_cases hlt : j < ps.length
    · have hjz : (j : Int) < (ps.length : Int) := by omega
      obtain ⟨g1, o1, c1, e1, _⟩ := hrow.form (by rw [nums_len]; omega)
      obtain rfl : av = some ⟨g1, o1, none⟩ := by injection e1
      clear e1
      have d1 := (hrow.cell (i := j) (by rw [nums_len]; exact hlt)).1
      rw [nums_at] at d1
      have hpj : ps[j] < cs.length := hps.lt _ (List.getElem_mem hlt)
      have HST : Hid (F = foundF cs (cs.length - (j + 1)) (j + 1) (comeC cs.length ps cs[ps[j]])) := by show F = _; rw [HFF.out, foundF_step hps hlt hpj]
      generalize hpe : ps[j] = p at *
      clear hpe HFF
      obtain ⟨b, o, vt, vs', hac, hc⟩ := hcl p hpj
      subst hac
      obtain ⟨at', ct', hvt⟩ := hc.t.shape
      obtain ⟨as', ct2, hvs⟩ := hc.s.shape
      subst hvt hvs
      have q0 := cell_below hb hc.c0
      have q1 := cell_below hb hc.c1
      have q2 := cell_below hb hc.c2
      have q3 := cell_below hb hc.c3
      have q4 := cell_below hb hc.c4
      have q5 := cell_below hb hc.c5
      have hct := (hc.t.below hb).below (Below.refl _ _).drew
      have hcs' := (hc.s.below hb).below (Below.refl _ _).drew
      have hlen := hs2 p hpj
      obtain ⟨⟨x0, x1, x2, x3, x4⟩, xf⟩ := five_cells hbx
      clear xf x1 x2 x3 x4
      have hpz : (p : Int) < (cs.length : Int) := by omega
      have hbz := hb.size
      generalize hce : cs[p] = cp at *
      have HCE : Hid (cs[p] = cp) := hce
      clear hce hc
      go_wp2_with fail
      go_region_held3 (fun w' => w'.cell? ⟨g1, o1 + j, none⟩ = some (.int .i64 (p : Int)) ∧ w'.cell? ⟨w.heap.size, 0, none⟩ = some (.slice (some ⟨b, o, none⟩) cs.length kc) ∧ w'.cell? ⟨b, o + p * 6, none⟩ = some (.int .i64 cp.m) ∧ w'.cell? ⟨b, o + p * 6 + 1, none⟩ = some (.int .i64 cp.pc) ∧ w'.cell? ⟨b, o + p * 6 + 2, none⟩ = some (.slice at' cp.temps.length ct') ∧ w'.cell? ⟨b, o + p * 6 + 3, none⟩ = some (.slice as' cp.stack.length ct2) ∧ w'.cell? ⟨b, o + p * 6 + 4, none⟩ = some (.int .i64 cp.sender) ∧ w'.cell? ⟨b, o + p * 6 + 5, none⟩ = some (.bool cp.dead))
        (first | exact ⟨cell_below hb8 d1, cell_below hb8 x0, cell_below hb8 q0, cell_below hb8 q1, cell_below hb8 q2, cell_below hb8 q3, cell_below hb8 q4, cell_below hb8 q5⟩ | go_keep)
        ((go_at_call 57; refine (l11Refs_any _ _ cp _ hct hcs' hlen).mono ?_; rintro e w8 ⟨v8, rfl, hr8, hb8⟩))
      have hb8' : Below wr.heap.size wr w8 := (Below.refl wr.heap.size wr).drew.trans hb8
      have hr8' : IntRow wr.heap.size w8 v8 (refsC cp) := hr8
      have hrow8 := hrow.below hb8'
      have hbx8 := row_below hb8' hbx
      have B8 := hb.trans (hb8'.mono hbz)
      have z8 := hb8'.size
      have hne8 : ∀ q, (Value.slice (some ⟨g1, o1, none⟩) ps.length cv).ownBlock = some q → v8.ownBlock ≠ some q := fun q e e2 => by have h1 := (hrow.lt q e).2; have h2 := (hr8'.lt q e2).1; omega
      obtain ⟨a8, c8, hv8, hl8⟩ := hr8'.slice
      subst hv8
      have HREF : Hid (comeC cs.length ps cp = (refsC cp).foldl (comeP cs.length) ps) := (come_refsC _ _ _).symm
      have hps' := hps
      clear hb8 hb8' hr8 hrow hbx hb hct hcs' q0 q1 q2 q3 q4 q5 x0 d1
      generalize refsC cp = rs at *
      unfold maxLen at hl8
      generalize hvo : Value.slice (some ⟨g1, o1, none⟩) ps.length cv = vo2 at *
      clear hvo
      go_wp2
      go_loopg [3, 6] rs.length (fun g ov i wr2 => ∃ k : Nat, k ≤ rs.length ∧ g = rs.length - k ∧ i = .int .i64 k ∧ IntRow (w.heap.size + 1) wr2 ov (nums ((rs.take k).foldl (comeP cs.length) ps)) ∧ IntRow wr.heap.size wr2 (.slice a8 rs.length c8) rs ∧ (∀ q, ov.ownBlock = some q → (Value.slice a8 rs.length c8).ownBlock ≠ some q) ∧ Below w.heap.size w wr2 ∧ wr.heap.size ≤ wr2.heap.size ∧ wr2.rowIs w.heap.size 29 5 (five (.slice (some ⟨b, o, none⟩) cs.length kc) (.int .i64 (an : Int)) (.int .i64 born) (.slice aD said.length kD) (.int .i64 code)))
      case atStart => exact ⟨0, Nat.zero_le _, rfl, rfl, hrow8, hr8', hne8, B8, z8, hbx8⟩
      case round =>
        obtain ⟨k, hk, rfl, rfl, hrow, hrr, hne, hb, hzr, hbx⟩ := hrel
        have HNE := fun q => hne q
        clear hne
        have hpk : PsOk cs.length ((rs.take k).foldl (comeP cs.length) ps) := hps'.fold _
        have hpkl := hpk.len
        by_cases hltk : k < rs.length
        · obtain ⟨g3, o3, c3, e3, _⟩ := hrr.form (by omega)
          obtain rfl : a8 = some ⟨g3, o3, none⟩ := by injection e3
          clear e3
          have d1 := (hrr.cell hltk).1
          obtain ⟨⟨x0, x1, x2, x3, x4⟩, xf⟩ := five_cells hbx
          clear xf x1 x2 x3 x4
          have hkz : (k : Int) < (rs.length : Int) := by omega
          have hft := fold_take (n := cs.length) (ps := ps) hltk
          generalize (rs.take k).foldl (comeP cs.length) ps = ps2 at *
          generalize rs[k] = r at *
          have HFT : Hid ((rs.take (k + 1)).foldl (comeP cs.length) ps = comeP cs.length ps2 r) := hft
          clear hft
          obtain ⟨ao, co, hvo, _⟩ := hrow.slice
          rw [nums_len] at hvo
          subst hvo
          by_cases hI : inR r 0 ((cs.length : Int) - 1) = false
          · have hE : Hid ((rs.take (k + 1)).foldl (comeP cs.length) ps = ps2) := by
              show _ = _
              rw [HFT.out, comeP_out (fun e => by have : inR r 0 ((cs.length : Int) - 1) = true := inR_true.2 (by omega); rw [hI] at this; cases this)]
            go_wp2
            go_quiet ((first | (go_at_call 34; exact Calls.quiet_of_same (l6In_any _ _ _ _)) | (go_at_call 42; exact Calls.quiet_of_same (l11Has_any _ _ ps2 _ _ (hrow.drewN _)))))
            go_wp2
            go_roundg (rs.length - (k + 1))
            case measure => omega
            case rel => exact ⟨k + 1, by omega, rfl, by go_num, by rw [hE.out]; exact hrow.drewN _, hrr.drewN _, HNE, below_drewN hb _, hzr, hbx⟩
          have hI' : inR r 0 ((cs.length : Int) - 1) = true := by simpa using hI
          clear hI
          have hI2 := inR_true.1 hI'
          obtain ⟨rn, rfl⟩ := Int.eq_ofNat_of_zero_le hI2.1
          by_cases hN : numOf ps2 rn = -1
          · have hE : Hid ((rs.take (k + 1)).foldl (comeP cs.length) ps = ps2 ++ [rn]) := by
              show _ = _
              rw [HFT.out, comeP_yes (by omega) hN]
            go_wp2
            go_quiet ((first | (go_at_call 34; exact Calls.quiet_of_same (l6In_any _ _ _ _)) | (go_at_call 42; exact Calls.quiet_of_same (l11Has_any _ _ ps2 _ _ (hrow.drewN _)))))
            go_wp2_with (at_builtin; refine append_i _ (by rfl) _ _ (by rfl) (w.heap.size + 1) _ (nums ps2) (by rfl) (hrow.drewN nq) (rn : Int) _ _ rfl (by rfl) (by rw [nums_len]; omega) (by show w.heap.size + 1 ≤ wr.heap.size; omega) ?_; intro g2' o2' c2' w2' hrow2 hg2 hb2 hlt2)
            have hbd : Below w.heap.size w (wr.drewN nq) := below_drewN hb nq
            have hb3 : Below w.heap.size w w2' := hbd.grown hg2 hbd.size (fun q e => by have := (hrow.lt q e).1; omega)
            have hp3 : IntRow _ w2' (.slice (some ⟨g3, o3, none⟩) rs.length c8) rs := (hrr.drewN nq).kept hg2.size fun q e => hg2.block q (hrr.lt q e).2 (fun e2 => HNE q e2.symm e)
            have hz3 : wr.heap.size ≤ w2'.heap.size := hg2.size
            have hbx3 := (show (wr.drewN nq).rowIs w.heap.size 29 5 _ from hbx).of_block (hg2.block w.heap.size (by show w.heap.size < wr.heap.size; exact hbx.lt) (fun e => by have := (hrow.lt _ e.symm).1; omega))
            have hne3 : ∀ q, (Value.slice (some ⟨g2', o2', none⟩) ((nums ps2).length + 1) c2').ownBlock = some q → (Value.slice (some ⟨g3, o3, none⟩) rs.length c8).ownBlock ≠ some q := fun q e e2 => by
              simp [Value.ownBlock] at e
              subst e
              rcases hb2 with h2 | h2
              · exact HNE _ h2 e2
              · have := (hrr.lt _ e2).2
                have h9 : (wr.drewN nq).heap.size = wr.heap.size := rfl
                omega
            rw [nums_snoc] at hrow2
            have hrow3 : IntRow (w.heap.size + 1) w2' (.slice (some ⟨g2', o2', none⟩) ((nums ps2).length + 1) c2') (nums ((rs.take (k + 1)).foldl (comeP cs.length) ps)) := by rw [hE.out]; exact hrow2
            clear hg2 hb2 hrow2 hrow hrr hbd
            go_roundg (rs.length - (k + 1))
            case measure => omega
            case rel => exact ⟨k + 1, by omega, rfl, by go_num, hrow3, hp3, hne3, hb3, by omega, hbx3⟩
          · have hE : Hid ((rs.take (k + 1)).foldl (comeP cs.length) ps = ps2) := by
              show _ = _
              rw [HFT.out, comeP_in hN]
            have hN2 : ¬ numOf ps2 rn < 0 := by have := numOf_ge ps2 rn; omega
            clear hN
            go_wp2
            go_quiet ((first | (go_at_call 34; exact Calls.quiet_of_same (l6In_any _ _ _ _)) | (go_at_call 42; exact Calls.quiet_of_same (l11Has_any _ _ ps2 _ _ (hrow.drewN _)))))
            go_wp2
            go_roundg (rs.length - (k + 1))
            case measure => omega
            case rel => exact ⟨k + 1, by omega, rfl, by go_num, by rw [hE.out]; exact hrow.drewN _, hrr.drewN _, HNE, below_drewN hb _, hzr, hbx⟩
        · obtain rfl : k = rs.length := by omega
          rw [List.take_length, ← HREF.out] at hrow hpk
          obtain ⟨t, htt⟩ := comeC_pre cs.length ps cp
          have hlen2 : Hid (j + 1 ≤ (comeC cs.length ps cp).length) := by show _ ≤ _; rw [htt, List.length_append]; omega
          have HST2 : Hid (F = foundF cs (cs.length - (j + 1)) (j + 1) (comeC cs.length ps cp)) := HST.out
          clear htt HST
          go_wp2
          go_roundg (cs.length - (j + 1))
          case measure => omega
          case rel => exact ⟨j + 1, _, hlen2.out, rfl, by go_num, hpk, HST2.out, hrow, hb, hbx⟩
    · obtain rfl : j = ps.length := by omega
      have hE : Hid (F = ps) := by show F = ps; rw [HFF.out, foundF_end _ (by omega)]
      go_wp2
      go_ret
      exact ⟨_, rfl, by rw [hE.out]; exact hrow.mono (by omega), hb⟩
end Go.Proofs.Ytfpodljalccpnaa

/-
  A piece of a row of values; one operation of a heap, case by case.
-/
namespace Go.Proofs.Ytfpodljalccpnaa
open Go.RowKit
theorem setH_now {h : Hp} {j : Nat} (hn : h.now = j) (c : Cl) : setH h c = { h with calls := h.calls.set j c } := by
  unfold setH
  rw [hn, Int.toNat_natCast]
theorem val_from (w : World) (a : Option Addr) (n cap k : Nat) (hk : k ≤ n) : (Instr.slice 27 (.slice a n cap) (some (.int .i64 (k : Int))) none none).run Try.prog w = .ok (sliced a k n cap 2) w := by
  have hs : ∀ w, (sizeOf (Try.prog.elem 27)).run Try.prog w = .ok 2 w := fun w => by kernel_rfl
  rw [run_slice_l w 27 a n cap (by kernel_rfl) .i64 k (by omega) (by omega)]
  simp [hs, Result.andThen]
theorem val_to (w : World) (a : Option Addr) (n cap k : Nat) (hk : k ≤ cap) : (Instr.slice 27 (.slice a n cap) none (some (.int .i64 (k : Int))) none).run Try.prog w = .ok (sliced a 0 k cap 2) w := by
  have hs : ∀ w, (sizeOf (Try.prog.elem 27)).run Try.prog w = .ok 2 w := fun w => by kernel_rfl
  rw [run_slice_h w 27 a n cap (by kernel_rfl) .i64 k (by omega) (by omega)]
  simp [hs, Result.andThen]
theorem PairRow.piece {B : Nat} {w : World} {a : Option Addr} {n cap : Nat} {xs : List (Int × Int)} (h : PairRow B w (.slice a n cap) xs) {l k : Nat} (hl : l ≤ k) (hk : k ≤ xs.length) : OpsAt w (sliced a l k cap 2) ((xs.take k).drop l) ∧ k ≤ cap := by
  rcases h with ⟨h0, rfl⟩ | ⟨g, off, cp, hv, hB, hg, hlc, hc, hsp, hx⟩
  · injection h0 with e1 e2 e3
    subst e1 e2 e3
    obtain rfl : k = 0 := by simpa using hk
    obtain rfl : l = 0 := by omega
    exact ⟨⟨_, _, rfl, by simp, fun i hi => absurd hi (by simp)⟩, Nat.le_refl _⟩
  · injection hv with e1 e2 e3
    subst e1 e2 e3
    refine ⟨?_, by omega⟩
    have hlen : ((xs.take k).drop l).length = k - l := by simp; omega
    by_cases e : l = cap
    · have hkl : k - l = 0 := by omega
      have hn : (xs.take k).drop l = [] := List.eq_nil_of_length_eq_zero (by omega)
      rw [hn]
      unfold sliced
      exact ⟨_, _, by rw [List.length_nil, ← hkl], by simp, fun i hi => absurd hi (by simp)⟩
    · unfold sliced
      refine ⟨_, _, by rw [hlen], by rw [hlen]; unfold maxLen at *; omega, fun i hi => ?_⟩
      rw [hlen] at hi
      have hi2 : l + i < xs.length := by omega
      obtain ⟨y0, y1⟩ := hx (l + i) hi2
      refine ⟨g, off + l * 2, ?_, ?_, ?_⟩
      · rw [if_neg (by omega)]
        simp [Addr.add]
      · rw [show off + l * 2 + i * 2 = off + (l + i) * 2 by omega, y0]
        simp
      · rw [show off + l * 2 + i * 2 + 1 = off + (l + i) * 2 + 1 by omega, y1]
        simp
theorem takes_bound {ms : Ms} (hp : progOk ms = true) (kk a : Int) : (0 ≤ (takesOf ms kk a).1 ∧ (takesOf ms kk a).1 ≤ 2) ∧ 0 ≤ (takesOf ms kk a).2 ∧ (takesOf ms kk a).2 ≤ 1 := by
  unfold takesOf
  split
  · split
    · rename_i q
      rw [inR_true] at q
      have hq : a.toNat < ms.length := by omega
      rw [getD_at hq]
      have := (prog_meth hp hq).args
      simp only []
      omega
    · decide
  · simp only []
    unfold tk lv
    refine ⟨?_, ?_⟩
    · split
      · decide
      · split <;> decide
    · split <;> decide
theorem stepH_past {ms : Ms} {h : Hp} {j m pc : Nat} (hn : h.now = j) (hj : j < h.calls.length) (hm : h.calls[j].m = m) (hpc : h.calls[j].pc = pc) (hml : m < ms.length) (hl : ms[m].2.2.length ≤ pc) : stepH ms h = { h with code := 2 } := by
  unfold stepH
  simp only [cur_at hn hj, hm, hpc, Int.toNat_natCast, getD_at hml]
  rw [if_pos (by omega)]
  rfl
theorem opNext_at {ms : Ms} {h : Hp} {j m pc : Nat} (hj : j < h.calls.length) (hm : h.calls[j].m = m) (hpc : h.calls[j].pc = pc) (hml : m < ms.length) (hpl : pc < ms[m].2.2.length) : opNext ms h.calls[j] = ms[m].2.2[pc] := by
  unfold opNext
  rw [hm, hpc, Int.toNat_natCast, Int.toNat_natCast, getD_at hml, getD_at hpl]
theorem stepH_at {ms : Ms} {h : Hp} {j m pc : Nat} (hn : h.now = j) (hj : j < h.calls.length) (hm : h.calls[j].m = m) (hpc : h.calls[j].pc = pc) (hml : m < ms.length) (hpl : pc < ms[m].2.2.length) {kk a t l : Int} (ho : ms[m].2.2[pc] = (kk, a)) (ht : takesOf ms kk a = (t, l)) :
    stepH ms h = if (h.calls[j].stack.length : Int) - t < 0 ∨ 6 < (h.calls[j].stack.length : Int) - t + l then { h with code := 2 }
      else if kindsOk kk (h.calls[j].stack.drop ((h.calls[j].stack.length : Int) - t).toNat) = false then { h with code := 2 }
      else doH ms { h with calls := h.calls.set j { h.calls[j] with stack := h.calls[j].stack.take ((h.calls[j].stack.length : Int) - t).toNat, pc := (pc : Int) + 1 } } kk a (h.calls[j].stack.drop ((h.calls[j].stack.length : Int) - t).toNat) := by
  unfold stepH
  simp only [cur_at hn hj, opNext_at hj hm hpc hml hpl, ho, ht]
  rw [hm, Int.toNat_natCast, getD_at hml, if_neg (by rw [hpc]; omega), setH_now hn, hpc]
  rfl
theorem doing_at {ms : Ms} {h : Hp} {j m pc : Nat} (hg : Good ms h) (hc : h.code = 0) (hn : h.now = j) (hj : j < h.calls.length) (hm : h.calls[j].m = m) (hpc : h.calls[j].pc = pc) (hml : m < ms.length) (hpl : pc < ms[m].2.2.length) {kk a t l : Int} (ho : ms[m].2.2[pc] = (kk, a)) (ht : takesOf ms kk a = (t, l))
    (h2 : ¬ ((h.calls[j].stack.length : Int) - t < 0 ∨ 6 < (h.calls[j].stack.length : Int) - t + l)) (h3 : kindsOk kk (h.calls[j].stack.drop ((h.calls[j].stack.length : Int) - t).toNat) = true) :
    Doing ms { h with calls := h.calls.set j { h.calls[j] with stack := h.calls[j].stack.take ((h.calls[j].stack.length : Int) - t).toNat, pc := (pc : Int) + 1 } } j kk a (h.calls[j].stack.drop ((h.calls[j].stack.length : Int) - t).toNat) := by
  have h1 : ¬ ((ms.getD (curC h).m.toNat (0, 0, [])).2.2.length : Int) ≤ (curC h).pc := by
    rw [cur_at hn hj, hm, Int.toNat_natCast, getD_at hml, hpc]
    omega
  have e : opNext ms (curC h) = (kk, a) := by rw [cur_at hn hj, opNext_at hj hm hpc hml hpl, ho]
  obtain ⟨j', d⟩ := hg.doing hc h1 (by rw [e]; simp only []; rw [ht, cur_at hn hj]; exact h2) (by rw [e]; simp only []; rw [ht, cur_at hn hj]; exact h3)
  rw [e] at d
  simp only [] at d
  rw [ht, cur_at hn hj, setH_now hn, hpc] at d
  have hjj : j' = j := by have := d.now; simp only [] at this; omega
  subst hjj
  exact d
end Go.Proofs.Ytfpodljalccpnaa

/-
  What is seen of a heap, by the program: calls in the order in which they are come to (come, comeToVals, numberOf).
-/
namespace Go.Proofs.Ytfpodljalccpnaa
open Go.RowKit
def tabN (n : Nat) (ps : List Nat) : List Int := (List.range n).map fun (p : Nat) => numOf ps p
theorem tabN_len (n : Nat) (ps : List Nat) : (tabN n ps).length = n := by simp [tabN]
theorem tabN_at (n : Nat) (ps : List Nat) (p : Nat) (h : p < (tabN n ps).length) : (tabN n ps)[p] = numOf ps p := by simp [tabN]
theorem tabN_snoc {n : Nat} {ps : List Nat} {p : Nat} (hp : p < n) (h : numOf ps p = -1) : (tabN n ps).set p (ps.length : Int) = tabN n (ps ++ [p]) := by
  refine List.ext_getElem (by simp [tabN]) fun i h1 h2 => ?_
  rw [tabN_at, numOf_snoc h]
  by_cases e : i = p
  · subst e; simp
  · rw [List.getElem_set_ne (Ne.symm e), tabN_at, if_neg (by omega)]
def two (x0 x1 : Value) : Nat → Value := fun i => if i = 0 then x0 else x1
theorem two_new (w : World) (t : TypeId) (x0 x1 : Value) : (w.alloc (.cells #[x0, x1] t)).rowIs w.heap.size t 2 (two x0 x1) :=
  ⟨_, Go.Deep.blk_alloc_new _ _, rfl, fun i hi => by match i, hi with | 0, _ => rfl | 1, _ => rfl⟩
theorem two_cells {w : World} {g : Nat} {t : TypeId} {x0 x1 : Value} (h : w.rowIs g t 2 (two x0 x1)) : (w.cell? ⟨g, 0, none⟩ = some x0 ∧ w.cell? ⟨g, 1, none⟩ = some x1) ∧ (w.frozen? ⟨g, 0, none⟩ = false ∧ w.frozen? ⟨g, 1, none⟩ = false) :=
  ⟨⟨h.cell (i := 0) (by decide), h.cell (i := 1) (by decide)⟩, h.frozen 0, h.frozen 1⟩
theorem two_set0 {w : World} {g : Nat} {t : TypeId} {x0 x1 : Value} (h : w.rowIs g t 2 (two x0 x1)) (v : Value) : (w.setCell ⟨g, 0, none⟩ v).rowIs g t 2 (two v x1) :=
  (h.set 0 v).congr fun i hi => by match i, hi with | 0, _ => rfl | 1, _ => rfl
structure Ord (A : Nat → Prop) (B bo n : Nat) (ps : List Nat) (vp vn : Value) (w : World) : Prop where
  le : B ≤ bo
  box : w.rowIs bo 58 2 (two vp vn)
  p : IntRow B w vp (nums ps)
  n : IntRow B w vn (tabN n ps)
  pb : vp.ownBlock ≠ some bo
  nb : vn.ownBlock ≠ some bo
  pn : ∀ g, vp.ownBlock = some g → vn.ownBlock ≠ some g
  av : ∀ g, A g → g ≠ bo ∧ g < w.heap.size ∧ vp.ownBlock ≠ some g ∧ vn.ownBlock ≠ some g
structure Came (A : Nat → Prop) (B : Nat) (w w' : World) : Prop where
  b : Below B w w'
  a : ∀ g, A g → w'.heap[g]? = w.heap[g]?
theorem Came.refl (A : Nat → Prop) (B : Nat) (w : World) : Came A B w w := ⟨Below.refl _ _, fun _ _ => rfl⟩
theorem Came.trans {A : Nat → Prop} {B : Nat} {a b c : World} (h : Came A B a b) (k : Came A B b c) : Came A B a c :=
  ⟨h.b.trans k.b, fun g hg => (k.a g hg).trans (h.a g hg)⟩
set_option maxRecDepth 100000 in
set_option maxHeartbeats 2000000 in
theorem come_any (A : Nat → Prop) (B bo n : Nat) (ps : List Nat) (vp vn : Value) (p : Int) (w : World) (h : Ord A B bo n ps vp vn w) (hps : PsOk n ps) (hn : n ≤ 1000) :
    Calls Try.prog 46 #[.pointer (some ⟨bo, 0, none⟩), .int .i64 p] w fun e w' => e = .returned (.tuple #[]) ∧ (∃ vp', Ord A B bo n (comeP n ps p) vp' vn w') ∧ Came A B w w' := by
  obtain ⟨ap, cp, hvp, _⟩ := h.p.slice
  obtain ⟨an, cn, hvn, _⟩ := h.n.slice
  rw [nums_len] at hvp
  rw [tabN_len] at hvn
  subst hvp hvn
  have hpl := hps.len
  obtain ⟨⟨x0, x1⟩, f0, f1⟩ := two_cells h.box
  by_cases hI : inR p 0 ((n : Int) - 1) = false
  · have hE : Hid (comeP n ps p = ps) := comeP_out (fun e => by have : inR p 0 ((n : Int) - 1) = true := inR_true.2 (by omega); rw [hI] at this; cases this)
    go_enter Try.func46, Try.ntmps46
    go_wp2_with (go_at_call 28; refine (isPlace_any _ _ _).mono ?_; rintro e w' ⟨rfl, hw⟩; obtain rfl := hw.symm; rw [hI])
    go_end0
    exact ⟨rfl, ⟨_, by rw [hE.out]; exact h⟩, Came.refl _ _ _⟩
  have hI' : inR p 0 ((n : Int) - 1) = true := by simpa using hI
  clear hI
  have hI2 := inR_true.1 hI'
  obtain ⟨k, rfl⟩ := Int.eq_ofNat_of_zero_le hI2.1
  have hk : k < n := by omega
  have hkz : (k : Int) < (n : Int) := by omega
  obtain ⟨gn, on, c1, e1, hgB, hgn⟩ := h.n.form (by rw [tabN_len]; omega)
  obtain rfl : an = some ⟨gn, on, none⟩ := by injection e1
  clear e1
  obtain ⟨d1, fd⟩ := h.n.cell (i := k) (by rw [tabN_len]; exact hk)
  rw [tabN_at] at d1
  by_cases hN : numOf ps k = -1
  · rw [hN] at d1
    have hE : Hid (comeP n ps k = ps ++ [k]) := comeP_yes hk hN
    have hset := h.n.set k (by rw [tabN_len]; exact hk) (ps.length : Int)
    rw [tabN_snoc hk hN] at hset
    have hpo := h.pn
    have hbn : bo ≠ gn := fun e => h.nb (by rw [e]; rfl)
    have HPB : Hid ((Value.slice ap ps.length cp).ownBlock ≠ some bo) := h.pb
    have hle := h.le
    have hp2 := h.p.set_other (p := ⟨gn, on + k, none⟩) (.int .i64 (ps.length : Int)) (fun e => hpo _ e rfl)
    have hbx2 : (w.setCell ⟨gn, on + k, none⟩ (.int .i64 (ps.length : Int))).rowIs bo 58 2 (two (.slice ap ps.length cp) (.slice (some ⟨gn, on, none⟩) n cn)) := h.box.of_block (Below.heap_setCell _ _ _ _ hbn)
    have HAV : Hid (∀ g, A g → g ≠ bo ∧ g < w.heap.size ∧ (Value.slice ap ps.length cp).ownBlock ≠ some g ∧ (Value.slice (some ⟨gn, on, none⟩) n cn).ownBlock ≠ some g) := h.av
    have C2 : Came A B w (w.setCell ⟨gn, on + k, none⟩ (.int .i64 (ps.length : Int))) := ⟨(Below.refl B w).setCell (p := ⟨gn, on + k, none⟩) hgB _, fun g hg => Below.heap_setCell _ _ _ _ (fun e => (h.av g hg).2.2.2 (by rw [e]; rfl))⟩
    have hz2 : (w.setCell ⟨gn, on + k, none⟩ (.int .i64 (ps.length : Int))).heap.size = w.heap.size := by simp [World.setCell]
    go_enter Try.func46, Try.ntmps46
    go_upto_region 1 with (go_at_call 28; refine (isPlace_any _ _ _).mono ?_; rintro e w' ⟨rfl, hw⟩; obtain rfl := hw.symm; rw [hI'])
    obtain ⟨⟨y0, y1⟩, g0, g1⟩ := two_cells hbx2
    go_region_held3 (fun w' => w'.cell? ⟨bo, 0, none⟩ = some (.slice ap ps.length cp) ∧ w'.cell? ⟨bo, 1, none⟩ = some (.slice (some ⟨gn, on, none⟩) n cn))
      (first | exact ⟨y0, y1⟩ | exact ⟨x0, x1⟩ | go_keep)
      (fail)
    have hset3 := hset.below (Below.refl _ _).drew
    have hp3 := hp2.below (Below.refl _ _).drew
    have hbx3 := row_below (Below.refl _ _).drew hbx2
    have C3 : Came A B w (w.setCell ⟨gn, on + k, none⟩ (.int .i64 (ps.length : Int))).drew := ⟨C2.b.drew, C2.a⟩
    have hz3 : (w.setCell ⟨gn, on + k, none⟩ (.int .i64 (ps.length : Int))).drew.heap.size ≥ w.heap.size := Nat.le_of_eq hz2.symm
    have HBO : Hid (bo < w.heap.size) := h.box.lt
    clear hset hp2 hbx2 C2 hz2 y0 y1 g0 g1 x0 x1 f0 f1 d1 fd h
    generalize (w.setCell ⟨gn, on + k, none⟩ (.int .i64 (ps.length : Int))).drew = w3 at *
    obtain ⟨⟨x0, x1⟩, f0, f1⟩ := two_cells hbx3
    have hbo := HBO.out
    go_wp2_with (at_builtin; refine append_i _ (by rfl) _ _ (by rfl) B _ (nums ps) (by rfl) hp3 (k : Int) _ _ rfl (by rfl) (by rw [nums_len]; omega) (by omega) ?_; intro g4 o4 c4 w4 hrow4 hg4 hb4 hlt4; have hbx4 := hbx3.of_block (hg4.block bo hbx3.lt (fun e => HPB.out e.symm)); obtain ⟨⟨q0, q1⟩, m0, m1⟩ := two_cells hbx4)
    have hz4 := hg4.size
    have hbg : g4 ≠ bo := fun e => by
      rcases hb4 with h4 | h4
      · exact HPB.out (by rw [h4, e])
      · omega
    rw [nums_snoc, ← hE.out] at hrow4
    have hset4 := hset3.kept hg4.size fun q e => hg4.block q (hset3.lt q e).2 (fun e2 => hpo q e2.symm e)
    refine bodyPost_end (results_none rfl _ _ _) rfl ⟨rfl, ⟨_, ⟨hle, two_set0 hbx4 _, hrow4.set_other _ (fun e => by simp [Value.ownBlock] at e; omega), ?_, fun e => by simp [Value.ownBlock] at e; omega, fun e => by simp [Value.ownBlock] at e; omega, fun q e e2 => ?_, fun q hq => ?_⟩⟩, ⟨?_, fun q hq => ?_⟩⟩
    · rw [← hE.out] at hset4
      exact hset4.set_other _ (fun e => by simp [Value.ownBlock] at e; omega)
    · simp [Value.ownBlock] at e e2
      subst e e2
      rcases hb4 with h4 | h4
      · exact hpo _ h4 rfl
      · omega
    · obtain ⟨a1, a2, a3, a4⟩ := HAV.out q hq
      refine ⟨a1, by simp [World.setCell]; omega, fun e => ?_, a4⟩
      simp [Value.ownBlock] at e
      subst e
      rcases hb4 with h4 | h4
      · exact a3 h4
      · omega
    · exact (C3.b.grown hg4 (by omega) (fun q e => (hp3.lt q e).1)).setCell (p := ⟨bo, 0, none⟩) hle _
    · obtain ⟨a1, a2, a3, a4⟩ := HAV.out q hq
      rw [Below.heap_setCell _ _ _ _ a1, hg4.block q (by omega) (fun e => a3 e.symm)]
      exact C3.a q hq
  · have hE : Hid (comeP n ps k = ps) := comeP_in hN
    go_enter Try.func46, Try.ntmps46
    go_wp2_with (go_at_call 28; refine (isPlace_any _ _ _).mono ?_; rintro e w' ⟨rfl, hw⟩; obtain rfl := hw.symm; rw [hI'])
    go_end0
    exact ⟨rfl, ⟨_, by rw [hE.out]; exact h⟩, Came.refl _ _ _⟩
end Go.Proofs.Ytfpodljalccpnaa
