/-
  The program's waitOk, in plain words (waitP).
-/
import Derived.Test.YtldiccheboipeaaHImpl3
import Derived.Test.YtldiccheboipeaaHHeapOk
namespace Go.Proofs.Ytldiccheboipeaa
open Go.RowKit

/-- all calls but the one that runs have room for one value more -/
def freeP (cs : List Cl) (now : Int) : Prop := ∀ i, (h : i < cs.length) → (i : Int) ≠ now → cs[i].stack.length < 6

open Classical in
/-- the program's test of who waits for whom -/
noncomputable def waitP (cs : List Cl) (now : Int) : Bool := decide (freeP cs now) && ((deepOf cs now == liveN cs) && ((deepOf cs now == 0) == (now == -1)))

theorem waitP_no {cs : List Cl} {now : Int} {i : Nat} (h : i < cs.length) (hn : (i : Int) ≠ now) (h6 : ¬ cs[i].stack.length < 6) : waitP cs now = false := by
  have : ¬ freeP cs now := fun hf => h6 (hf i h hn)
  simp [waitP, this]
theorem waitP_yes {cs : List Cl} {now : Int} (h : freeP cs now) : waitP cs now = ((deepOf cs now == liveN cs) && ((deepOf cs now == 0) == (now == -1))) := by
  simp [waitP, h]

set_option maxRecDepth 100000 in
set_option maxHeartbeats 4000000 in
theorem implWaitOk_any (vc vs : Value) (h : Hp) (w : World) (hh : HeapAt w vc vs h) (hn : h.calls.length ≤ 900000) :
    Calls Try.prog 50 #[.agg (hpCells vc vs h)] w fun e w' => e = .returned (.bool (waitP h.calls h.now)) ∧ Below w.heap.size w w' := by
  have HD : Hid (∀ w', Below w.heap.size w w' → Calls Try.prog 96 #[.agg (hpCells vc vs h)] w' fun e w2 => e = .returned (.int .i64 (deepOf h.calls h.now : Nat)) ∧ Below w'.heap.size w' w2) := fun w' hb => implHeapDeep_any vc vs h w' (hh.below hb) hn
  unfold hpCells at *
  obtain ⟨cs, now, born, said, code⟩ := h
  obtain ⟨hhc, hhs⟩ := hh
  simp only [] at hhc hhs hn HD ⊢
  obtain ⟨aD, kD, hvs⟩ := hhs.shape
  subst hvs
  obtain ⟨ac, kc, rfl, _, hcl⟩ := hhc
  have hA := (Below.refl w.heap.size w).alloc (Nat.le_refl _) (.cells #[.slice ac cs.length kc, .int .i64 now, .int .i64 born, .slice aD said.length kD, .int .i64 code] 39)
  have b5 := five_new w 39 (.slice ac cs.length kc) (.int .i64 now) (.int .i64 born) (.slice aD said.length kD) (.int .i64 code)
  go_enter Try.func50, Try.ntmps50
  go_upto_region 1 with fail
  generalize w.alloc (.cells #[.slice ac cs.length kc, .int .i64 now, .int .i64 born, .slice aD said.length kD, .int .i64 code] 39) = W0 at *
  obtain ⟨⟨x0, x1, x2, x3, x4⟩, _⟩ := five_cells b5
  clear b5 hhs
  have zA := hA.size
  have hw0 : w.heap.size < W0.heap.size := World.block_lt_of_cell? _ _ x0
  go_wp2_with fail
  go_loopg [3, 10] cs.length (fun d v i wr => ∃ k : Nat, k ≤ cs.length ∧ d = cs.length - k ∧ v = .int .i64 (liveN (cs.take k) : Nat) ∧ i = .int .i64 (k : Nat) ∧ Below W0.heap.size W0 wr ∧ ∀ j, (hj : j < cs.length) → j < k → (j : Int) ≠ now → cs[j].stack.length < 6)
  case atStart => exact ⟨0, Nat.zero_le _, rfl, rfl, rfl, Below.refl _ _, fun j _ h => absurd h (Nat.not_lt_zero _)⟩
  case round =>
    obtain ⟨k, hk, rfl, rfl, rfl, hb, hall⟩ := hrel
    have H : Hid (∀ j, (hj : j < cs.length) → j < k → (j : Int) ≠ now → cs[j].stack.length < 6) := hall
    clear hall
    have hsz := hb.size
    have q1 := cell_below hb x1
    by_cases hlt : k < cs.length
    · have hkz : (k : Int) < (cs.length : Int) := by omega
      obtain ⟨b, o, vt, vs, rfl, hc⟩ := hcl k hlt
      have hcW := hc.below (hA.trans (hb.mono zA))
      obtain ⟨d0, d1, d2, d3, d4, d5, ht, hs⟩ := hcW
      obtain ⟨a1, k1, e1⟩ := ht.shape
      obtain ⟨a2, k2, e2⟩ := hs.shape
      subst e1 e2
      have HL : Hid (liveN (cs.take (k + 1)) = liveN (cs.take k) + (if cs[k].dead then 0 else 1)) := liveN_step hlt
      have HLB : Hid (liveN (cs.take k) ≤ k) := by
        show _ ≤ _
        unfold liveN
        exact Nat.le_trans (List.length_filter_le _ _) (by simp; omega)
      clear hc hcl ht hs
      have hLz : liveN (cs.take k) ≤ 900000 := Nat.le_trans HLB.out (by omega)
      have qN := fun o => cell_below ((Below.refl _ _).alloc (Nat.le_refl _) o) q1
      generalize liveN (cs.take k) = L at *
      cases hdd : cs[k].dead
      · rw [hdd] at d5
        have HL2 : Hid (liveN (cs.take (k + 1)) = L + 1) := by
          show _ = _
          rw [HL.out, hdd]
          rfl
        clear HL hdd
        by_cases hkn : (k : Int) = now
        · subst hkn
          go_wp2
          go_roundg (cs.length - (k + 1))
          case measure => omega
          case rel =>
            refine ⟨k + 1, by omega, rfl, by rw [HL2.out]; go_num, by go_num, hb.alloc hsz _, fun j hj hjk hne => ?_⟩
            exact H.out j hj (by omega) hne
        · have ekn : ((k : Int) == now) = false := beq_eq_false_iff_ne.2 hkn
          have ekn' : ((k : Int) != now) = true := by simp [hkn]
          by_cases h6 : 6 ≤ cs[k].stack.length
          · have h6z : (6 : Int) ≤ (cs[k].stack.length : Int) := by omega
            have HF : Hid (waitP cs now = false) := waitP_no hlt hkn (by omega)
            go_wp2
            go_ret
            exact ⟨ret_bool HF.out.symm, hA.trans ((hb.alloc hsz _).mono zA)⟩
          · have h6z : (cs[k].stack.length : Int) < 6 := by omega
            have H6 : Hid (cs[k].stack.length < 6) := by show _ < _; omega
            go_wp2
            go_roundg (cs.length - (k + 1))
            case measure => omega
            case rel =>
              refine ⟨k + 1, by omega, rfl, by rw [HL2.out]; go_num, by go_num, hb.alloc hsz _, fun j hj hjk hne => ?_⟩
              by_cases e : j = k
              · subst e; exact H6.out
              · exact H.out j hj (by omega) hne
      · rw [hdd] at d5
        have HL2 : Hid (liveN (cs.take (k + 1)) = L) := by
          show _ = _
          rw [HL.out, hdd]
          rfl
        clear HL hdd
        by_cases hkn : (k : Int) = now
        · subst hkn
          go_wp2
          go_roundg (cs.length - (k + 1))
          case measure => omega
          case rel =>
            refine ⟨k + 1, by omega, rfl, by rw [HL2.out], by go_num, hb.alloc hsz _, fun j hj hjk hne => ?_⟩
            exact H.out j hj (by omega) hne
        · have ekn : ((k : Int) == now) = false := beq_eq_false_iff_ne.2 hkn
          have ekn' : ((k : Int) != now) = true := by simp [hkn]
          by_cases h6 : 6 ≤ cs[k].stack.length
          · have h6z : (6 : Int) ≤ (cs[k].stack.length : Int) := by omega
            have HF : Hid (waitP cs now = false) := waitP_no hlt hkn (by omega)
            go_wp2
            go_ret
            exact ⟨ret_bool HF.out.symm, hA.trans ((hb.alloc hsz _).mono zA)⟩
          · have h6z : (cs[k].stack.length : Int) < 6 := by omega
            have H6 : Hid (cs[k].stack.length < 6) := by show _ < _; omega
            go_wp2
            go_roundg (cs.length - (k + 1))
            case measure => omega
            case rel =>
              refine ⟨k + 1, by omega, rfl, by rw [HL2.out], by go_num, hb.alloc hsz _, fun j hj hjk hne => ?_⟩
              by_cases e : j = k
              · subst e; exact H6.out
              · exact H.out j hj (by omega) hne
    · obtain rfl : k = cs.length := by omega
      have HF : Hid (freeP cs now) := fun j hj hne => H.out j hj hj hne
      have HL : Hid (liveN (cs.take cs.length) = liveN cs) := by show _ = _; rw [List.take_length]
      have hLz : liveN cs ≤ 900000 := Nat.le_trans (List.length_filter_le _ _) hn
      rw [HL.out]
      have HP : Hid (waitP cs now = ((deepOf cs now == liveN cs) && ((deepOf cs now == 0) == (now == -1)))) := waitP_yes HF.out
      have q0 := cell_below hb x0
      have q2 := cell_below hb x2
      have q3 := cell_below hb x3
      have q4 := cell_below hb x4
      have HD2 := HD.out wr (hA.trans (hb.mono zA))
      have HD3 : Hid (Calls Try.prog 96 #[.agg #[.slice ac cs.length kc, .int .i64 now, .int .i64 born, .slice aD said.length kD, .int .i64 code]] wr fun e w2 => e = .returned (.int .i64 (deepOf cs now : Nat)) ∧ Below wr.heap.size wr w2) := HD2
      have hbW : Below w.heap.size w wr := hA.trans (hb.mono zA)
      have zW := hbW.size
      clear HD2 HD HF H HL hcl x0 x1 x2 x3 x4 hA hb
      generalize liveN cs = L at *
      generalize deepOf cs now = D at *
      by_cases hDL : D = L
      · subst hDL
        go_wp2_with (go_at_call 96; refine HD3.out.mono ?_; rintro e w2 ⟨rfl, hb2⟩; have p1 := cell_below hb2 q1)
        go_ret
        refine ⟨ret_bool ?_, hbW.trans (hb2.mono zW)⟩
        rw [HP.out, beq_self_eq_true, Bool.true_and, show ((D : Int) == 0) = (D == 0) from by rw [Bool.eq_iff_iff, beq_iff_eq, beq_iff_eq]; omega]
      · have eDL : ((D : Int) == (L : Int)) = false := beq_eq_false_iff_ne.2 (by omega)
        have hDz : ¬ (D : Int) = (L : Int) := by omega
        go_wp2_with (go_at_call 96; refine HD3.out.mono ?_; rintro e w2 ⟨rfl, hb2⟩; have p1 := cell_below hb2 q1)
        go_ret
        exact ⟨ret_bool (by rw [HP.out, beq_eq_false_iff_ne.2 hDL, Bool.false_and]), hbW.trans (hb2.mono zW)⟩

end Go.Proofs.Ytldiccheboipeaa
