/-
  The program's waitOk, in plain words (waitP).
-/
import Derived.Test.YtlpbklgkafjfmaaGreatDoorHImpl3
import Derived.Test.YtlpbklgkafjfmaaGreatDoorTakes2

namespace Go.Proofs.YtlpbklgkafjfmaaGreatDoor
open Go.RowKit
def freeP (cs : List Cl) (now : Int) : Prop := ∀ i, (h : i < cs.length) → (i : Int) ≠ now → cs[i].stack.length < 6
open Classical in
noncomputable def waitP (cs : List Cl) (now : Int) : Bool := decide (freeP cs now) && ((deepOf cs now == liveN cs) && ((deepOf cs now == 0) == (now == -1)))
theorem waitP_no {cs : List Cl} {now : Int} {i : Nat} (h : i < cs.length) (hn : (i : Int) ≠ now) (h6 : ¬ cs[i].stack.length < 6) : waitP cs now = false := by
  have : ¬ freeP cs now := fun hf => h6 (hf i h hn)
  simp [waitP, this]
theorem waitP_yes {cs : List Cl} {now : Int} (h : freeP cs now) : waitP cs now = ((deepOf cs now == liveN cs) && ((deepOf cs now == 0) == (now == -1))) := by
  simp [waitP, h]
set_option maxRecDepth 100000 in
set_option maxHeartbeats 4000000 in
theorem implWaitOk_any (vc vs : Value) (h : Hp) (w : World) (hh : HeapAt w vc vs h) (hn : h.calls.length ≤ 900000) :
    Calls Tryz.prog 50 #[.agg (hpCells vc vs h)] w fun e w' => e = .returned (.bool (waitP h.calls h.now)) ∧ Below w.heap.size w w' := by
  have HD : Hid (∀ w', Below w.heap.size w w' → Calls Tryz.prog 65 #[.agg (hpCells vc vs h)] w' fun e w2 => e = .returned (.int .i64 (deepOf h.calls h.now : Nat)) ∧ Below w'.heap.size w' w2) := fun w' hb => implHeapDeep_any vc vs h w' (hh.below hb) hn
  unfold hpCells at *
  obtain ⟨cs, now, born, said, code⟩ := h
  obtain ⟨hhc, hhs⟩ := hh
  simp only [] at hhc hhs hn HD ⊢
  obtain ⟨aD, kD, hvs⟩ := hhs.shape
  subst hvs
  obtain ⟨ac, kc, rfl, _, hcl⟩ := hhc
  have hA := (Below.refl w.heap.size w).alloc (Nat.le_refl _) (.cells #[.slice ac cs.length kc, .int .i64 now, .int .i64 born, .slice aD said.length kD, .int .i64 code] 29)
  have b5 := five_new w 29 (.slice ac cs.length kc) (.int .i64 now) (.int .i64 born) (.slice aD said.length kD) (.int .i64 code)
  go_enter Tryz.func50, Tryz.ntmps50
  go_upto_region 1 with fail
  generalize w.alloc (.cells #[.slice ac cs.length kc, .int .i64 now, .int .i64 born, .slice aD said.length kD, .int .i64 code] 29) = W0 at *
  obtain ⟨⟨x0, x1, x2, x3, x4⟩, _⟩ := five_cells b5
  clear b5 hhs
  have zA := hA.size
  have hw0 : w.heap.size < W0.heap.size := World.block_lt_of_cell? _ _ x0
  go_wp2_with fail
  go_loopg [3, 10] cs.length (fun d v i wr => ∃ k : Nat, k ≤ cs.length ∧ d = cs.length - k ∧ v = .int .i64 (liveN (cs.take k) : Nat) ∧ i = .int .i64 (k : Nat) ∧ Below W0.heap.size W0 wr ∧ ∀ j, (hj : j < cs.length) → j < k → (j : Int) ≠ now → cs[j].stack.length < 6)
  case atStart => exact ⟨0, Nat.zero_le _, rfl, rfl, rfl, Below.refl _ _, fun j _ h => absurd h (Nat.not_lt_zero _)⟩
  case round =>
    obtain ⟨k, hk, rfl, rfl, rfl, hb, hall⟩ := hrel
    have H : Hid (∀ j, (hj : j < cs.length) → j < k → (j : Int) ≠ now → cs[j].stack.length < 6) := hall
    clear hall
    have hsz := hb.size
    have q1 := cell_below hb x1
    by_cases hlt : k < cs.length
    · have hkz : (k : Int) < (cs.length : Int) := by omega
      obtain ⟨b, o, vt, vs, rfl, hc⟩ := hcl k hlt
      have hcW := hc.below (hA.trans (hb.mono zA))
      obtain ⟨d0, d1, d2, d3, d4, d5, ht, hs⟩ := hcW
      obtain ⟨a1, k1, e1⟩ := ht.shape
      obtain ⟨a2, k2, e2⟩ := hs.shape
      subst e1 e2
      have HL : Hid (liveN (cs.take (k + 1)) = liveN (cs.take k) + (if cs[k].dead then 0 else 1)) := liveN_step hlt
      have HLB : Hid (liveN (cs.take k) ≤ k) := by
        show _ ≤ _
        unfold liveN
        exact Nat.le_trans (List.length_filter_le _ _) (by simp; omega)
      clear hc hcl ht hs
      have hLz : liveN (cs.take k) ≤ 900000 := Nat.le_trans HLB.out (by omega)
      have qN := fun o => cell_below ((Below.refl _ _).alloc (Nat.le_refl _) o) q1
      generalize liveN (cs.take k) = L at *
      cases hdd : cs[k].dead
      · rw [hdd] at d5
        have HL2 : Hid (liveN (cs.take (k + 1)) = L + 1) := by
          show _ = _
          rw [HL.out, hdd]
          rfl
        clear HL hdd
        by_cases hkn : (k : Int) = now
        · subst hkn
          go_wp2
          go_roundg (cs.length - (k + 1))
          case measure => omega
          case rel =>
            refine ⟨k + 1, by omega, rfl, by rw [HL2.out]; go_num, by go_num, hb.alloc hsz _, fun j hj hjk hne => ?_⟩
            exact H.out j hj (by omega) hne
        · have ekn : ((k : Int) == now) = false := beq_eq_false_iff_ne.2 hkn
          have ekn' : ((k : Int) != now) = true := by simp [hkn]
          by_cases h6 : 6 ≤ cs[k].stack.length
          · have h6z : (6 : Int) ≤ (cs[k].stack.length : Int) := by omega
            have HF : Hid (waitP cs now = false) := waitP_no hlt hkn (by omega)
            go_wp2
            go_ret
            exact ⟨ret_bool HF.out.symm, hA.trans ((hb.alloc hsz _).mono zA)⟩
          · have h6z : (cs[k].stack.length : Int) < 6 := by omega
            have H6 : Hid (cs[k].stack.length < 6) := by show _ < _; omega
            go_wp2
            go_roundg (cs.length - (k + 1))
            case measure => omega
            case rel =>
              refine ⟨k + 1, by omega, rfl, by rw [HL2.out]; go_num, by go_num, hb.alloc hsz _, fun j hj hjk hne => ?_⟩
              by_cases e : j = k
              · subst e; exact H6.out
              · exact H.out j hj (by omega) hne
      · rw [hdd] at d5
        have HL2 : Hid (liveN (cs.take (k + 1)) = L) := by
          show _ = _
          rw [HL.out, hdd]
          rfl
        clear HL hdd
        by_cases hkn : (k : Int) = now
        · subst hkn
          go_wp2
          go_roundg (cs.length - (k + 1))
          case measure => omega
          case rel =>
            refine ⟨k + 1, by omega, rfl, by rw [HL2.out], by go_num, hb.alloc hsz _, fun j hj hjk hne => ?_⟩
            exact H.out j hj (by omega) hne
        · have ekn : ((k : Int) == now) = false := beq_eq_false_iff_ne.2 hkn
          have ekn' : ((k : Int) != now) = true := by simp [hkn]
          by_cases h6 : 6 ≤ cs[k].stack.length
          · have h6z : (6 : Int) ≤ (cs[k].stack.length : Int) := by omega
            have HF : Hid (waitP cs now = false) := waitP_no hlt hkn (by omega)
            go_wp2
            go_ret
            exact ⟨ret_bool HF.out.symm, hA.trans ((hb.alloc hsz _).mono zA)⟩
          · have h6z : (cs[k].stack.length : Int) < 6 := by omega
            have H6 : Hid (cs[k].stack.length < 6) := by show _ < _; omega
            go_wp2
            go_roundg (cs.length - (k + 1))
            case measure => omega
            case rel =>
              refine ⟨k + 1, by omega, rfl, by rw [HL2.out], by go_num, hb.alloc hsz _, fun j hj hjk hne => ?_⟩
              by_cases e : j = k
              · subst e; exact H6.out
              · exact H.out j hj (by omega) hne
    · obtain rfl : k = cs.length := by omega
      have HF : Hid (freeP cs now) := fun j hj hne => H.out j hj hj hne
      have HL : Hid (liveN (cs.take cs.length) = liveN cs) := by show _ = _; rw [List.take_length]
      have hLz : liveN cs ≤ 900000 := Nat.le_trans (List.length_filter_le _ _) hn
      rw [HL.out]
      have HP : Hid (waitP cs now = ((deepOf cs now == liveN cs) && ((deepOf cs now == 0) == (now == -1)))) := waitP_yes HF.out
      have q0 := cell_below hb x0
      have q2 := cell_below hb x2
      have q3 := cell_below hb x3
      have q4 := cell_below hb x4
      have HD2 := HD.out wr (hA.trans (hb.mono zA))
      have HD3 : Hid (Calls Tryz.prog 65 #[.agg #[.slice ac cs.length kc, .int .i64 now, .int .i64 born, .slice aD said.length kD, .int .i64 code]] wr fun e w2 => e = .returned (.int .i64 (deepOf cs now : Nat)) ∧ Below wr.heap.size wr w2) := HD2
      have hbW : Below w.heap.size w wr := hA.trans (hb.mono zA)
      have zW := hbW.size
      clear HD2 HD HF H HL hcl x0 x1 x2 x3 x4 hA hb
      generalize liveN cs = L at *
      generalize deepOf cs now = D at *
      by_cases hDL : D = L
      · subst hDL
        go_wp2_with (go_at_call 65; refine HD3.out.mono ?_; rintro e w2 ⟨rfl, hb2⟩; have p1 := cell_below hb2 q1)
        go_ret
        refine ⟨ret_bool ?_, hbW.trans (hb2.mono zW)⟩
        rw [HP.out, beq_self_eq_true, Bool.true_and, show ((D : Int) == 0) = (D == 0) from by rw [Bool.eq_iff_iff, beq_iff_eq, beq_iff_eq]; omega]
      · have eDL : ((D : Int) == (L : Int)) = false := beq_eq_false_iff_ne.2 (by omega)
        have hDz : ¬ (D : Int) = (L : Int) := by omega
        go_wp2_with (go_at_call 65; refine HD3.out.mono ?_; rintro e w2 ⟨rfl, hb2⟩; have p1 := cell_below hb2 q1)
        go_ret
        exact ⟨ret_bool (by rw [HP.out, beq_eq_false_iff_ne.2 hDL, Bool.false_and]), hbW.trans (hb2.mono zW)⟩
end Go.Proofs.YtlpbklgkafjfmaaGreatDoor

/-
  Who waits for whom: where all calls are in form, the program's test (waitP) and the model's (endOk) answer the same. A chain has no repeats; as long as the alive calls are many, it holds them all.
-/
namespace Go.Proofs.YtlpbklgkafjfmaaGreatDoor
theorem walkC_some {cs : List Cl} {f : Nat} {a : Int} {l : List Nat} (h : walkC cs f a = some l) (ha : 0 ≤ a) : ∃ (g n : Nat) (hn : n < cs.length) (t : List Nat), f = g + 1 ∧ a = n ∧ l = n :: t ∧ cs[n].dead = false ∧ walkC cs g cs[n].sender = some t := by
  obtain ⟨n, rfl⟩ := Int.eq_ofNat_of_zero_le ha
  cases f with
  | zero => rw [walkC_zero ha] at h; cases h
  | succ g =>
    by_cases hn : n < cs.length
    · cases hd : cs[n].dead
      · rw [walkC_step hn hd] at h
        cases hw : walkC cs g cs[n].sender with
        | none => rw [hw] at h; cases h
        | some t => rw [hw] at h; exact ⟨g, n, hn, t, rfl, rfl, (Option.some.inj h).symm, hd, hw⟩
      · rw [walkC_dead hn hd] at h; cases h
    · rw [walkC_past hn] at h; cases h
theorem walkC_one {cs : List Cl} : ∀ (l : List Nat) (f f' : Nat) (a : Int) (l' : List Nat), walkC cs f a = some l → walkC cs f' a = some l' → l = l'
  | l, f, f', a, l', h, h' => by
    by_cases ha : a < 0
    · rw [walkC_neg ha] at h h'
      exact (Option.some.inj h).symm.trans (Option.some.inj h')
    obtain ⟨g, n, hn, t, rfl, rfl, rfl, _, hw⟩ := walkC_some h (by omega)
    obtain ⟨g', n', hn', t', rfl, e, rfl, _, hw'⟩ := walkC_some h' (by omega)
    obtain rfl : n = n' := by omega
    rw [walkC_one t g g' _ t' hw hw']
  termination_by l => l.length
theorem walkC_tail {cs : List Cl} : ∀ (pre : List Nat) (f : Nat) (a : Int) (k : Nat) (post : List Nat), walkC cs f a = some (pre ++ k :: post) → ∃ f', walkC cs f' (k : Int) = some (k :: post)
  | [], f, a, k, post, h => by
    by_cases ha : a < 0
    · rw [walkC_neg ha] at h; cases h
    obtain ⟨g, n, hn, t, rfl, rfl, e, _, hw⟩ := walkC_some h (by omega)
    obtain ⟨rfl, rfl⟩ := List.cons.inj e
    exact ⟨g + 1, h⟩
  | p :: pre, f, a, k, post, h => by
    by_cases ha : a < 0
    · rw [walkC_neg ha] at h; cases h
    obtain ⟨g, n, hn, t, rfl, rfl, e, _, hw⟩ := walkC_some h (by omega)
    obtain ⟨rfl, rfl⟩ := List.cons.inj e
    exact walkC_tail pre g _ k post hw
theorem walkC_nodup {cs : List Cl} : ∀ (l : List Nat) (f : Nat) (a : Int), walkC cs f a = some l → l.Nodup
  | [], _, _, _ => List.nodup_nil
  | k :: t, f, a, h => by
    by_cases ha : a < 0
    · rw [walkC_neg ha] at h; cases h
    obtain ⟨g, n, hn, t', rfl, rfl, e, _, hw⟩ := walkC_some h (by omega)
    obtain ⟨rfl, rfl⟩ := List.cons.inj e
    refine List.nodup_cons.2 ⟨fun hm => ?_, walkC_nodup _ g _ hw⟩
    obtain ⟨pre, post, rfl⟩ := List.append_of_mem hm
    obtain ⟨f', hf⟩ := walkC_tail pre g _ k post hw
    have := congrArg List.length (walkC_one _ _ _ _ _ h hf)
    simp at this
    omega
theorem few_of_nodup : ∀ (l A : List Nat), l.Nodup → (∀ k ∈ l, k ∈ A) → l.length ≤ A.length
  | [], _, _, _ => Nat.zero_le _
  | a :: t, A, hn, hs => by
    obtain ⟨ha, ht⟩ := List.nodup_cons.1 hn
    have hm : a ∈ A := hs a (List.mem_cons_self ..)
    have := few_of_nodup t (A.erase a) ht fun k hk => (List.mem_erase_of_ne (show k ≠ a from fun e => ha (by rw [← e]; exact hk))).2 (hs k (List.mem_cons_of_mem _ hk))
    rw [List.length_erase_of_mem hm] at this
    have := List.length_pos_of_mem hm
    simp
    omega
def aliveL (cs : List Cl) : List Nat := (List.range cs.length).filter fun i => !(cs.getD i Cl.none).dead
theorem aliveL_len (cs : List Cl) : (aliveL cs).length = liveN cs := by
  have e : (List.range cs.length).map (fun i => cs.getD i Cl.none) = cs := by
    apply List.ext_getElem
    · simp
    · intro i h1 h2
      simp [h2]
  unfold liveN aliveL
  conv => rhs; rw [← e]
  rw [List.filter_map, List.length_map]
  rfl
theorem mem_alive {cs : List Cl} {k : Nat} : k ∈ aliveL cs ↔ ∃ h : k < cs.length, cs[k].dead = false := by
  unfold aliveL
  rw [List.mem_filter, List.mem_range]
  constructor
  · rintro ⟨h, e⟩
    exact ⟨h, by simpa [h] using e⟩
  · rintro ⟨h, e⟩
    exact ⟨h, by simp [h, e]⟩
theorem chain_nodup (cs : List Cl) (now : Int) : (chainOf cs now).Nodup := by
  unfold chainOf
  cases h : walkC cs cs.length now with
  | none => exact List.nodup_nil
  | some l => exact walkC_nodup l _ _ h
theorem chain_all {cs : List Cl} {now : Int} (h : (chainOf cs now).length = liveN cs) {k : Nat} (hk : k < cs.length) (hd : cs[k].dead = false) : k ∈ chainOf cs now := by
  apply Classical.byContradiction
  intro hn
  have := few_of_nodup (k :: chainOf cs now) (aliveL cs) (List.nodup_cons.2 ⟨hn, chain_nodup cs now⟩) (fun j hj => by
    rcases List.mem_cons.1 hj with rfl | hj
    · exact mem_alive.2 ⟨hk, hd⟩
    · exact mem_alive.2 (chain_in hj))
  rw [aliveL_len, List.length_cons] at this
  omega
theorem clOk_sender {ms : List (Int × Int × List (Int × Int))} {n : Nat} {c : Cl} (h : clOk ms n c = true) : -1 ≤ c.sender ∧ c.sender < (n : Int) := by
  simp only [clOk, Bool.and_eq_true, inR_true] at h
  omega
theorem clOk_dead {ms : List (Int × Int × List (Int × Int))} {n : Nat} {c : Cl} (h : clOk ms n c = true) (hd : c.dead = true) : c.stack.length = 0 := by
  simp only [clOk, Bool.and_eq_true, hd] at h
  have := h.2.2
  simp at this
  rw [this.2]
  rfl
theorem wait_end {ms : List (Int × Int × List (Int × Int))} {h : Hp} (hc : ∀ i, (hi : i < h.calls.length) → clOk ms h.calls.length h.calls[i] = true) (h0 : -1 ≤ h.now) (h1 : h.now < (h.calls.length : Int)) : waitP h.calls h.now = endOk h := by
  obtain ⟨cs, now, born, said, code⟩ := h
  simp only [] at hc h0 h1 ⊢
  have hs : ∀ i, (h : i < cs.length) → -1 ≤ cs[i].sender ∧ cs[i].sender < (cs.length : Int) := fun i h => clOk_sender (hc i h)
  have hdeep := deepOf_chain hs h0 h1
  have hdead : ∀ i, (h : i < cs.length) → cs[i].dead = true → cs[i].stack.length = 0 := fun i h e => clOk_dead (hc i h) e
  unfold waitP endOk
  simp only [hdeep]
  by_cases hl : (chainOf cs now).length = liveN cs
  · rw [beq_iff_eq.2 hl, Bool.true_and, Bool.and_true]
    by_cases hn : now < 0
    · obtain rfl : now = -1 := by omega
      have e : chainOf cs (-1) = [] := by unfold chainOf; rw [walkC_neg hn]; rfl
      have hf : freeP cs (-1) := fun i hi _ => by
        cases hd : cs[i].dead
        · have := chain_all hl hi hd
          rw [e] at this
          cases this
        · rw [hdead i hi hd]; decide
      simp [e, hf, roomP]
    · obtain ⟨n, rfl⟩ := Int.eq_ofNat_of_zero_le (show 0 ≤ now by omega)
      have hnl : n < cs.length := by omega
      cases hd : cs[n].dead
      · have hm := chain_all hl hnl hd
        have hw : ∃ t, chainOf cs (n : Int) = n :: t := by
          revert hm
          unfold chainOf
          cases hw : walkC cs cs.length (n : Int) with
          | none => intro hm; cases hm
          | some l =>
            intro _
            obtain ⟨g, n', hn', t, _, e, rfl, _, _⟩ := walkC_some hw (by omega)
            obtain rfl : n = n' := by omega
            exact ⟨t, rfl⟩
        obtain ⟨t, ht⟩ := hw
        have hnd := chain_nodup cs (n : Int)
        rw [ht] at hnd
        have hnt := (List.nodup_cons.1 hnd).1
        have hne : ((chainOf cs (n : Int)).length == 0) = false := by rw [ht]; rfl
        have hn1 : ((n : Int) == -1) = false := beq_eq_false_iff_ne.2 (by omega)
        have hA : (decide ((n : Int) < 0) || !(cs.getD ((n : Int)).toNat Cl.none).dead) = true := by simp [hnl, hd]
        rw [hne, hn1, hA]
        simp only [beq_self_eq_true, Bool.and_true, Bool.true_and]
        rw [Bool.eq_iff_iff, @decide_eq_true_iff _ (Classical.propDecidable _)]
        constructor
        · intro hf
          refine roomP_yes (fun k hk => (chain_in hk).1) fun i hi h1 hk => hf _ hk fun e => ?_
          have hz : (chainOf cs (n : Int))[i] ∈ t := by
            have hi' : i < (n :: t).length := by rw [← ht]; exact hi
            have e1 : (chainOf cs (n : Int))[i] = (n :: t)[i] := by simp only [ht]
            rw [e1]
            match i, h1, hi' with
            | i + 1, _, hi' => exact List.getElem_mem _
          have : (chainOf cs (n : Int))[i] = n := by omega
          rw [this] at hz
          exact hnt hz
        · intro hr i hi hne'
          cases hdi : cs[i].dead
          · have hmi := chain_all hl hi hdi
            rw [ht] at hmi
            rcases List.mem_cons.1 hmi with rfl | hmt
            · exact absurd rfl hne'
            · unfold roomP at hr
              rw [ht] at hr
              have := List.all_eq_true.1 hr i (by simpa using hmt)
              simpa [hi] using this
          · rw [hdead i hi hdi]; decide
      · have e : chainOf cs (n : Int) = [] := by unfold chainOf; rw [walkC_dead hnl hd]; rfl
        have hn1 : ((n : Int) == -1) = false := beq_eq_false_iff_ne.2 (by omega)
        simp [e, hn1, hnl, hd]
        intro hx
        omega
  · rw [beq_eq_false_iff_ne.2 hl]
    simp
end Go.Proofs.YtlpbklgkafjfmaaGreatDoor

/-
  One operation of a heap, in plain words, and that an ok heap stays ok. Nothing of the translation is used here.
-/
namespace Go.Proofs.YtlpbklgkafjfmaaGreatDoor
abbrev Ms := List (Int × Int × List (Int × Int))
def curC (h : Hp) : Cl := h.calls.getD h.now.toNat Cl.none
def setH (h : Hp) (c : Cl) : Hp := { h with calls := h.calls.set h.now.toNat c }
def pushH (h : Hp) (v : Int × Int) : Hp := setH h { curC h with stack := (curC h).stack ++ [v] }
def dieC (c : Cl) : Cl := { c with stack := [], sender := -1, dead := true }
def leaveH (h : Hp) : Hp := { setH h (dieC (curC h)) with now := (curC h).sender }
def sayV (h : Hp) (v : Int × Int) : Int × Int := if v.1 = 2 then (2, (h.calls.getD v.2.toNat Cl.none).m) else v
def sayH (h : Hp) (v : Int × Int) : Hp := { h with said := h.said ++ [sayV h v] }
def codeH (h : Hp) (k : Int) : Hp := { h with code := k }
def callH (ms : Ms) (h : Hp) (m : Int) (args : List (Int × Int)) : Hp :=
  if 30 ≤ h.born then codeH h 3
  else { h with calls := h.calls ++ [⟨m, 0, args ++ List.replicate ((ms.getD m.toNat (0, 0, [])).2.1.toNat - args.length) (0, 0), [], h.now, false⟩], now := h.calls.length, born := h.born + 1 }
def retH (h : Hp) (v : Int × Int) : Hp :=
  if (curC h).sender < 0 then codeH (sayH (leaveH h) v) 1 else pushH (leaveH h) v
def backTo : Nat → Hp → Nat → Hp
  | 0, h, _ => h
  | f + 1, h, b => if h.now = b then h else backTo f (leaveH h) b
def backH (h : Hp) (b : Nat) (v : Int × Int) : Hp :=
  if (h.calls.getD b Cl.none).dead then codeH h 2 else pushH (backTo h.calls.length h b) v
def bitV (b : Bool) : Int × Int := (1, if b then 1 else 0)
def lookV (h : Hp) (k a : Int) (at_ : Nat) : Int × Int :=
  let c := h.calls.getD at_ Cl.none
  if k = 12 then (if 0 ≤ c.sender then (2, c.sender) else (0, 0))
  else if k = 13 then c.temps.getD a.toNat (0, 0)
  else if k = 17 then bitV c.dead
  else (1, c.pc)
def kindsOk (k : Int) (args : List (Int × Int)) : Bool :=
  if k = 5 then (args.getD 0 (0, 0)).1 == 1 && (args.getD 1 (0, 0)).1 == 1
  else if k = 12 ∨ k = 13 ∨ k = 14 ∨ k = 15 ∨ k = 17 ∨ k = 18 then (args.getD 0 (0, 0)).1 == 2
  else true
def pokeH (h : Hp) (at_ : Nat) (a : Int) (v : Int × Int) : Hp :=
  { h with calls := h.calls.set at_ { h.calls.getD at_ Cl.none with temps := (h.calls.getD at_ Cl.none).temps.set a.toNat v } }
def doH (ms : Ms) (h : Hp) (k a : Int) (args : List (Int × Int)) : Hp :=
  let x := args.getD 0 (0, 0)
  let y := args.getD 1 (0, 0)
  if k = 1 then pushH h (1, a)
  else if k = 5 then pushH h (1, (x.2 + y.2) % 1000)
  else if k = 6 then pushH h (bitV (decide (x = y)))
  else if k = 2 then pushH h ((curC h).temps.getD a.toNat (0, 0))
  else if k = 3 then setH h { curC h with temps := (curC h).temps.set a.toNat x }
  else if k = 7 then setH h { curC h with pc := a }
  else if k = 8 then (if x.1 = 0 ∨ x = (1, 0) then setH h { curC h with pc := a } else h)
  else if k = 9 then callH ms h a args
  else if k = 10 then retH h x
  else if k = 11 then pushH h (2, h.now)
  else if k = 12 ∨ k = 13 ∨ k = 17 ∨ k = 18 then pushH h (lookV h k a x.2.toNat)
  else if k = 14 then pokeH h x.2.toNat a y
  else if k = 15 then backH h x.2.toNat y
  else if k = 16 then sayH h x
  else h
def opNext (ms : Ms) (c : Cl) : Int × Int := (ms.getD c.m.toNat (0, 0, [])).2.2.getD c.pc.toNat (0, 0)
def stepH (ms : Ms) (h : Hp) : Hp :=
  let c := curC h
  let op := opNext ms c
  let t := takesOf ms op.1 op.2
  let left := (c.stack.length : Int) - t.1
  if ((ms.getD c.m.toNat (0, 0, [])).2.2.length : Int) ≤ c.pc then codeH h 2
  else if left < 0 ∨ 6 < left + t.2 then codeH h 2
  else if kindsOk op.1 (c.stack.drop left.toNat) = false then codeH h 2
  else doH ms (setH h { c with stack := c.stack.take left.toNat, pc := c.pc + 1 }) op.1 op.2 (c.stack.drop left.toNat)
def runH (ms : Ms) : Nat → Hp → Hp
  | 0, h => h
  | n + 1, h => if h.code = 0 then runH ms n (stepH ms h) else h
/- the chain, where calls are turned -/
theorem walkC_congr {cs cs' : List Cl} (hl : cs'.length = cs.length) (h : ∀ i, (hi : i < cs.length) → (cs'[i]'(by omega)).dead = cs[i].dead ∧ (cs'[i]'(by omega)).sender = cs[i].sender) : ∀ (f : Nat) (a : Int), walkC cs' f a = walkC cs f a
  | 0, a => rfl
  | f + 1, a => by
    simp only [walkC]
    by_cases ha : a < 0
    · rw [if_pos ha, if_pos ha]
    · rw [if_neg ha, if_neg ha]
      by_cases hn : a.toNat < cs.length
      · rw [dif_pos hn, dif_pos (by omega), (h _ hn).1, (h _ hn).2, walkC_congr hl h f]
      · rw [dif_neg hn, dif_neg (by omega)]
theorem walkC_more {cs : List Cl} : ∀ (l : List Nat) (f f' : Nat) (a : Int), walkC cs f a = some l → l.length ≤ f' → walkC cs f' a = some l
  | [], f, f', a, h, _ => by
    by_cases ha : a < 0
    · exact walkC_neg ha
    · obtain ⟨g, n, hn, t, _, _, e, _⟩ := walkC_some h (by omega)
      cases e
  | k :: l, f, f', a, h, hl => by
    by_cases ha : a < 0
    · rw [walkC_neg ha] at h; cases h
    · obtain ⟨g, n, hn, t, _, rfl, e, hd, ht⟩ := walkC_some h (by omega)
      cases e
      obtain ⟨f'', rfl⟩ : ∃ f'', f' = f'' + 1 := ⟨f' - 1, by simp at hl; omega⟩
      rw [walkC_step hn hd, walkC_more l g f'' _ ht (by simpa using hl)]
      rfl
theorem walkC_set {cs : List Cl} {j : Nat} (c : Cl) : ∀ (l : List Nat) (f : Nat) (a : Int), walkC cs f a = some l → j ∉ l → walkC (cs.set j c) f a = some l
  | [], f, a, h, _ => by
    by_cases ha : a < 0
    · exact walkC_neg ha
    · obtain ⟨g, n, hn, t, _, _, e, _⟩ := walkC_some h (by omega)
      cases e
  | k :: l, f, a, h, hj => by
    by_cases ha : a < 0
    · rw [walkC_neg ha] at h; cases h
    · obtain ⟨g, n, hn, t, rfl, rfl, e, hd, ht⟩ := walkC_some h (by omega)
      cases e
      have hne : j ≠ k := fun e => hj (by rw [e]; exact List.mem_cons_self)
      have hk' : k < (cs.set j c).length := by simpa using hn
      have he : (cs.set j c)[k] = cs[k] := List.getElem_set_ne hne _
      rw [walkC_step hk' (by rw [he]; exact hd), he, walkC_set c l g _ ht (fun e => hj (List.mem_cons_of_mem _ e))]
      rfl
theorem walkC_append {cs : List Cl} (c : Cl) : ∀ (l : List Nat) (f : Nat) (a : Int), walkC cs f a = some l → walkC (cs ++ [c]) f a = some l
  | [], f, a, h => by
    by_cases ha : a < 0
    · exact walkC_neg ha
    · obtain ⟨g, n, hn, t, _, _, e, _⟩ := walkC_some h (by omega)
      cases e
  | k :: l, f, a, h => by
    by_cases ha : a < 0
    · rw [walkC_neg ha] at h; cases h
    · obtain ⟨g, n, hn, t, rfl, rfl, e, hd, ht⟩ := walkC_some h (by omega)
      cases e
      have hk' : k < (cs ++ [c]).length := by simp; omega
      have he : (cs ++ [c])[k] = cs[k] := List.getElem_append_left hn
      rw [walkC_step hk' (by rw [he]; exact hd), he, walkC_append c l g _ ht]
      rfl
structure Waits (cs : List Cl) (now : Int) (l : List Nat) : Prop where
  ch : ∃ f, walkC cs f now = some l
  all : ∀ k, (hk : k < cs.length) → cs[k].dead = false → k ∈ l
  room : ∀ k ∈ l.drop 1, ∀ hk : k < cs.length, cs[k].stack.length < 6
theorem Waits.nodup {cs : List Cl} {now : Int} {l : List Nat} (h : Waits cs now l) : l.Nodup := by
  obtain ⟨f, hf⟩ := h.ch
  exact walkC_nodup _ _ _ hf
theorem Waits.mem {cs : List Cl} {now : Int} {l : List Nat} (h : Waits cs now l) {k : Nat} (hk : k ∈ l) : ∃ h : k < cs.length, cs[k].dead = false := by
  obtain ⟨f, hf⟩ := h.ch
  exact walkC_in _ _ _ hf k hk
theorem Waits.len {cs : List Cl} {now : Int} {l : List Nat} (h : Waits cs now l) : l.length ≤ cs.length := by
  have := few_of_nodup l (List.range cs.length) h.nodup (fun k hk => List.mem_range.2 (h.mem hk).1)
  simpa using this
theorem Waits.chain {cs : List Cl} {now : Int} {l : List Nat} (h : Waits cs now l) : chainOf cs now = l := by
  obtain ⟨f, hf⟩ := h.ch
  unfold chainOf
  rw [walkC_more l f cs.length now hf h.len]
  rfl
end Go.Proofs.YtlpbklgkafjfmaaGreatDoor
