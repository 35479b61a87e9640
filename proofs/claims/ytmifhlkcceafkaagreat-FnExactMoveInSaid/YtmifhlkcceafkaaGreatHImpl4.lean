/-
  The program's waitOk, in plain words (waitP).
-/
import Derived.Test.YtmifhlkcceafkaaGreatHImpl3
import Derived.Test.YtmifhlkcceafkaaGreatHHeapOk
import Derived.Test.YtmifhlkcceafkaaGreatImplOk3

namespace Go.Proofs.YtmifhlkcceafkaaGreat
open Go.RowKit
def freeP (cs : List Cl) (now : Int) : Prop := ∀ i, (h : i < cs.length) → (i : Int) ≠ now → cs[i].stack.length < 6
open Classical in
noncomputable def waitP (cs : List Cl) (now : Int) : Bool := decide (freeP cs now) && ((deepOf cs now == liveN cs) && ((deepOf cs now == 0) == (now == -1)))
theorem waitP_no {cs : List Cl} {now : Int} {i : Nat} (h : i < cs.length) (hn : (i : Int) ≠ now) (h6 : ¬ cs[i].stack.length < 6) : waitP cs now = false := by
  have : ¬ freeP cs now := fun hf => h6 (hf i h hn)
  simp [waitP, this]
theorem waitP_yes {cs : List Cl} {now : Int} (h : freeP cs now) : waitP cs now = ((deepOf cs now == liveN cs) && ((deepOf cs now == 0) == (now == -1))) := by
  simp [waitP, h]
set_option maxRecDepth 100000 in
set_option maxHeartbeats 4000000 in
theorem implWaitOk_any (vc vs : Value) (h : Hp) (w : World) (hh : HeapAt w vc vs h) (hn : h.calls.length ≤ 900000) :
    Calls Tryz.prog 69 #[.agg (hpCells vc vs h)] w fun e w' => e = .returned (.bool (waitP h.calls h.now)) ∧ Below w.heap.size w w' := by
  have HD : Hid (∀ w', Below w.heap.size w w' → Calls Tryz.prog 94 #[.agg (hpCells vc vs h)] w' fun e w2 => e = .returned (.int .i64 (deepOf h.calls h.now : Nat)) ∧ Below w'.heap.size w' w2) := fun w' hb => implHeapDeep_any vc vs h w' (hh.below hb) hn
  unfold hpCells at *
  obtain ⟨cs, now, born, said, code⟩ := h
  obtain ⟨hhc, hhs⟩ := hh
  simp only [] at hhc hhs hn HD ⊢
  obtain ⟨aD, kD, hvs⟩ := hhs.shape
  subst hvs
  obtain ⟨ac, kc, rfl, _, hcl⟩ := hhc
  have hA := (Below.refl w.heap.size w).alloc (Nat.le_refl _) (.cells #[.slice ac cs.length kc, .int .i64 now, .int .i64 born, .slice aD said.length kD, .int .i64 code] 45)
  have b5 := five_new w 45 (.slice ac cs.length kc) (.int .i64 now) (.int .i64 born) (.slice aD said.length kD) (.int .i64 code)
  go_enter Tryz.func69, Tryz.ntmps69
  go_upto_region 1 with fail
  generalize w.alloc (.cells #[.slice ac cs.length kc, .int .i64 now, .int .i64 born, .slice aD said.length kD, .int .i64 code] 45) = W0 at *
  obtain ⟨⟨x0, x1, x2, x3, x4⟩, _⟩ := five_cells b5
  clear b5 hhs
  have zA := hA.size
  have hw0 : w.heap.size < W0.heap.size := World.block_lt_of_cell? _ _ x0
  go_wp2_with fail
  go_loopg [3, 10] cs.length (fun d v i wr => ∃ k : Nat, k ≤ cs.length ∧ d = cs.length - k ∧ v = .int .i64 (liveN (cs.take k) : Nat) ∧ i = .int .i64 (k : Nat) ∧ Below W0.heap.size W0 wr ∧ ∀ j, (hj : j < cs.length) → j < k → (j : Int) ≠ now → cs[j].stack.length < 6)
  case atStart => exact ⟨0, Nat.zero_le _, rfl, rfl, rfl, Below.refl _ _, fun j _ h => absurd h (Nat.not_lt_zero _)⟩
  case round =>
    obtain ⟨k, hk, rfl, rfl, rfl, hb, hall⟩ := hrel
    have H : Hid (∀ j, (hj : j < cs.length) → j < k → (j : Int) ≠ now → cs[j].stack.length < 6) := hall
    clear hall
    have hsz := hb.size
    have q1 := cell_below hb x1
    by_cases hlt : k < cs.length
    · have hkz : (k : Int) < (cs.length : Int) := by omega
      obtain ⟨b, o, vt, vs, rfl, hc⟩ := hcl k hlt
      have hcW := hc.below (hA.trans (hb.mono zA))
      obtain ⟨d0, d1, d2, d3, d4, d5, ht, hs⟩ := hcW
      obtain ⟨a1, k1, e1⟩ := ht.shape
      obtain ⟨a2, k2, e2⟩ := hs.shape
      subst e1 e2
      have HL : Hid (liveN (cs.take (k + 1)) = liveN (cs.take k) + (if cs[k].dead then 0 else 1)) := liveN_step hlt
      have HLB : Hid (liveN (cs.take k) ≤ k) := by
        show _ ≤ _
        unfold liveN
        exact Nat.le_trans (List.length_filter_le _ _) (by simp; omega)
      clear hc hcl ht hs
      have hLz : liveN (cs.take k) ≤ 900000 := Nat.le_trans HLB.out (by omega)
      have qN := fun o => cell_below ((Below.refl _ _).alloc (Nat.le_refl _) o) q1
      generalize liveN (cs.take k) = L at *
      cases hdd : cs[k].dead
      · rw [hdd] at d5
        have HL2 : Hid (liveN (cs.take (k + 1)) = L + 1) := by
          show _ = _
          rw [HL.out, hdd]
          rfl
        clear HL hdd
        by_cases hkn : (k : Int) = now
        · subst hkn
          go_wp2
          go_roundg (cs.length - (k + 1))
          case measure => omega
          case rel =>
            refine ⟨k + 1, by omega, rfl, by rw [HL2.out]; go_num, by go_num, hb.alloc hsz _, fun j hj hjk hne => ?_⟩
            exact H.out j hj (by omega) hne
        · have ekn : ((k : Int) == now) = false := beq_eq_false_iff_ne.2 hkn
          have ekn' : ((k : Int) != now) = true := by simp [hkn]
          by_cases h6 : 6 ≤ cs[k].stack.length
          · have h6z : (6 : Int) ≤ (cs[k].stack.length : Int) := by omega
            have HF : Hid (waitP cs now = false) := waitP_no hlt hkn (by omega)
            go_wp2
            go_ret
            exact ⟨ret_bool HF.out.symm, hA.trans ((hb.alloc hsz _).mono zA)⟩
          · have h6z : (cs[k].stack.length : Int) < 6 := by omega
            have H6 : Hid (cs[k].stack.length < 6) := by show _ < _; omega
            go_wp2
            go_roundg (cs.length - (k + 1))
            case measure => omega
            case rel =>
              refine ⟨k + 1, by omega, rfl, by rw [HL2.out]; go_num, by go_num, hb.alloc hsz _, fun j hj hjk hne => ?_⟩
              by_cases e : j = k
              · subst e; exact H6.out
              · exact H.out j hj (by omega) hne
      · rw [hdd] at d5
        have HL2 : Hid (liveN (cs.take (k + 1)) = L) := by
          show _ = _
          rw [HL.out, hdd]
          rfl
        clear HL hdd
        by_cases hkn : (k : Int) = now
        · subst hkn
          go_wp2
          go_roundg (cs.length - (k + 1))
          case measure => omega
          case rel =>
            refine ⟨k + 1, by omega, rfl, by rw [HL2.out], by go_num, hb.alloc hsz _, fun j hj hjk hne => ?_⟩
            exact H.out j hj (by omega) hne
        · have ekn : ((k : Int) == now) = false := beq_eq_false_iff_ne.2 hkn
          have ekn' : ((k : Int) != now) = true := by simp [hkn]
          by_cases h6 : 6 ≤ cs[k].stack.length
          · have h6z : (6 : Int) ≤ (cs[k].stack.length : Int) := by omega
            have HF : Hid (waitP cs now = false) := waitP_no hlt hkn (by omega)
            go_wp2
            go_ret
            exact ⟨ret_bool HF.out.symm, hA.trans ((hb.alloc hsz _).mono zA)⟩
          · have h6z : (cs[k].stack.length : Int) < 6 := by omega
            have H6 : Hid (cs[k].stack.length < 6) := by show _ < _; omega
            go_wp2
            go_roundg (cs.length - (k + 1))
            case measure => omega
            case rel =>
              refine ⟨k + 1, by omega, rfl, by rw [HL2.out], by go_num, hb.alloc hsz _, fun j hj hjk hne => ?_⟩
              by_cases e : j = k
              · subst e; exact H6.out
              · exact H.out j hj (by omega) hne
    · obtain rfl : k = cs.length := by omega
      have HF : Hid (freeP cs now) := fun j hj hne => H.out j hj hj hne
      have HL : Hid (liveN (cs.take cs.length) = liveN cs) := by show _ = _; rw [List.take_length]
      have hLz : liveN cs ≤ 900000 := Nat.le_trans (List.length_filter_le _ _) hn
      rw [HL.out]
      have HP : Hid (waitP cs now = ((deepOf cs now == liveN cs) && ((deepOf cs now == 0) == (now == -1)))) := waitP_yes HF.out
      have q0 := cell_below hb x0
      have q2 := cell_below hb x2
      have q3 := cell_below hb x3
      have q4 := cell_below hb x4
      have HD2 := HD.out wr (hA.trans (hb.mono zA))
      have HD3 : Hid (Calls Tryz.prog 94 #[.agg #[.slice ac cs.length kc, .int .i64 now, .int .i64 born, .slice aD said.length kD, .int .i64 code]] wr fun e w2 => e = .returned (.int .i64 (deepOf cs now : Nat)) ∧ Below wr.heap.size wr w2) := HD2
      have hbW : Below w.heap.size w wr := hA.trans (hb.mono zA)
      have zW := hbW.size
      clear HD2 HD HF H HL hcl x0 x1 x2 x3 x4 hA hb
      generalize liveN cs = L at *
      generalize deepOf cs now = D at *
      by_cases hDL : D = L
      · subst hDL
        go_wp2_with (go_at_call 94; refine HD3.out.mono ?_; rintro e w2 ⟨rfl, hb2⟩; have p1 := cell_below hb2 q1)
        go_ret
        refine ⟨ret_bool ?_, hbW.trans (hb2.mono zW)⟩
        rw [HP.out, beq_self_eq_true, Bool.true_and, show ((D : Int) == 0) = (D == 0) from by rw [Bool.eq_iff_iff, beq_iff_eq, beq_iff_eq]; omega]
      · have eDL : ((D : Int) == (L : Int)) = false := beq_eq_false_iff_ne.2 (by omega)
        have hDz : ¬ (D : Int) = (L : Int) := by omega
        go_wp2_with (go_at_call 94; refine HD3.out.mono ?_; rintro e w2 ⟨rfl, hb2⟩; have p1 := cell_below hb2 q1)
        go_ret
        exact ⟨ret_bool (by rw [HP.out, beq_eq_false_iff_ne.2 hDL, Bool.false_and]), hbW.trans (hb2.mono zW)⟩
end Go.Proofs.YtmifhlkcceafkaaGreat

/-
  Who waits for whom: where all calls are in form, the program's test (waitP) and the model's (endOk) answer the same. A chain has no repeats; as long as the alive calls are many, it holds them all.
-/
namespace Go.Proofs.YtmifhlkcceafkaaGreat
theorem walkC_some {cs : List Cl} {f : Nat} {a : Int} {l : List Nat} (h : walkC cs f a = some l) (ha : 0 ≤ a) : ∃ (g n : Nat) (hn : n < cs.length) (t : List Nat), f = g + 1 ∧ a = n ∧ l = n :: t ∧ cs[n].dead = false ∧ walkC cs g cs[n].sender = some t := by
  obtain ⟨n, rfl⟩ := Int.eq_ofNat_of_zero_le ha
  cases f with
  | zero => rw [walkC_zero ha] at h; cases h
  | succ g =>
    by_cases hn : n < cs.length
    · cases hd : cs[n].dead
      · rw [walkC_step hn hd] at h
        cases hw : walkC cs g cs[n].sender with
        | none => rw [hw] at h; cases h
        | some t => rw [hw] at h; exact ⟨g, n, hn, t, rfl, rfl, (Option.some.inj h).symm, hd, hw⟩
      · rw [walkC_dead hn hd] at h; cases h
    · rw [walkC_past hn] at h; cases h
theorem walkC_one {cs : List Cl} : ∀ (l : List Nat) (f f' : Nat) (a : Int) (l' : List Nat), walkC cs f a = some l → walkC cs f' a = some l' → l = l'
  | l, f, f', a, l', h, h' => by
    by_cases ha : a < 0
    · rw [walkC_neg ha] at h h'
      exact (Option.some.inj h).symm.trans (Option.some.inj h')
    obtain ⟨g, n, hn, t, rfl, rfl, rfl, _, hw⟩ := walkC_some h (by omega)
    obtain ⟨g', n', hn', t', rfl, e, rfl, _, hw'⟩ := walkC_some h' (by omega)
    obtain rfl : n = n' := by omega
    rw [walkC_one t g g' _ t' hw hw']
  termination_by l => l.length
theorem walkC_tail {cs : List Cl} : ∀ (pre : List Nat) (f : Nat) (a : Int) (k : Nat) (post : List Nat), walkC cs f a = some (pre ++ k :: post) → ∃ f', walkC cs f' (k : Int) = some (k :: post)
  | [], f, a, k, post, h => by
    by_cases ha : a < 0
    · rw [walkC_neg ha] at h; cases h
    obtain ⟨g, n, hn, t, rfl, rfl, e, _, hw⟩ := walkC_some h (by omega)
    obtain ⟨rfl, rfl⟩ := List.cons.inj e
    exact ⟨g + 1, h⟩
  | p :: pre, f, a, k, post, h => by
    by_cases ha : a < 0
    · rw [walkC_neg ha] at h; cases h
    obtain ⟨g, n, hn, t, rfl, rfl, e, _, hw⟩ := walkC_some h (by omega)
    obtain ⟨rfl, rfl⟩ := List.cons.inj e
    exact walkC_tail pre g _ k post hw
theorem walkC_nodup {cs : List Cl} : ∀ (l : List Nat) (f : Nat) (a : Int), walkC cs f a = some l → l.Nodup
  | [], _, _, _ => List.nodup_nil
  | k :: t, f, a, h => by
    by_cases ha : a < 0
    · rw [walkC_neg ha] at h; cases h
    obtain ⟨g, n, hn, t', rfl, rfl, e, _, hw⟩ := walkC_some h (by omega)
    obtain ⟨rfl, rfl⟩ := List.cons.inj e
    refine List.nodup_cons.2 ⟨fun hm => ?_, walkC_nodup _ g _ hw⟩
    obtain ⟨pre, post, rfl⟩ := List.append_of_mem hm
    obtain ⟨f', hf⟩ := walkC_tail pre g _ k post hw
    have := congrArg List.length (walkC_one _ _ _ _ _ h hf)
    simp at this
    omega
theorem few_of_nodup : ∀ (l A : List Nat), l.Nodup → (∀ k ∈ l, k ∈ A) → l.length ≤ A.length
  | [], _, _, _ => Nat.zero_le _
  | a :: t, A, hn, hs => by
    obtain ⟨ha, ht⟩ := List.nodup_cons.1 hn
    have hm : a ∈ A := hs a (List.mem_cons_self ..)
    have := few_of_nodup t (A.erase a) ht fun k hk => (List.mem_erase_of_ne (show k ≠ a from fun e => ha (by rw [← e]; exact hk))).2 (hs k (List.mem_cons_of_mem _ hk))
    rw [List.length_erase_of_mem hm] at this
    have := List.length_pos_of_mem hm
    simp
    omega
def aliveL (cs : List Cl) : List Nat := (List.range cs.length).filter fun i => !(cs.getD i Cl.none).dead
theorem aliveL_len (cs : List Cl) : (aliveL cs).length = liveN cs := by
  have e : (List.range cs.length).map (fun i => cs.getD i Cl.none) = cs := by
    apply List.ext_getElem
    · simp
    · intro i h1 h2
      simp [h2]
  unfold liveN aliveL
  conv => rhs; rw [← e]
  rw [List.filter_map, List.length_map]
  rfl
theorem mem_alive {cs : List Cl} {k : Nat} : k ∈ aliveL cs ↔ ∃ h : k < cs.length, cs[k].dead = false := by
  unfold aliveL
  rw [List.mem_filter, List.mem_range]
  constructor
  · rintro ⟨h, e⟩
    exact ⟨h, by simpa [h] using e⟩
  · rintro ⟨h, e⟩
    exact ⟨h, by simp [h, e]⟩
theorem chain_nodup (cs : List Cl) (now : Int) : (chainOf cs now).Nodup := by
  unfold chainOf
  cases h : walkC cs cs.length now with
  | none => exact List.nodup_nil
  | some l => exact walkC_nodup l _ _ h
theorem chain_all {cs : List Cl} {now : Int} (h : (chainOf cs now).length = liveN cs) {k : Nat} (hk : k < cs.length) (hd : cs[k].dead = false) : k ∈ chainOf cs now := by
  apply Classical.byContradiction
  intro hn
  have := few_of_nodup (k :: chainOf cs now) (aliveL cs) (List.nodup_cons.2 ⟨hn, chain_nodup cs now⟩) (fun j hj => by
    rcases List.mem_cons.1 hj with rfl | hj
    · exact mem_alive.2 ⟨hk, hd⟩
    · exact mem_alive.2 (chain_in hj))
  rw [aliveL_len, List.length_cons] at this
  omega
theorem clOk_sender {ms : List (Int × Int × List (Int × Int))} {n : Nat} {c : Cl} (h : clOk ms n c = true) : -1 ≤ c.sender ∧ c.sender < (n : Int) := by
  simp only [clOk, Bool.and_eq_true, inR_true] at h
  omega
theorem clOk_dead {ms : List (Int × Int × List (Int × Int))} {n : Nat} {c : Cl} (h : clOk ms n c = true) (hd : c.dead = true) : c.stack.length = 0 := by
  simp only [clOk, Bool.and_eq_true, hd] at h
  have := h.2.2
  simp at this
  rw [this.2]
  rfl
theorem wait_end {ms : List (Int × Int × List (Int × Int))} {h : Hp} (hc : ∀ i, (hi : i < h.calls.length) → clOk ms h.calls.length h.calls[i] = true) (h0 : -1 ≤ h.now) (h1 : h.now < (h.calls.length : Int)) : waitP h.calls h.now = endOk h := by
  obtain ⟨cs, now, born, said, code⟩ := h
  simp only [] at hc h0 h1 ⊢
  have hs : ∀ i, (h : i < cs.length) → -1 ≤ cs[i].sender ∧ cs[i].sender < (cs.length : Int) := fun i h => clOk_sender (hc i h)
  have hdeep := deepOf_chain hs h0 h1
  have hdead : ∀ i, (h : i < cs.length) → cs[i].dead = true → cs[i].stack.length = 0 := fun i h e => clOk_dead (hc i h) e
  unfold waitP endOk
  simp only [hdeep]
  by_cases hl : (chainOf cs now).length = liveN cs
  · rw [beq_iff_eq.2 hl, Bool.true_and, Bool.and_true]
    by_cases hn : now < 0
    · obtain rfl : now = -1 := by omega
      have e : chainOf cs (-1) = [] := by unfold chainOf; rw [walkC_neg hn]; rfl
      have hf : freeP cs (-1) := fun i hi _ => by
        cases hd : cs[i].dead
        · have := chain_all hl hi hd
          rw [e] at this
          cases this
        · rw [hdead i hi hd]; decide
      simp [e, hf, roomP]
    · obtain ⟨n, rfl⟩ := Int.eq_ofNat_of_zero_le (show 0 ≤ now by omega)
      have hnl : n < cs.length := by omega
      cases hd : cs[n].dead
      · have hm := chain_all hl hnl hd
        have hw : ∃ t, chainOf cs (n : Int) = n :: t := by
          revert hm
          unfold chainOf
          cases hw : walkC cs cs.length (n : Int) with
          | none => intro hm; cases hm
          | some l =>
            intro _
            obtain ⟨g, n', hn', t, _, e, rfl, _, _⟩ := walkC_some hw (by omega)
            obtain rfl : n = n' := by omega
            exact ⟨t, rfl⟩
        obtain ⟨t, ht⟩ := hw
        have hnd := chain_nodup cs (n : Int)
        rw [ht] at hnd
        have hnt := (List.nodup_cons.1 hnd).1
        have hne : ((chainOf cs (n : Int)).length == 0) = false := by rw [ht]; rfl
        have hn1 : ((n : Int) == -1) = false := beq_eq_false_iff_ne.2 (by omega)
        have hA : (decide ((n : Int) < 0) || !(cs.getD ((n : Int)).toNat Cl.none).dead) = true := by simp [hnl, hd]
        rw [hne, hn1, hA]
        simp only [beq_self_eq_true, Bool.and_true, Bool.true_and]
        rw [Bool.eq_iff_iff, @decide_eq_true_iff _ (Classical.propDecidable _)]
        constructor
        · intro hf
          refine roomP_yes (fun k hk => (chain_in hk).1) fun i hi h1 hk => hf _ hk fun e => ?_
          have hz : (chainOf cs (n : Int))[i] ∈ t := by
            have hi' : i < (n :: t).length := by rw [← ht]; exact hi
            have e1 : (chainOf cs (n : Int))[i] = (n :: t)[i] := by simp only [ht]
            rw [e1]
            match i, h1, hi' with
            | i + 1, _, hi' => exact List.getElem_mem _
          have : (chainOf cs (n : Int))[i] = n := by omega
          rw [this] at hz
          exact hnt hz
        · intro hr i hi hne'
          cases hdi : cs[i].dead
          · have hmi := chain_all hl hi hdi
            rw [ht] at hmi
            rcases List.mem_cons.1 hmi with rfl | hmt
            · exact absurd rfl hne'
            · unfold roomP at hr
              rw [ht] at hr
              have := List.all_eq_true.1 hr i (by simpa using hmt)
              simpa [hi] using this
          · rw [hdead i hi hdi]; decide
      · have e : chainOf cs (n : Int) = [] := by unfold chainOf; rw [walkC_dead hnl hd]; rfl
        have hn1 : ((n : Int) == -1) = false := beq_eq_false_iff_ne.2 (by omega)
        simp [e, hn1, hnl, hd]
        intro hx
        omega
  · rw [beq_eq_false_iff_ne.2 hl]
    simp
end Go.Proofs.YtmifhlkcceafkaaGreat

/-
  The program's HeapOk answers the plain heapOk; it writes to nothing that was there.
-/
namespace Go.Proofs.YtmifhlkcceafkaaGreat
open Go.RowKit
theorem ops_few {ms : List (Int × Int × List (Int × Int))} (h : progOk ms = true) : ∀ i, (hi : i < ms.length) → ms[i].2.2.length ≤ 1000000 := fun i hi => by
  simp only [progOk, Bool.and_eq_true] at h
  have := List.all_eq_true.1 h.2 ms[i] (List.getElem_mem hi)
  simp only [methOk, Bool.and_eq_true, inR_true, decide_eq_true_iff] at this
  omega
set_option maxRecDepth 100000 in
set_option maxHeartbeats 8000000 in
theorem implHeapOk_any (vp vc vs : Value) (ms : List (Int × Int × List (Int × Int))) (h : Hp) (w : World) (hp : MethsAt w vp ms) (hh : HeapAt w vc vs h) (hn : h.calls.length ≤ 1048576) :
    Calls Tryz.prog 27 #[.agg #[vp], .agg (hpCells vc vs h)] w fun e w' => e = .returned (.bool (heapOk ms h)) ∧ Below w.heap.size w w' := by
  obtain ⟨ac, kc, hvc⟩ := hh.c.shape
  obtain ⟨aD, kD, hvs⟩ := hh.s.shape
  obtain ⟨ap, cp, hvp, hlp, _⟩ := id hp
  subst hvc hvs hvp
  unfold maxLen at hlp
  unfold hpCells
  have hA : Below w.heap.size w ((w.alloc (.cells #[.slice ap ms.length cp] 41)).alloc (.cells #[.slice ac h.calls.length kc, .int .i64 h.now, .int .i64 h.born, .slice aD h.said.length kD, .int .i64 h.code] 45)) := ((Below.refl _ _).alloc (Nat.le_refl _) _).alloc (by simp) _
  have bp : ((w.alloc (.cells #[.slice ap ms.length cp] 41)).alloc (.cells #[.slice ac h.calls.length kc, .int .i64 h.now, .int .i64 h.born, .slice aD h.said.length kD, .int .i64 h.code] 45)).cell? ⟨w.heap.size, 0, none⟩ = some (.slice ap ms.length cp) := by simp [go_sem]
  have bh := five_new (w.alloc (.cells #[.slice ap ms.length cp] 41)) 45 (.slice ac h.calls.length kc) (.int .i64 h.now) (.int .i64 h.born) (.slice aD h.said.length kD) (.int .i64 h.code)
  simp only [World.size_alloc] at bh
  go_enter Tryz.func27, Tryz.ntmps27
  go_upto_region 1 with fail
  generalize (w.alloc (.cells #[.slice ap ms.length cp] 41)).alloc (.cells #[.slice ac h.calls.length kc, .int .i64 h.now, .int .i64 h.born, .slice aD h.said.length kD, .int .i64 h.code] 45) = W0 at *
  obtain ⟨⟨x0, x1, x2, x3, x4⟩, _⟩ := five_cells bh
  have zA := hA.size
  go_wp2_with fail
  refine (implProgOk_any _ ms _ (hp.below hA)).mono ?_
  rintro e w1 ⟨rfl, hb1⟩
  have hB1 : Below w.heap.size w w1 := hA.trans (hb1.mono zA)
  have bp1 := cell_below hb1 bp
  have bh1 := row_below hb1 bh
  have z1 := hB1.size
  clear hA bp bh x0 x1 x2 x3 x4 hb1
  obtain ⟨⟨x0, x1, x2, x3, x4⟩, _⟩ := five_cells bh1
  have HH : Hid (headOk ms h = false → heapOk ms h = false) := heapOk_head
  cases h1 : progOk ms
  · have HE : Hid (heapOk ms h = false) := HH.out (by simp [headOk, h1])
    go_wp2
    go_ret
    exact ⟨ret_bool HE.out.symm, hB1⟩
  have HO := ops_few h1
  have HOPS : Hid (∀ i, (hi : i < ms.length) → ms[i].2.2.length ≤ 1000000) := HO
  clear HO
  have hx := @sender_or h.calls.length h.now
  cases h2 : inR h.now (-1) ((h.calls.length : Int) - 1)
  · have HE : Hid (heapOk ms h = false) := HH.out (by simp [headOk, h2])
    rw [h2] at hx
    have HX : Hid ((h.now == -1 || inR h.now 0 ((h.calls.length : Int) - 1)) = false) := hx
    clear hx
    go_wp2_with (go_at_call 64; refine (implIsCallOrNone_any _ _ _).mono ?_; rintro e w' ⟨rfl, hw⟩; obtain rfl := hw.symm; rw [HX.out])
    go_ret
    exact ⟨ret_bool HE.out.symm, hB1⟩
  rw [h2] at hx
  have HX : Hid ((h.now == -1 || inR h.now 0 ((h.calls.length : Int) - 1)) = true) := hx
  clear hx
  have h2' := inR_true.1 h2
  cases h3 : inR h.born 1 30
  · have HE : Hid (heapOk ms h = false) := HH.out (by simp [headOk, h3])
    go_wp2_with (first | (go_at_call 64; refine (implIsCallOrNone_any _ _ _).mono ?_; rintro e w' ⟨rfl, hw⟩; obtain rfl := hw.symm; rw [HX.out]) | (go_at_call 65; refine (implBornOk_any _ _).mono ?_; rintro e w' ⟨rfl, hw⟩; obtain rfl := hw.symm; rw [h3]))
    go_ret
    exact ⟨ret_bool HE.out.symm, hB1⟩
  have h3' := inR_true.1 h3
  by_cases h4 : h.born < (h.calls.length : Int)
  · have HE : Hid (heapOk ms h = false) := HH.out (by simp only [headOk, decide_eq_false (show ¬ (h.calls.length : Int) ≤ h.born by omega), Bool.and_false, Bool.false_and])
    go_wp2_with (first | (go_at_call 64; refine (implIsCallOrNone_any _ _ _).mono ?_; rintro e w' ⟨rfl, hw⟩; obtain rfl := hw.symm; rw [HX.out]) | (go_at_call 65; refine (implBornOk_any _ _).mono ?_; rintro e w' ⟨rfl, hw⟩; obtain rfl := hw.symm; rw [h3]))
    go_ret
    exact ⟨ret_bool HE.out.symm, hB1⟩
  have h4' : (h.calls.length : Int) ≤ h.born := by omega
  replace hn : h.calls.length ≤ 900000 := by omega
  clear h4
  have HS : Hid (Calls Tryz.prog 66 #[.agg #[.slice ap ms.length cp], .slice aD h.said.length kD] w1 fun e w' => e = .returned (.bool (valsOk ms.length h.said)) ∧ Below w1.heap.size w1 w') := implSaidOk_any _ _ ms h.said _ (hp.below hB1) (hh.below hB1).s
  obtain ⟨r6, hr6⟩ : ∃ r, valsOk ms.length h.said = r := ⟨_, rfl⟩
  have H6 : Hid (valsOk ms.length h.said = r6) := hr6
  clear hr6
  cases r6
  · have HE : Hid (heapOk ms h = false) := HH.out (by simp [headOk, H6.out])
    go_wp2_with (first | (go_at_call 64; refine (implIsCallOrNone_any _ _ _).mono ?_; rintro e w' ⟨rfl, hw⟩; obtain rfl := hw.symm; rw [HX.out]) | (go_at_call 65; refine (implBornOk_any _ _).mono ?_; rintro e w' ⟨rfl, hw⟩; obtain rfl := hw.symm; rw [h3]) | (go_at_call 66; refine HS.out.mono ?_; rintro e w2 ⟨rfl, hb2⟩; rw [H6.out]))
    go_ret
    exact ⟨ret_bool HE.out.symm, hB1.trans (hb2.mono z1)⟩
  have hcd : ((h.code == 1) == (h.now == -1)) = ((h.code == 1) == decide (h.now < 0)) := by
    have : (h.now == -1) = decide (h.now < 0) := by rw [Bool.eq_iff_iff, beq_iff_eq, decide_eq_true_iff]; omega
    rw [this]
  obtain ⟨r7, hr7⟩ : ∃ r, (inR h.code 0 3 && ((h.code == 1) == (h.now == -1))) = r := ⟨_, rfl⟩
  have H7 : Hid ((inR h.code 0 3 && ((h.code == 1) == (h.now == -1))) = r7) := hr7
  have H7' : Hid ((inR h.code 0 3 && ((h.code == 1) == decide (h.now < 0))) = r7) := by show _ = _; rw [← hcd]; exact hr7
  clear hr7 hcd
  cases r7
  · have HE : Hid (heapOk ms h = false) := HH.out (by
      have e := H7'.out
      cases h5 : inR h.code 0 3
      · simp [headOk, h5]
      · rw [h5, Bool.true_and] at e
        simp only [headOk, e, Bool.and_false])
    go_wp2_with (first | (go_at_call 64; refine (implIsCallOrNone_any _ _ _).mono ?_; rintro e w' ⟨rfl, hw⟩; obtain rfl := hw.symm; rw [HX.out]) | (go_at_call 65; refine (implBornOk_any _ _).mono ?_; rintro e w' ⟨rfl, hw⟩; obtain rfl := hw.symm; rw [h3]) | (go_at_call 66; refine HS.out.mono ?_; rintro e w2 ⟨rfl, hb2⟩; rw [H6.out]; have y4 := cell_below hb2 x4; have y1 := cell_below hb2 x1) | (go_at_call 67; refine (implCodeOk_any _ _ _).mono ?_; rintro e w' ⟨rfl, hw⟩; obtain rfl := hw.symm; rw [H7.out]))
    go_ret
    exact ⟨ret_bool HE.out.symm, hB1.trans (hb2.mono z1)⟩
  have HEND : Hid ((∀ i, (hi : i < h.calls.length) → clOk ms h.calls.length h.calls[i] = true) → heapOk ms h = waitP h.calls h.now) := fun hc => by
    have e := Bool.and_eq_true_iff.1 H7'.out
    rw [heapOk_end (by simp only [headOk, h1, h2, h3, decide_eq_true h4', e.1, e.2, H6.out, Bool.true_and]) hc, wait_end hc h2'.1 (by omega)]
  go_wp2_with (first | (go_at_call 64; refine (implIsCallOrNone_any _ _ _).mono ?_; rintro e w' ⟨rfl, hw⟩; obtain rfl := hw.symm; rw [HX.out]) | (go_at_call 65; refine (implBornOk_any _ _).mono ?_; rintro e w' ⟨rfl, hw⟩; obtain rfl := hw.symm; rw [h3]) | (go_at_call 66; refine HS.out.mono ?_; rintro e w2 ⟨rfl, hb2⟩; rw [H6.out]; have y4 := cell_below hb2 x4; have y1 := cell_below hb2 x1; have y0 := cell_below hb2 x0) | (go_at_call 67; refine (implCodeOk_any _ _ _).mono ?_; rintro e w' ⟨rfl, hw⟩; obtain rfl := hw.symm; rw [H7.out]))
  have hB2 : Below w.heap.size w w2 := hB1.trans (hb2.mono z1)
  have bp2 := cell_below hb2 bp1
  have bh2 := row_below hb2 bh1
  have z2 := hB2.size
  clear hB1 bp1 bh1 x0 x1 x2 x3 x4 hb2 y0 y1 y4 HS H6 H7 H7' HX HH h1 h2 h3
  go_loopg [49] h.calls.length (fun d i wr => ∃ k : Nat, k ≤ h.calls.length ∧ d = h.calls.length - k ∧ i = .int .i64 (k : Nat) ∧ Below w2.heap.size w2 wr ∧ ∀ j, (hj : j < h.calls.length) → j < k → clOk ms h.calls.length h.calls[j] = true)
  case atStart => exact ⟨0, Nat.zero_le _, rfl, rfl, Below.refl _ _, fun j _ hj => absurd hj (Nat.not_lt_zero _)⟩
  case round =>
    obtain ⟨k, hk, rfl, rfl, hbr, hall⟩ := hrel
    have HA : Hid (∀ j, (hj : j < h.calls.length) → j < k → clOk ms h.calls.length h.calls[j] = true) := hall
    clear hall
    have hBr : Below w.heap.size w wr := hB2.trans (hbr.mono z2)
    have zr := hBr.size
    have bpr := cell_below hbr bp2
    have bhr := row_below hbr bh2
    obtain ⟨⟨y0, y1, y2, y3, y4⟩, _⟩ := five_cells bhr
    by_cases hlt : k < h.calls.length
    · have hkz : (k : Int) < (h.calls.length : Int) := by omega
      obtain ⟨_, _, hx, _, hcl⟩ := (hh.below hBr).c
      cases hx
      obtain ⟨b, o, vt, vs', rfl, hc⟩ := hcl k hlt
      obtain ⟨d0, d1, d2, d3, d4, d5, dt, ds⟩ := hc
      obtain ⟨a1, k1, e1⟩ := dt.shape
      obtain ⟨a2, k2, e2⟩ := ds.shape
      subst e1 e2
      clear hcl
      have HCL : Hid (∀ W, Below wr.heap.size wr W → Calls Tryz.prog 68 #[.agg #[.slice ap ms.length cp], .agg #[.int .i64 h.calls[k].m, .int .i64 h.calls[k].pc, .slice a1 h.calls[k].temps.length k1, .slice a2 h.calls[k].stack.length k2, .int .i64 h.calls[k].sender, .bool h.calls[k].dead], .int .i64 (h.calls.length : Nat)] W fun e w' => e = .returned (.bool (clOk ms h.calls.length h.calls[k])) ∧ Below W.heap.size W w') := fun W hb => implCallOk_any _ _ _ ms h.calls[k] h.calls.length W ((hp.below hBr).below hb) (dt.below hb) (ds.below hb) (by unfold maxLen; omega) HOPS.out
      clear dt ds
      have qN := fun o => cell_below ((Below.refl _ _).alloc (Nat.le_refl _) o) bpr
      have q0N := fun o => cell_below ((Below.refl _ _).alloc (Nat.le_refl _) o) y0
      have hbN := fun o => (Below.refl wr.heap.size wr).alloc (Nat.le_refl _) o
      obtain ⟨r, hr⟩ : ∃ r, clOk ms h.calls.length h.calls[k] = r := ⟨_, rfl⟩
      have HR : Hid (clOk ms h.calls.length h.calls[k] = r) := hr
      clear hr
      cases r
      · go_wp2_with (go_at_call 68; refine (HCL.out _ (hbN _)).mono ?_; rintro e w3 ⟨rfl, hb3⟩; rw [HR.out])
        go_ret
        exact ⟨ret_bool (heapOk_call hlt HR.out).symm, (hBr.alloc zr _).trans (hb3.mono (by simp; omega))⟩
      · go_wp2_with (go_at_call 68; refine (HCL.out _ (hbN _)).mono ?_; rintro e w3 ⟨rfl, hb3⟩; rw [HR.out])
        go_roundg (h.calls.length - (k + 1))
        case measure => omega
        case rel =>
          refine ⟨k + 1, by omega, rfl, by go_num, (hbr.alloc hbr.size _).trans (hb3.mono (by have := hbr.size; simp; omega)), fun j hj hjk => ?_⟩
          by_cases e : j = k
          · subst e; exact HR.out
          · exact HA.out j hj (by omega)
    · obtain rfl : k = h.calls.length := by omega
      have HE : Hid (heapOk ms h = waitP h.calls h.now) := HEND.out fun i hi => HA.out i hi hi
      have HWT : Hid (Calls Tryz.prog 69 #[.agg #[.slice ac h.calls.length kc, .int .i64 h.now, .int .i64 h.born, .slice aD h.said.length kD, .int .i64 h.code]] wr fun e w' => e = .returned (.bool (waitP h.calls h.now)) ∧ Below wr.heap.size wr w') := implWaitOk_any _ _ h wr (hh.below hBr) hn
      go_wp2_with (go_at_call 69; refine HWT.out.mono ?_; rintro e w3 ⟨rfl, hb3⟩)
      go_ret
      exact ⟨ret_bool HE.out.symm, hBr.trans (hb3.mono zr)⟩
end Go.Proofs.YtmifhlkcceafkaaGreat
