/-
  Who waits for whom: where all calls are in form, the program's test (waitP) and the model's (endOk) answer the same. A chain has no repeats; as long as the alive calls are many, it holds them all.
-/
import Derived.Test.YtldiccheboipeaaHImpl4
namespace Go.Proofs.Ytldiccheboipeaa

theorem walkC_some {cs : List Cl} {f : Nat} {a : Int} {l : List Nat} (h : walkC cs f a = some l) (ha : 0 ≤ a) : ∃ (g n : Nat) (hn : n < cs.length) (t : List Nat), f = g + 1 ∧ a = n ∧ l = n :: t ∧ cs[n].dead = false ∧ walkC cs g cs[n].sender = some t := by
  obtain ⟨n, rfl⟩ := Int.eq_ofNat_of_zero_le ha
  cases f with
  | zero => rw [walkC_zero ha] at h; cases h
  | succ g =>
    by_cases hn : n < cs.length
    · cases hd : cs[n].dead
      · rw [walkC_step hn hd] at h
        cases hw : walkC cs g cs[n].sender with
        | none => rw [hw] at h; cases h
        | some t => rw [hw] at h; exact ⟨g, n, hn, t, rfl, rfl, (Option.some.inj h).symm, hd, hw⟩
      · rw [walkC_dead hn hd] at h; cases h
    · rw [walkC_past hn] at h; cases h

theorem walkC_one {cs : List Cl} : ∀ (l : List Nat) (f f' : Nat) (a : Int) (l' : List Nat), walkC cs f a = some l → walkC cs f' a = some l' → l = l'
  | l, f, f', a, l', h, h' => by
    by_cases ha : a < 0
    · rw [walkC_neg ha] at h h'
      exact (Option.some.inj h).symm.trans (Option.some.inj h')
    obtain ⟨g, n, hn, t, rfl, rfl, rfl, _, hw⟩ := walkC_some h (by omega)
    obtain ⟨g', n', hn', t', rfl, e, rfl, _, hw'⟩ := walkC_some h' (by omega)
    obtain rfl : n = n' := by omega
    rw [walkC_one t g g' _ t' hw hw']
  termination_by l => l.length

theorem walkC_tail {cs : List Cl} : ∀ (pre : List Nat) (f : Nat) (a : Int) (k : Nat) (post : List Nat), walkC cs f a = some (pre ++ k :: post) → ∃ f', walkC cs f' (k : Int) = some (k :: post)
  | [], f, a, k, post, h => by
    by_cases ha : a < 0
    · rw [walkC_neg ha] at h; cases h
    obtain ⟨g, n, hn, t, rfl, rfl, e, _, hw⟩ := walkC_some h (by omega)
    obtain ⟨rfl, rfl⟩ := List.cons.inj e
    exact ⟨g + 1, h⟩
  | p :: pre, f, a, k, post, h => by
    by_cases ha : a < 0
    · rw [walkC_neg ha] at h; cases h
    obtain ⟨g, n, hn, t, rfl, rfl, e, _, hw⟩ := walkC_some h (by omega)
    obtain ⟨rfl, rfl⟩ := List.cons.inj e
    exact walkC_tail pre g _ k post hw

theorem walkC_nodup {cs : List Cl} : ∀ (l : List Nat) (f : Nat) (a : Int), walkC cs f a = some l → l.Nodup
  | [], _, _, _ => List.nodup_nil
  | k :: t, f, a, h => by
    by_cases ha : a < 0
    · rw [walkC_neg ha] at h; cases h
    obtain ⟨g, n, hn, t', rfl, rfl, e, _, hw⟩ := walkC_some h (by omega)
    obtain ⟨rfl, rfl⟩ := List.cons.inj e
    refine List.nodup_cons.2 ⟨fun hm => ?_, walkC_nodup _ g _ hw⟩
    obtain ⟨pre, post, rfl⟩ := List.append_of_mem hm
    obtain ⟨f', hf⟩ := walkC_tail pre g _ k post hw
    have := congrArg List.length (walkC_one _ _ _ _ _ h hf)
    simp at this
    omega

theorem few_of_nodup : ∀ (l A : List Nat), l.Nodup → (∀ k ∈ l, k ∈ A) → l.length ≤ A.length
  | [], _, _, _ => Nat.zero_le _
  | a :: t, A, hn, hs => by
    obtain ⟨ha, ht⟩ := List.nodup_cons.1 hn
    have hm : a ∈ A := hs a (List.mem_cons_self ..)
    have := few_of_nodup t (A.erase a) ht fun k hk => (List.mem_erase_of_ne (show k ≠ a from fun e => ha (by rw [← e]; exact hk))).2 (hs k (List.mem_cons_of_mem _ hk))
    rw [List.length_erase_of_mem hm] at this
    have := List.length_pos_of_mem hm
    simp
    omega

/-- the places of the alive ones -/
def aliveL (cs : List Cl) : List Nat := (List.range cs.length).filter fun i => !(cs.getD i Cl.none).dead

theorem aliveL_len (cs : List Cl) : (aliveL cs).length = liveN cs := by
  have e : (List.range cs.length).map (fun i => cs.getD i Cl.none) = cs := by
    apply List.ext_getElem
    · simp
    · intro i h1 h2
      simp [h2]
  unfold liveN aliveL
  conv => rhs; rw [← e]
  rw [List.filter_map, List.length_map]
  rfl

theorem mem_alive {cs : List Cl} {k : Nat} : k ∈ aliveL cs ↔ ∃ h : k < cs.length, cs[k].dead = false := by
  unfold aliveL
  rw [List.mem_filter, List.mem_range]
  constructor
  · rintro ⟨h, e⟩
    exact ⟨h, by simpa [h] using e⟩
  · rintro ⟨h, e⟩
    exact ⟨h, by simp [h, e]⟩

theorem chain_nodup (cs : List Cl) (now : Int) : (chainOf cs now).Nodup := by
  unfold chainOf
  cases h : walkC cs cs.length now with
  | none => exact List.nodup_nil
  | some l => exact walkC_nodup l _ _ h

/-- a chain that is as long as the alive ones are many holds them all -/
theorem chain_all {cs : List Cl} {now : Int} (h : (chainOf cs now).length = liveN cs) {k : Nat} (hk : k < cs.length) (hd : cs[k].dead = false) : k ∈ chainOf cs now := by
  apply Classical.byContradiction
  intro hn
  have := few_of_nodup (k :: chainOf cs now) (aliveL cs) (List.nodup_cons.2 ⟨hn, chain_nodup cs now⟩) (fun j hj => by
    rcases List.mem_cons.1 hj with rfl | hj
    · exact mem_alive.2 ⟨hk, hd⟩
    · exact mem_alive.2 (chain_in hj))
  rw [aliveL_len, List.length_cons] at this
  omega

theorem clOk_sender {ms : List (Int × Int × List (Int × Int))} {n : Nat} {c : Cl} (h : clOk ms n c = true) : -1 ≤ c.sender ∧ c.sender < (n : Int) := by
  simp only [clOk, Bool.and_eq_true, inR_true] at h
  omega
theorem clOk_dead {ms : List (Int × Int × List (Int × Int))} {n : Nat} {c : Cl} (h : clOk ms n c = true) (hd : c.dead = true) : c.stack.length = 0 := by
  simp only [clOk, Bool.and_eq_true, hd] at h
  have := h.2.2
  simp at this
  rw [this.2]
  rfl

theorem wait_end {ms : List (Int × Int × List (Int × Int))} {h : Hp} (hc : ∀ i, (hi : i < h.calls.length) → clOk ms h.calls.length h.calls[i] = true) (h0 : -1 ≤ h.now) (h1 : h.now < (h.calls.length : Int)) : waitP h.calls h.now = endOk h := by
  obtain ⟨cs, now, born, said, code⟩ := h
  simp only [] at hc h0 h1 ⊢
  have hs : ∀ i, (h : i < cs.length) → -1 ≤ cs[i].sender ∧ cs[i].sender < (cs.length : Int) := fun i h => clOk_sender (hc i h)
  have hdeep := deepOf_chain hs h0 h1
  have hdead : ∀ i, (h : i < cs.length) → cs[i].dead = true → cs[i].stack.length = 0 := fun i h e => clOk_dead (hc i h) e
  unfold waitP endOk
  simp only [hdeep]
  by_cases hl : (chainOf cs now).length = liveN cs
  · rw [beq_iff_eq.2 hl, Bool.true_and, Bool.and_true]
    by_cases hn : now < 0
    · obtain rfl : now = -1 := by omega
      have e : chainOf cs (-1) = [] := by unfold chainOf; rw [walkC_neg hn]; rfl
      have hf : freeP cs (-1) := fun i hi _ => by
        cases hd : cs[i].dead
        · have := chain_all hl hi hd
          rw [e] at this
          cases this
        · rw [hdead i hi hd]; decide
      simp [e, hf, roomP]
    · obtain ⟨n, rfl⟩ := Int.eq_ofNat_of_zero_le (show 0 ≤ now by omega)
      have hnl : n < cs.length := by omega
      cases hd : cs[n].dead
      · have hm := chain_all hl hnl hd
        have hw : ∃ t, chainOf cs (n : Int) = n :: t := by
          revert hm
          unfold chainOf
          cases hw : walkC cs cs.length (n : Int) with
          | none => intro hm; cases hm
          | some l =>
            intro _
            obtain ⟨g, n', hn', t, _, e, rfl, _, _⟩ := walkC_some hw (by omega)
            obtain rfl : n = n' := by omega
            exact ⟨t, rfl⟩
        obtain ⟨t, ht⟩ := hw
        have hnd := chain_nodup cs (n : Int)
        rw [ht] at hnd
        have hnt := (List.nodup_cons.1 hnd).1
        have hne : ((chainOf cs (n : Int)).length == 0) = false := by rw [ht]; rfl
        have hn1 : ((n : Int) == -1) = false := beq_eq_false_iff_ne.2 (by omega)
        have hA : (decide ((n : Int) < 0) || !(cs.getD ((n : Int)).toNat Cl.none).dead) = true := by simp [hnl, hd]
        rw [hne, hn1, hA]
        simp only [beq_self_eq_true, Bool.and_true, Bool.true_and]
        rw [Bool.eq_iff_iff, @decide_eq_true_iff _ (Classical.propDecidable _)]
        constructor
        · intro hf
          refine roomP_yes (fun k hk => (chain_in hk).1) fun i hi h1 hk => hf _ hk fun e => ?_
          have hz : (chainOf cs (n : Int))[i] ∈ t := by
            have hi' : i < (n :: t).length := by rw [← ht]; exact hi
            have e1 : (chainOf cs (n : Int))[i] = (n :: t)[i] := by simp only [ht]
            rw [e1]
            match i, h1, hi' with
            | i + 1, _, hi' => exact List.getElem_mem _
          have : (chainOf cs (n : Int))[i] = n := by omega
          rw [this] at hz
          exact hnt hz
        · intro hr i hi hne'
          cases hdi : cs[i].dead
          · have hmi := chain_all hl hi hdi
            rw [ht] at hmi
            rcases List.mem_cons.1 hmi with rfl | hmt
            · exact absurd rfl hne'
            · unfold roomP at hr
              rw [ht] at hr
              have := List.all_eq_true.1 hr i (by simpa using hmt)
              simpa [hi] using this
          · rw [hdead i hi hdi]; decide
      · have e : chainOf cs (n : Int) = [] := by unfold chainOf; rw [walkC_dead hnl hd]; rfl
        have hn1 : ((n : Int) == -1) = false := beq_eq_false_iff_ne.2 (by omega)
        simp [e, hn1, hnl, hd]
        intro hx
        omega
  · rw [beq_eq_false_iff_ne.2 hl]
    simp

end Go.Proofs.Ytldiccheboipeaa
