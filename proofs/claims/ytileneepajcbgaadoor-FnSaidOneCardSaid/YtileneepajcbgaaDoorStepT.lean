/-
  Many operations of a heap, in plain words: how much is said, how long its lists are. Nothing of the translation is used here.
-/
import Derived.Test.YtileneepajcbgaaDoorStepR

namespace Go.Proofs.YtileneepajcbgaaDoor
theorem said_push (h : Hp) (v : Int × Int) : (pushH h v).said = h.said := rfl
theorem said_leave (h : Hp) : (leaveH h).said = h.said := rfl
theorem said_backTo : ∀ (f : Nat) (h : Hp) (b : Nat), (backTo f h b).said = h.said
  | 0, _, _ => rfl
  | f + 1, h, b => by
    unfold backTo
    split
    · rfl
    · rw [said_backTo f, said_leave]
theorem said_say (h : Hp) (v : Int × Int) : (sayH h v).said.length = h.said.length + 1 := by simp [sayH]
theorem said_ite {c : Prop} [Decidable c] {a b : Hp} {n : Nat} (h1 : a.said.length ≤ n) (h2 : b.said.length ≤ n) : (if c then a else b).said.length ≤ n := by
  by_cases e : c
  · rw [if_pos e]; exact h1
  · rw [if_neg e]; exact h2
theorem said_call (ms : Ms) (h : Hp) (m : Int) (args : List (Int × Int)) : (callH ms h m args).said.length ≤ h.said.length + 1 :=
  said_ite (Nat.le_succ _) (Nat.le_succ _)
theorem said_ret (h : Hp) (v : Int × Int) : (retH h v).said.length ≤ h.said.length + 1 :=
  said_ite (Nat.le_of_eq ((said_say (leaveH h) v).trans (by rw [said_leave]))) (by rw [said_push, said_leave]; exact Nat.le_succ _)
theorem said_back (h : Hp) (b : Nat) (v : Int × Int) : (backH h b v).said.length ≤ h.said.length + 1 :=
  said_ite (Nat.le_succ _) (by rw [said_push, said_backTo]; exact Nat.le_succ _)
theorem said_do (ms : Ms) (h : Hp) (k a : Int) (args : List (Int × Int)) : (doH ms h k a args).said.length ≤ h.said.length + 1 := by
  have h0 : h.said.length ≤ h.said.length + 1 := Nat.le_succ _
  exact said_ite h0 (said_ite h0 (said_ite h0 (said_ite h0 (said_ite h0 (said_ite h0 (said_ite (said_ite h0 h0) (said_ite (said_call ms h a args) (said_ite (said_ret h _) (said_ite h0 (said_ite h0 (said_ite h0 (said_ite (said_back h _ _) (said_ite (Nat.le_of_eq (said_say h _)) h0)))))))))))))
theorem said_step (ms : Ms) (h : Hp) : (stepH ms h).said.length ≤ h.said.length + 1 :=
  said_ite (Nat.le_succ _) (said_ite (Nat.le_succ _) (said_ite (Nat.le_succ _) (said_do ms _ _ _ _)))
theorem said_run (ms : Ms) : ∀ (n : Nat) (h : Hp), (runH ms n h).said.length ≤ h.said.length + n
  | 0, _ => Nat.le_refl _
  | n + 1, h => by
    unfold runH
    split
    · have := said_run ms n (stepH ms h)
      have := said_step ms h
      omega
    · omega
theorem run_snoc (ms : Ms) : ∀ (n : Nat) (h : Hp), (runH ms n h).code = 0 → runH ms (n + 1) h = stepH ms (runH ms n h)
  | 0, h, hc => by
    have hc' : h.code = 0 := hc
    show (if h.code = 0 then runH ms 0 (stepH ms h) else h) = _
    rw [if_pos hc']
    rfl
  | n + 1, h, hc => by
    by_cases h0 : h.code = 0
    · have e : runH ms (n + 1) h = runH ms n (stepH ms h) := by
        show (if h.code = 0 then runH ms n (stepH ms h) else h) = _
        rw [if_pos h0]
      have e2 : runH ms (n + 1 + 1) h = runH ms (n + 1) (stepH ms h) := by
        show (if h.code = 0 then runH ms (n + 1) (stepH ms h) else h) = _
        rw [if_pos h0]
      rw [e] at hc
      rw [e2, e]
      exact run_snoc ms n _ hc
    · have e : runH ms (n + 1) h = h := by
        show (if h.code = 0 then runH ms n (stepH ms h) else h) = _
        rw [if_neg h0]
      rw [e] at hc
      exact absurd hc h0
theorem run_stay (ms : Ms) : ∀ (m n : Nat) (h : Hp), n ≤ m → (runH ms n h).code ≠ 0 → runH ms m h = runH ms n h
  | 0, n, h, hl, _ => by
    obtain rfl : n = 0 := by omega
    rfl
  | m + 1, 0, h, _, hc => by
    have hc' : h.code ≠ 0 := hc
    show (if h.code = 0 then runH ms m (stepH ms h) else h) = _
    rw [if_neg hc']
    rfl
  | m + 1, n + 1, h, hl, hc => by
    by_cases h0 : h.code = 0
    · have e : runH ms (n + 1) h = runH ms n (stepH ms h) := by
        show (if h.code = 0 then runH ms n (stepH ms h) else h) = _
        rw [if_pos h0]
      have e2 : runH ms (m + 1) h = runH ms m (stepH ms h) := by
        show (if h.code = 0 then runH ms m (stepH ms h) else h) = _
        rw [if_pos h0]
      rw [e] at hc
      rw [e2, e]
      exact run_stay ms m n _ (by omega) hc
    · show (if h.code = 0 then runH ms m (stepH ms h) else h) = (if h.code = 0 then runH ms n (stepH ms h) else h)
      rw [if_neg h0, if_neg h0]
theorem Good.lens {ms : Ms} {h : Hp} (g : Good ms h) : h.calls.length ≤ 30 ∧ ∀ i, (hi : i < h.calls.length) → h.calls[i].temps.length ≤ 4 ∧ h.calls[i].stack.length ≤ 6 := by
  refine ⟨by have := g.head.few; have := g.head.born; omega, fun i hi => ⟨?_, (g.cl i hi).s⟩⟩
  have c := g.cl i hi
  have hp := g.head.p
  unfold progOk at hp
  simp only [Bool.and_eq_true] at hp
  have hm := c.m
  have hl : h.calls[i].m.toNat < ms.length := by omega
  have ha := List.all_eq_true.1 hp.2 _ (List.getElem_mem hl)
  unfold methOk at ha
  simp only [Bool.and_eq_true] at ha
  have a2 := inR_true.1 ha.1.1.2
  have ht := c.t
  have e : ms.getD h.calls[i].m.toNat (0, 0, []) = ms[h.calls[i].m.toNat] := by simp [hl]
  rw [e] at ht
  omega
/- calls never grow fewer -/
theorem len_ite {c : Prop} [Decidable c] {a b : Hp} {n : Nat} (h1 : n ≤ a.calls.length) (h2 : n ≤ b.calls.length) : n ≤ (if c then a else b).calls.length := by
  by_cases e : c
  · rw [if_pos e]; exact h1
  · rw [if_neg e]; exact h2
theorem len_set (h : Hp) (c : Cl) : (setH h c).calls.length = h.calls.length := by simp [setH]
theorem len_push (h : Hp) (v : Int × Int) : (pushH h v).calls.length = h.calls.length := len_set _ _
theorem len_leave (h : Hp) : (leaveH h).calls.length = h.calls.length := len_set _ _
theorem len_backTo : ∀ (f : Nat) (h : Hp) (b : Nat), (backTo f h b).calls.length = h.calls.length
  | 0, _, _ => rfl
  | f + 1, h, b => by
    unfold backTo
    by_cases e : h.now = b
    · rw [if_pos e]
    · rw [if_neg e, len_backTo f, len_leave]
theorem len_do (ms : Ms) (h : Hp) (k a : Int) (args : List (Int × Int)) : h.calls.length ≤ (doH ms h k a args).calls.length := by
  have h0 : h.calls.length ≤ h.calls.length := Nat.le_refl _
  have p0 : ∀ v, h.calls.length ≤ (pushH h v).calls.length := fun v => Nat.le_of_eq (len_push h v).symm
  have s0 : ∀ c, h.calls.length ≤ (setH h c).calls.length := fun c => Nat.le_of_eq (len_set h c).symm
  have c0 : h.calls.length ≤ (callH ms h a args).calls.length := len_ite h0 (by simp)
  have r0 : ∀ v, h.calls.length ≤ (retH h v).calls.length := fun v => len_ite (Nat.le_of_eq (len_leave h).symm) (Nat.le_of_eq ((len_push _ v).trans (len_leave h)).symm)
  have k0 : ∀ b v, h.calls.length ≤ (backH h b v).calls.length := fun b v => len_ite h0 (Nat.le_of_eq ((len_push _ v).trans (len_backTo _ h b)).symm)
  have o0 : ∀ b v, h.calls.length ≤ (pokeH h b a v).calls.length := fun b v => by simp [pokeH]
  exact len_ite (p0 _) (len_ite (p0 _) (len_ite (p0 _) (len_ite (p0 _) (len_ite (s0 _) (len_ite (s0 _) (len_ite (len_ite (s0 _) h0) (len_ite c0 (len_ite (r0 _) (len_ite (p0 _) (len_ite (p0 _) (len_ite (o0 _ _) (len_ite (k0 _ _) (len_ite h0 h0)))))))))))))
theorem len_step (ms : Ms) (h : Hp) : h.calls.length ≤ (stepH ms h).calls.length :=
  len_ite (Nat.le_refl _) (len_ite (Nat.le_refl _) (len_ite (Nat.le_refl _) (Nat.le_trans (Nat.le_of_eq (len_set h _).symm) (len_do ms _ _ _ _))))
theorem len_run (ms : Ms) : ∀ (n : Nat) (h : Hp), h.calls.length ≤ (runH ms n h).calls.length
  | 0, _ => Nat.le_refl _
  | n + 1, h => len_ite (Nat.le_trans (len_step ms h) (len_run ms n _)) (Nat.le_refl _)
def hRun (ms : Ms) (h : Hp) (n : Int) : Hp := if (heapOk ms h && inR n 0 400) = true then runH ms n.toNat h else ⟨[], 0, 0, [], 0⟩
end Go.Proofs.YtileneepajcbgaaDoor

/-
  Calls are called by calls that were born ahead of them: so those behind the one that runs have returned. Nothing of the translation is used here.
-/
namespace Go.Proofs.YtileneepajcbgaaDoor
def Dn (h : Hp) : Prop := ∀ i, (hi : i < h.calls.length) → h.calls[i].sender < (i : Int)
theorem Dn.put {h : Hp} (d : Dn h) (j : Nat) (c : Cl) (hc : j < h.calls.length → c.sender < (j : Int)) : Dn { h with calls := h.calls.set j c } := fun i hi => by
  have hi' : i < h.calls.length := by simpa using hi
  by_cases e : j = i
  · subst e; simp only [List.getElem_set_self]; exact hc hi'
  · simp only [List.getElem_set_ne e]; exact d i hi'
theorem Dn.setCur {h : Hp} (d : Dn h) (c : Cl) (hc : c.sender = (curC h).sender ∨ c.sender < 0) : Dn (setH h c) := d.put _ _ fun hj => by
  rcases hc with hc | hc
  · rw [hc, curC, getD_at hj]; exact d _ hj
  · omega
theorem Dn.same {h h' : Hp} (d : Dn h) (e : h'.calls = h.calls) : Dn h' := fun i hi => by
  have h2 := d i (by rw [← e]; exact hi)
  simpa [e] using h2
theorem Dn.ite {c : Prop} [Decidable c] {a b : Hp} (h1 : Dn a) (h2 : Dn b) : Dn (if c then a else b) := by
  by_cases h : c
  · rw [if_pos h]; exact h1
  · rw [if_neg h]; exact h2
theorem Dn.push {h : Hp} (d : Dn h) (v : Int × Int) : Dn (pushH h v) := d.setCur _ (.inl rfl)
theorem Dn.leave {h : Hp} (d : Dn h) : Dn (leaveH h) := (d.setCur (dieC (curC h)) (.inr (show (-1 : Int) < 0 by decide))).same rfl
theorem Dn.backTo : ∀ (f : Nat) (h : Hp) (b : Nat), Dn h → Dn (backTo f h b)
  | 0, _, _, d => d
  | f + 1, h, b, d => by
    unfold Go.Proofs.YtileneepajcbgaaDoor.backTo
    exact Dn.ite d (Dn.backTo f _ b d.leave)
theorem Dn.born {h : Hp} (d : Dn h) (hn : h.now < (h.calls.length : Int)) (c : Cl) (hc : c.sender = h.now) (n b : Int) : Dn { h with calls := h.calls ++ [c], now := n, born := b } := fun i hi => by
  by_cases e : i < h.calls.length
  · simp only [List.getElem_append_left e]; exact d i e
  · have e2 : i = h.calls.length := by simp at hi; omega
    subst e2
    simp only [List.getElem_append_right (Nat.le_refl _), Nat.sub_self, List.getElem_singleton]
    rw [hc]
    exact hn
theorem Dn.do {h : Hp} (d : Dn h) (hn : h.now < (h.calls.length : Int)) (ms : Ms) (k a : Int) (args : List (Int × Int)) : Dn (doH ms h k a args) := by
  unfold doH
  simp only []
  repeat' apply Dn.ite
  all_goals first
    | exact d.push _
    | exact d.setCur _ (.inl rfl)
    | exact d.born hn _ rfl _ _
    | exact d.leave.same rfl
    | exact d.leave.push _
    | exact (Dn.backTo _ _ _ d).push _
    | exact d.same rfl
    | exact d.put _ _ fun hj => by rw [getD_at hj]; exact d _ hj
theorem Dn.step {ms : Ms} {h : Hp} (d : Dn h) (hn : h.now < (h.calls.length : Int)) : Dn (stepH ms h) := by
  unfold stepH
  simp only []
  refine Dn.ite (d.same rfl) (Dn.ite (d.same rfl) (Dn.ite (d.same rfl) ?_))
  refine Dn.do ?_ ?_ _ _ _ _
  · exact d.setCur _ (.inl rfl)
  · rw [len_set]; exact hn
theorem Dn.run {ms : Ms} : ∀ (n : Nat) (h : Hp), Good ms h → Dn h → Dn (runH ms n h)
  | 0, _, _, d => d
  | n + 1, h, g, d => by
    unfold runH
    by_cases hc : h.code = 0
    · rw [if_pos hc]
      exact Dn.run n _ (g.step hc) (d.step (by have := g.head.now.2; omega))
    · rw [if_neg hc]; exact d
theorem walk_le {cs : List Cl} (d : ∀ i, (hi : i < cs.length) → cs[i].sender < (i : Int)) : ∀ (f : Nat) (a : Int) (l : List Nat), walkC cs f a = some l → ∀ k ∈ l, (k : Int) ≤ a
  | 0, a, l, e => by
    intro k hk
    by_cases ha : a < 0
    · rw [walkC_neg ha] at e; cases e; cases hk
    · rw [walkC_zero (by omega)] at e; cases e
  | f + 1, a, l, e => by
    intro k hk
    by_cases ha : a < 0
    · rw [walkC_neg ha] at e; cases e; cases hk
    obtain ⟨n, rfl⟩ := Int.eq_ofNat_of_zero_le (show 0 ≤ a by omega)
    by_cases hn : n < cs.length
    · cases hd : cs[n].dead
      · rw [walkC_step hn hd] at e
        cases ht : walkC cs f cs[n].sender with
        | none => rw [ht] at e; cases e
        | some t =>
          rw [ht] at e
          cases e
          rcases List.mem_cons.1 hk with rfl | hk
          · exact Int.le_refl _
          · have h1 := walk_le d f _ _ ht k hk
            have h2 := d n hn
            omega
      · rw [walkC_dead hn hd] at e; cases e
    · rw [walkC_past hn] at e; cases e
theorem Good.behind {ms : Ms} {h : Hp} (g : Good ms h) (d : Dn h) {i : Nat} (hi : i < h.calls.length) (h1 : h.now < (i : Int)) : h.calls[i].dead = true := by
  cases hd : h.calls[i].dead
  · obtain ⟨l, hw⟩ := g.w
    obtain ⟨f, hf⟩ := hw.ch
    have := walk_le d f _ _ hf i (hw.all i hi hd)
    omega
  · rfl
structure HpFine (h : Hp) : Prop where
  l30 : h.calls.length ≤ 30
  sd : h.said.length ≤ 100
  ts : ∀ c ∈ h.calls, c.temps.length ≤ 6 ∧ c.stack.length ≤ 6 ∧ -1 ≤ c.sender
  deep : deepOf h.calls h.now = (chainOf h.calls h.now).length
  few : ∀ v ∈ h.said, Few v
theorem Good.few {ms : Ms} {h : Hp} (g : Good ms h) : ∀ v ∈ h.said, Few v := by
  intro v hv
  have hp := g.head.p
  have h1 := List.all_eq_true.1 g.head.said v hv
  unfold progOk at hp
  simp only [Bool.and_eq_true, inR_true] at hp
  have hm := hp.1.1
  unfold valOk at h1
  unfold Few
  split at h1
  · have := beq_iff_eq.1 h1
    omega
  · split at h1
    · rw [inR_true] at h1; omega
    · split at h1
      · rw [inR_true] at h1; omega
      · cases h1
theorem few_snoc {l : List (Int × Int)} (h : ∀ v ∈ l, Few v) {u : Int × Int} (hu : Few u) : ∀ v ∈ l ++ [u], Few v := by
  intro v hv
  rcases List.mem_append.1 hv with hv | hv
  · exact h v hv
  · rw [List.mem_singleton] at hv; rw [hv]; exact hu
theorem fine_of {h : Hp} (n : Nat) (hn : h.calls.length = n) (h30 : n ≤ 30) (hsd : h.said.length ≤ 100) (ht : ∀ c ∈ h.calls, c.temps.length ≤ 6 ∧ c.stack.length ≤ 6 ∧ -1 ≤ c.sender ∧ c.sender < (n : Int)) (n0 : -1 ≤ h.now) (n1 : h.now ≤ (n : Int)) (hfw : ∀ v ∈ h.said, Few v) : HpFine h := by
  refine ⟨by omega, hsd, fun c hc => ⟨(ht c hc).1, (ht c hc).2.1, (ht c hc).2.2.1⟩, ?_, hfw⟩
  by_cases e : h.now = (n : Int)
  · unfold deepOf chainOf
    rw [deepC_out (by omega), e, walkC_past (by omega)]
    rfl
  · exact deepOf_chain (fun i hi => by have := ht _ (List.getElem_mem hi); omega) n0 (by omega)
theorem fine_tail {ms : Ms} {h : Hp} (g : Good ms h) (d : Dn h) (hsd : h.said.length ≤ 100) (ht : ∀ c ∈ h.calls, c.temps.length ≤ 6 ∧ c.stack.length ≤ 6 ∧ -1 ≤ c.sender ∧ c.sender < (h.calls.length : Int)) : HpFine { h with calls := h.calls.drop 1 } := by
  have h30 := g.lens.1
  refine ⟨by simp; omega, hsd, fun c hc => by have := ht c (List.mem_of_mem_drop hc); exact ⟨this.1, this.2.1, this.2.2.1⟩, ?_, g.few⟩
  show deepOf (h.calls.drop 1) h.now = (chainOf (h.calls.drop 1) h.now).length
  unfold deepOf chainOf
  by_cases ha : h.now < 0
  · rw [deepC_out (by omega), walkC_neg ha]; rfl
  obtain ⟨n, hn⟩ := Int.eq_ofNat_of_zero_le (show 0 ≤ h.now by omega)
  rw [hn]
  by_cases hl : n < (h.calls.drop 1).length
  · have hl' : 1 + n < h.calls.length := by simp at hl; omega
    have hd : (h.calls.drop 1)[n].dead = true := by
      rw [List.getElem_drop]
      exact g.behind d hl' (by omega)
    rw [deepC_dead hl hd, walkC_dead hl hd]; rfl
  · rw [deepC_out (by omega), walkC_past hl]; rfl
end Go.Proofs.YtileneepajcbgaaDoor
