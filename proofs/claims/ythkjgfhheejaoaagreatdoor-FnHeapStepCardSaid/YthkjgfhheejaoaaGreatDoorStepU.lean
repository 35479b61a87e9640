/-
  Calls are called by calls that were born ahead of them: so those behind the one that runs have returned. Nothing of the translation is used here.
-/
import Derived.Test.YthkjgfhheejaoaaGreatDoorPiece
namespace Go.Proofs.YthkjgfhheejaoaaGreatDoor

/-- who called was born ahead -/
def Dn (h : Hp) : Prop := ∀ i, (hi : i < h.calls.length) → h.calls[i].sender < (i : Int)

theorem Dn.put {h : Hp} (d : Dn h) (j : Nat) (c : Cl) (hc : j < h.calls.length → c.sender < (j : Int)) : Dn { h with calls := h.calls.set j c } := fun i hi => by
  have hi' : i < h.calls.length := by simpa using hi
  by_cases e : j = i
  · subst e; simp only [List.getElem_set_self]; exact hc hi'
  · simp only [List.getElem_set_ne e]; exact d i hi'

theorem Dn.setCur {h : Hp} (d : Dn h) (c : Cl) (hc : c.sender = (curC h).sender ∨ c.sender < 0) : Dn (setH h c) := d.put _ _ fun hj => by
  rcases hc with hc | hc
  · rw [hc, curC, getD_at hj]; exact d _ hj
  · omega

theorem Dn.same {h h' : Hp} (d : Dn h) (e : h'.calls = h.calls) : Dn h' := fun i hi => by
  have h2 := d i (by rw [← e]; exact hi)
  simpa [e] using h2

theorem Dn.ite {c : Prop} [Decidable c] {a b : Hp} (h1 : Dn a) (h2 : Dn b) : Dn (if c then a else b) := by
  by_cases h : c
  · rw [if_pos h]; exact h1
  · rw [if_neg h]; exact h2

theorem Dn.push {h : Hp} (d : Dn h) (v : Int × Int) : Dn (pushH h v) := d.setCur _ (.inl rfl)
theorem Dn.leave {h : Hp} (d : Dn h) : Dn (leaveH h) := (d.setCur (dieC (curC h)) (.inr (show (-1 : Int) < 0 by decide))).same rfl
theorem Dn.backTo : ∀ (f : Nat) (h : Hp) (b : Nat), Dn h → Dn (backTo f h b)
  | 0, _, _, d => d
  | f + 1, h, b, d => by
    unfold Go.Proofs.YthkjgfhheejaoaaGreatDoor.backTo
    exact Dn.ite d (Dn.backTo f _ b d.leave)

theorem Dn.born {h : Hp} (d : Dn h) (hn : h.now < (h.calls.length : Int)) (c : Cl) (hc : c.sender = h.now) (n b : Int) : Dn { h with calls := h.calls ++ [c], now := n, born := b } := fun i hi => by
  by_cases e : i < h.calls.length
  · simp only [List.getElem_append_left e]; exact d i e
  · have e2 : i = h.calls.length := by simp at hi; omega
    subst e2
    simp only [List.getElem_append_right (Nat.le_refl _), Nat.sub_self, List.getElem_singleton]
    rw [hc]
    exact hn

theorem Dn.do {h : Hp} (d : Dn h) (hn : h.now < (h.calls.length : Int)) (ms : Ms) (k a : Int) (args : List (Int × Int)) : Dn (doH ms h k a args) := by
  unfold doH
  simp only []
  repeat' apply Dn.ite
  all_goals first
    | exact d.push _
    | exact d.setCur _ (.inl rfl)
    | exact d.born hn _ rfl _ _
    | exact d.leave.same rfl
    | exact d.leave.push _
    | exact (Dn.backTo _ _ _ d).push _
    | exact d.same rfl
    | exact d.put _ _ fun hj => by rw [getD_at hj]; exact d _ hj

theorem Dn.step {ms : Ms} {h : Hp} (d : Dn h) (hn : h.now < (h.calls.length : Int)) : Dn (stepH ms h) := by
  unfold stepH
  simp only []
  refine Dn.ite (d.same rfl) (Dn.ite (d.same rfl) (Dn.ite (d.same rfl) ?_))
  refine Dn.do ?_ ?_ _ _ _ _
  · exact d.setCur _ (.inl rfl)
  · rw [len_set]; exact hn

theorem Dn.run {ms : Ms} : ∀ (n : Nat) (h : Hp), Good ms h → Dn h → Dn (runH ms n h)
  | 0, _, _, d => d
  | n + 1, h, g, d => by
    unfold runH
    by_cases hc : h.code = 0
    · rw [if_pos hc]
      exact Dn.run n _ (g.step hc) (d.step (by have := g.head.now.2; omega))
    · rw [if_neg hc]; exact d

theorem walk_le {cs : List Cl} (d : ∀ i, (hi : i < cs.length) → cs[i].sender < (i : Int)) : ∀ (f : Nat) (a : Int) (l : List Nat), walkC cs f a = some l → ∀ k ∈ l, (k : Int) ≤ a
  | 0, a, l, e => by
    intro k hk
    by_cases ha : a < 0
    · rw [walkC_neg ha] at e; cases e; cases hk
    · rw [walkC_zero (by omega)] at e; cases e
  | f + 1, a, l, e => by
    intro k hk
    by_cases ha : a < 0
    · rw [walkC_neg ha] at e; cases e; cases hk
    obtain ⟨n, rfl⟩ := Int.eq_ofNat_of_zero_le (show 0 ≤ a by omega)
    by_cases hn : n < cs.length
    · cases hd : cs[n].dead
      · rw [walkC_step hn hd] at e
        cases ht : walkC cs f cs[n].sender with
        | none => rw [ht] at e; cases e
        | some t =>
          rw [ht] at e
          cases e
          rcases List.mem_cons.1 hk with rfl | hk
          · exact Int.le_refl _
          · have h1 := walk_le d f _ _ ht k hk
            have h2 := d n hn
            omega
      · rw [walkC_dead hn hd] at e; cases e
    · rw [walkC_past hn] at e; cases e

/-- those behind the one that runs have returned -/
theorem Good.behind {ms : Ms} {h : Hp} (g : Good ms h) (d : Dn h) {i : Nat} (hi : i < h.calls.length) (h1 : h.now < (i : Int)) : h.calls[i].dead = true := by
  cases hd : h.calls[i].dead
  · obtain ⟨l, hw⟩ := g.w
    obtain ⟨f, hf⟩ := hw.ch
    have := walk_le d f _ _ hf i (hw.all i hi hd)
    omega
  · rfl

/-- what is always so of a drawn heap -/
structure HpFine (h : Hp) : Prop where
  l30 : h.calls.length ≤ 30
  sd : h.said.length ≤ 100
  ts : ∀ c ∈ h.calls, c.temps.length ≤ 6 ∧ c.stack.length ≤ 6 ∧ -1 ≤ c.sender
  deep : deepOf h.calls h.now = (chainOf h.calls h.now).length

theorem fine_of {h : Hp} (n : Nat) (hn : h.calls.length = n) (h30 : n ≤ 30) (hsd : h.said.length ≤ 100) (ht : ∀ c ∈ h.calls, c.temps.length ≤ 6 ∧ c.stack.length ≤ 6 ∧ -1 ≤ c.sender ∧ c.sender < (n : Int)) (n0 : -1 ≤ h.now) (n1 : h.now ≤ (n : Int)) : HpFine h := by
  refine ⟨by omega, hsd, fun c hc => ⟨(ht c hc).1, (ht c hc).2.1, (ht c hc).2.2.1⟩, ?_⟩
  by_cases e : h.now = (n : Int)
  · unfold deepOf chainOf
    rw [deepC_out (by omega), e, walkC_past (by omega)]
    rfl
  · exact deepOf_chain (fun i hi => by have := ht _ (List.getElem_mem hi); omega) n0 (by omega)

theorem fine_tail {ms : Ms} {h : Hp} (g : Good ms h) (d : Dn h) (hsd : h.said.length ≤ 100) (ht : ∀ c ∈ h.calls, c.temps.length ≤ 6 ∧ c.stack.length ≤ 6 ∧ -1 ≤ c.sender ∧ c.sender < (h.calls.length : Int)) : HpFine { h with calls := h.calls.drop 1 } := by
  have h30 := g.lens.1
  refine ⟨by simp; omega, hsd, fun c hc => by have := ht c (List.mem_of_mem_drop hc); exact ⟨this.1, this.2.1, this.2.2.1⟩, ?_⟩
  show deepOf (h.calls.drop 1) h.now = (chainOf (h.calls.drop 1) h.now).length
  unfold deepOf chainOf
  by_cases ha : h.now < 0
  · rw [deepC_out (by omega), walkC_neg ha]; rfl
  obtain ⟨n, hn⟩ := Int.eq_ofNat_of_zero_le (show 0 ≤ h.now by omega)
  rw [hn]
  by_cases hl : n < (h.calls.drop 1).length
  · have hl' : 1 + n < h.calls.length := by simp at hl; omega
    have hd : (h.calls.drop 1)[n].dead = true := by
      rw [List.getElem_drop]
      exact g.behind d hl' (by omega)
    rw [deepC_dead hl hd, walkC_dead hl hd]; rfl
  · rw [deepC_out (by omega), walkC_past hl]; rfl

end Go.Proofs.YthkjgfhheejaoaaGreatDoor
