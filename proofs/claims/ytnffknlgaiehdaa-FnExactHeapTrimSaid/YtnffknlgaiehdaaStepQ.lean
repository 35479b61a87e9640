/-
  An ok heap stays ok. Nothing of the translation is used here.
-/
import Derived.Test.YtnffknlgaiehdaaStepP

namespace Go.Proofs.Ytnffknlgaiehdaa
structure ClP (ms : Ms) (n : Nat) (c : Cl) : Prop where
  m : 0 ≤ c.m ∧ c.m < (ms.length : Int)
  pc : 0 ≤ c.pc ∧ c.pc ≤ ((ms.getD c.m.toNat (0, 0, [])).2.2.length : Int)
  t : (c.temps.length : Int) = (ms.getD c.m.toNat (0, 0, [])).2.1
  s : c.stack.length ≤ 6
  sd : -1 ≤ c.sender ∧ c.sender < (n : Int)
  vt : valsOk n c.temps = true
  vs : valsOk n c.stack = true
  dd : c.dead = true → c.sender = -1 ∧ c.stack = []
theorem clOk_iff {ms : Ms} {n : Nat} {c : Cl} : clOk ms n c = true ↔ ClP ms n c := by
  simp only [clOk, Bool.and_eq_true, inR_true, decide_eq_true_iff]
  constructor
  · rintro ⟨⟨⟨⟨h1, h2⟩, h3⟩, h4⟩, ⟨⟨⟨h5, h6⟩, h7⟩, h8⟩⟩
    refine ⟨by omega, h2, h3, h4, by omega, h6, h7, fun hd => ?_⟩
    rw [hd] at h8
    simp at h8
    exact h8
  · rintro ⟨h1, h2, h3, h4, h5, h6, h7, h8⟩
    refine ⟨⟨⟨⟨by omega, h2⟩, h3⟩, h4⟩, ⟨⟨⟨by omega, h6⟩, h7⟩, ?_⟩⟩
    cases hd : c.dead
    · rfl
    · obtain ⟨e1, e2⟩ := h8 hd
      simp [e1, e2]
theorem valOk_mono {n n' : Nat} (hn : n ≤ n') {k a : Int} (h : valOk n k a = true) : valOk n' k a = true := by
  unfold valOk at h ⊢
  split at h
  · rename_i e; rw [if_pos e]; exact h
  · rename_i e; rw [if_neg e]
    split at h
    · rename_i e1; rw [if_pos e1]; exact h
    · rename_i e1; rw [if_neg e1]
      split at h
      · rename_i e2; rw [if_pos e2]; rw [inR_true] at h ⊢; omega
      · cases h
theorem valsOk_iff {n : Int} {l : List (Int × Int)} : valsOk n l = true ↔ ∀ v ∈ l, valOk n v.1 v.2 = true := by
  unfold valsOk
  rw [List.all_eq_true]
theorem valsOk_mono {n n' : Nat} (hn : n ≤ n') {l : List (Int × Int)} (h : valsOk n l = true) : valsOk n' l = true := by
  rw [valsOk_iff] at h ⊢
  exact fun v hv => valOk_mono hn (h v hv)
theorem ClP.mono {ms : Ms} {n n' : Nat} {c : Cl} (h : ClP ms n c) (hn : n ≤ n') : ClP ms n' c :=
  ⟨h.m, h.pc, h.t, h.s, by have := h.sd; omega, valsOk_mono hn h.vt, valsOk_mono hn h.vs, h.dd⟩
structure HeadP (ms : Ms) (h : Hp) : Prop where
  p : progOk ms = true
  now : -1 ≤ h.now ∧ h.now < (h.calls.length : Int)
  born : 1 ≤ h.born ∧ h.born ≤ 30
  few : (h.calls.length : Int) ≤ h.born
  code : 0 ≤ h.code ∧ h.code ≤ 3
  said : valsOk ms.length h.said = true
  fin : h.code = 1 ↔ h.now < 0
theorem headOk_iff {ms : Ms} {h : Hp} : headOk ms h = true ↔ HeadP ms h := by
  simp only [headOk, Bool.and_eq_true, inR_true, decide_eq_true_iff]
  constructor
  · rintro ⟨⟨⟨⟨⟨⟨h1, h2⟩, h3⟩, h4⟩, h5⟩, h6⟩, h7⟩
    refine ⟨h1, by omega, h3, h4, h5, h6, ?_⟩
    simp only [beq_iff_eq] at h7
    by_cases e : h.code = 1
    · rw [beq_iff_eq.2 e] at h7
      exact ⟨fun _ => of_decide_eq_true h7.symm, fun _ => e⟩
    · rw [beq_eq_false_iff_ne.2 e] at h7
      exact ⟨fun q => absurd q e, fun q => absurd q (of_decide_eq_false h7.symm)⟩
  · rintro ⟨h1, h2, h3, h4, h5, h6, h7⟩
    refine ⟨⟨⟨⟨⟨⟨h1, by omega⟩, h3⟩, h4⟩, h5⟩, h6⟩, ?_⟩
    simp only [beq_iff_eq]
    by_cases e : h.code = 1
    · rw [beq_iff_eq.2 e, decide_eq_true (h7.1 e)]
    · rw [beq_eq_false_iff_ne.2 e, decide_eq_false (fun q => e (h7.2 q))]
structure Good (ms : Ms) (h : Hp) : Prop where
  head : HeadP ms h
  cl : ∀ i, (hi : i < h.calls.length) → ClP ms h.calls.length h.calls[i]
  w : ∃ l, Waits h.calls h.now l
theorem alive_nodup (cs : List Cl) : (aliveL cs).Nodup := by
  unfold aliveL
  exact List.Pairwise.filter _ List.nodup_range
theorem good_iff {ms : Ms} {h : Hp} : heapOk ms h = true ↔ Good ms h := by
  unfold heapOk
  simp only [Bool.and_eq_true]
  constructor
  · rintro ⟨⟨h1, h2⟩, h3⟩
    have hh := headOk_iff.1 h1
    have hc : ∀ i, (hi : i < h.calls.length) → clOk ms h.calls.length h.calls[i] = true := fun i hi => List.all_eq_true.1 h2 _ (List.getElem_mem hi)
    refine ⟨hh, fun i hi => clOk_iff.1 (hc i hi), chainOf h.calls h.now, ?_⟩
    unfold endOk at h3
    simp only [Bool.and_eq_true, Bool.or_eq_true, decide_eq_true_iff, beq_iff_eq] at h3
    obtain ⟨⟨e1, e2⟩, e3⟩ := h3
    have hall : ∀ k, (hk : k < h.calls.length) → h.calls[k].dead = false → k ∈ chainOf h.calls h.now := fun k hk hd => chain_all e2 hk hd
    refine ⟨?_, hall, fun k hk hkl => ?_⟩
    · cases hw : walkC h.calls h.calls.length h.now with
      | some l => exact ⟨_, by unfold chainOf; rw [hw]; rfl⟩
      | none =>
        exfalso
        by_cases hn : h.now < 0
        · rw [walkC_neg hn] at hw; cases hw
        · have hlt : h.now.toNat < h.calls.length := by have := hh.now; omega
          rcases e1 with e1 | e1
          · exact hn e1
          · have hd : h.calls[h.now.toNat].dead = false := by simpa [hlt] using e1
            have := hall _ hlt hd
            unfold chainOf at this
            rw [hw] at this
            cases this
    · unfold roomP at e3
      rw [List.all_eq_true] at e3
      have := e3 k hk
      simpa [hkl] using this
  · rintro ⟨h1, h2, l, hw⟩
    refine ⟨⟨headOk_iff.2 h1, all_of fun i hi => clOk_iff.2 (h2 i hi)⟩, ?_⟩
    unfold endOk
    simp only [Bool.and_eq_true, Bool.or_eq_true, decide_eq_true_iff, beq_iff_eq]
    rw [hw.chain]
    refine ⟨⟨?_, ?_⟩, ?_⟩
    · by_cases hn : h.now < 0
      · exact .inl hn
      · obtain ⟨f, hf⟩ := hw.ch
        obtain ⟨g, n, hnl, t, _, e, _, hd, _⟩ := walkC_some hf (by omega)
        refine .inr ?_
        rw [e]
        simp [hnl, hd]
    · rw [← aliveL_len]
      have a1 := few_of_nodup l (aliveL h.calls) hw.nodup (fun k hk => mem_alive.2 (hw.mem hk))
      have a2 := few_of_nodup (aliveL h.calls) l (alive_nodup _) (fun k hk => by obtain ⟨q1, q2⟩ := mem_alive.1 hk; exact hw.all k q1 q2)
      omega
    · unfold roomP
      rw [List.all_eq_true]
      intro k hk
      obtain ⟨hkl, _⟩ := hw.mem (List.mem_of_mem_drop hk)
      have := hw.room k hk hkl
      simpa [hkl] using this
/- the chain of turned calls -/
theorem Waits.head {cs : List Cl} {j : Nat} {l : List Nat} (h : Waits cs (j : Int) l) : ∃ (hj : j < cs.length) (t : List Nat), l = j :: t ∧ cs[j].dead = false ∧ (∃ f, walkC cs f cs[j].sender = some t) ∧ j ∉ t := by
  have hn := h.nodup
  obtain ⟨f, hf⟩ := h.ch
  obtain ⟨g, n, hnl, t, _, e, e2, hd, ht⟩ := walkC_some hf (by omega)
  obtain rfl : j = n := by omega
  subst e2
  exact ⟨hnl, t, rfl, hd, ⟨g, ht⟩, (List.nodup_cons.1 hn).1⟩
theorem Waits.call {cs : List Cl} {j : Nat} {l : List Nat} (h : Waits cs (j : Int) l) (hj : j < cs.length) (h6 : cs[j].stack.length < 6) (c : Cl) (hd : c.dead = false) (hs : c.sender = (j : Int)) : Waits (cs ++ [c]) (cs.length : Int) (cs.length :: l) := by
  have hn : cs.length < (cs ++ [c]).length := by simp
  have he : (cs ++ [c])[cs.length] = c := by simp
  obtain ⟨_, t, hl, _⟩ := h.head
  refine ⟨?_, fun k hk hkd => ?_, fun k hk hkl => ?_⟩
  · obtain ⟨f, hf⟩ := h.ch
    refine ⟨f + 1, ?_⟩
    rw [walkC_step hn (by rw [he]; exact hd), he, hs, walkC_append c l f _ hf]
    rfl
  · by_cases e : k < cs.length
    · rw [List.getElem_append_left e] at hkd
      exact List.mem_cons_of_mem _ (h.all k e hkd)
    · obtain rfl : k = cs.length := by simp at hk; omega
      exact List.mem_cons_self
  · have hkl' : k ∈ l := by simpa using hk
    obtain ⟨hk2, _⟩ := h.mem hkl'
    rw [List.getElem_append_left hk2]
    subst hl
    rcases List.mem_cons.1 hkl' with q | q
    · subst q; exact h6
    · exact h.room k (by simpa using q) hk2
end Go.Proofs.Ytnffknlgaiehdaa
