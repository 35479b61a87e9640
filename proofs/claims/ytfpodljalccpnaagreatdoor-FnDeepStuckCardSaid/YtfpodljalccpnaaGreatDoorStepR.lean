/-
  An ok heap stays ok. Nothing of the translation is used here.
-/
import Derived.Test.YtfpodljalccpnaaGreatDoorStepP

namespace Go.Proofs.YtfpodljalccpnaaGreatDoor
structure ClP (ms : Ms) (n : Nat) (c : Cl) : Prop where
  m : 0 ≤ c.m ∧ c.m < (ms.length : Int)
  pc : 0 ≤ c.pc ∧ c.pc ≤ ((ms.getD c.m.toNat (0, 0, [])).2.2.length : Int)
  t : (c.temps.length : Int) = (ms.getD c.m.toNat (0, 0, [])).2.1
  s : c.stack.length ≤ 6
  sd : -1 ≤ c.sender ∧ c.sender < (n : Int)
  vt : valsOk n c.temps = true
  vs : valsOk n c.stack = true
  dd : c.dead = true → c.sender = -1 ∧ c.stack = []
theorem clOk_iff {ms : Ms} {n : Nat} {c : Cl} : clOk ms n c = true ↔ ClP ms n c := by
  simp only [clOk, Bool.and_eq_true, inR_true, decide_eq_true_iff]
  constructor
  · rintro ⟨⟨⟨⟨h1, h2⟩, h3⟩, h4⟩, ⟨⟨⟨h5, h6⟩, h7⟩, h8⟩⟩
    refine ⟨by omega, h2, h3, h4, by omega, h6, h7, fun hd => ?_⟩
    rw [hd] at h8
    simp at h8
    exact h8
  · rintro ⟨h1, h2, h3, h4, h5, h6, h7, h8⟩
    refine ⟨⟨⟨⟨by omega, h2⟩, h3⟩, h4⟩, ⟨⟨⟨by omega, h6⟩, h7⟩, ?_⟩⟩
    cases hd : c.dead
    · rfl
    · obtain ⟨e1, e2⟩ := h8 hd
      simp [e1, e2]
theorem valOk_mono {n n' : Nat} (hn : n ≤ n') {k a : Int} (h : valOk n k a = true) : valOk n' k a = true := by
  unfold valOk at h ⊢
  split at h
  · rename_i e; rw [if_pos e]; exact h
  · rename_i e; rw [if_neg e]
    split at h
    · rename_i e1; rw [if_pos e1]; exact h
    · rename_i e1; rw [if_neg e1]
      split at h
      · rename_i e2; rw [if_pos e2]; rw [inR_true] at h ⊢; omega
      · cases h
theorem valsOk_iff {n : Int} {l : List (Int × Int)} : valsOk n l = true ↔ ∀ v ∈ l, valOk n v.1 v.2 = true := by
  unfold valsOk
  rw [List.all_eq_true]
theorem valsOk_mono {n n' : Nat} (hn : n ≤ n') {l : List (Int × Int)} (h : valsOk n l = true) : valsOk n' l = true := by
  rw [valsOk_iff] at h ⊢
  exact fun v hv => valOk_mono hn (h v hv)
theorem ClP.mono {ms : Ms} {n n' : Nat} {c : Cl} (h : ClP ms n c) (hn : n ≤ n') : ClP ms n' c :=
  ⟨h.m, h.pc, h.t, h.s, by have := h.sd; omega, valsOk_mono hn h.vt, valsOk_mono hn h.vs, h.dd⟩
structure HeadP (ms : Ms) (h : Hp) : Prop where
  p : progOk ms = true
  now : -1 ≤ h.now ∧ h.now < (h.calls.length : Int)
  born : 1 ≤ h.born ∧ h.born ≤ 30
  few : (h.calls.length : Int) ≤ h.born
  code : 0 ≤ h.code ∧ h.code ≤ 3
  said : valsOk ms.length h.said = true
  fin : h.code = 1 ↔ h.now < 0
theorem headOk_iff {ms : Ms} {h : Hp} : headOk ms h = true ↔ HeadP ms h := by
  simp only [headOk, Bool.and_eq_true, inR_true, decide_eq_true_iff]
  constructor
  · rintro ⟨⟨⟨⟨⟨⟨h1, h2⟩, h3⟩, h4⟩, h5⟩, h6⟩, h7⟩
    refine ⟨h1, by omega, h3, h4, h5, h6, ?_⟩
    simp only [beq_iff_eq] at h7
    by_cases e : h.code = 1
    · rw [beq_iff_eq.2 e] at h7
      exact ⟨fun _ => of_decide_eq_true h7.symm, fun _ => e⟩
    · rw [beq_eq_false_iff_ne.2 e] at h7
      exact ⟨fun q => absurd q e, fun q => absurd q (of_decide_eq_false h7.symm)⟩
  · rintro ⟨h1, h2, h3, h4, h5, h6, h7⟩
    refine ⟨⟨⟨⟨⟨⟨h1, by omega⟩, h3⟩, h4⟩, h5⟩, h6⟩, ?_⟩
    simp only [beq_iff_eq]
    by_cases e : h.code = 1
    · rw [beq_iff_eq.2 e, decide_eq_true (h7.1 e)]
    · rw [beq_eq_false_iff_ne.2 e, decide_eq_false (fun q => e (h7.2 q))]
structure Good (ms : Ms) (h : Hp) : Prop where
  head : HeadP ms h
  cl : ∀ i, (hi : i < h.calls.length) → ClP ms h.calls.length h.calls[i]
  w : ∃ l, Waits h.calls h.now l
theorem alive_nodup (cs : List Cl) : (aliveL cs).Nodup := by
  unfold aliveL
  exact List.Pairwise.filter _ List.nodup_range
theorem good_iff {ms : Ms} {h : Hp} : heapOk ms h = true ↔ Good ms h := by
  unfold heapOk
  simp only [Bool.and_eq_true]
  constructor
  · rintro ⟨⟨h1, h2⟩, h3⟩
    have hh := headOk_iff.1 h1
    have hc : ∀ i, (hi : i < h.calls.length) → clOk ms h.calls.length h.calls[i] = true := fun i hi => List.all_eq_true.1 h2 _ (List.getElem_mem hi)
    refine ⟨hh, fun i hi => clOk_iff.1 (hc i hi), chainOf h.calls h.now, ?_⟩
    unfold endOk at h3
    simp only [Bool.and_eq_true, Bool.or_eq_true, decide_eq_true_iff, beq_iff_eq] at h3
    obtain ⟨⟨e1, e2⟩, e3⟩ := h3
    have hall : ∀ k, (hk : k < h.calls.length) → h.calls[k].dead = false → k ∈ chainOf h.calls h.now := fun k hk hd => chain_all e2 hk hd
    refine ⟨?_, hall, fun k hk hkl => ?_⟩
    · cases hw : walkC h.calls h.calls.length h.now with
      | some l => exact ⟨_, by unfold chainOf; rw [hw]; rfl⟩
      | none =>
        exfalso
        by_cases hn : h.now < 0
        · rw [walkC_neg hn] at hw; cases hw
        · have hlt : h.now.toNat < h.calls.length := by have := hh.now; omega
          rcases e1 with e1 | e1
          · exact hn e1
          · have hd : h.calls[h.now.toNat].dead = false := by simpa [hlt] using e1
            have := hall _ hlt hd
            unfold chainOf at this
            rw [hw] at this
            cases this
    · unfold roomP at e3
      rw [List.all_eq_true] at e3
      have := e3 k hk
      simpa [hkl] using this
  · rintro ⟨h1, h2, l, hw⟩
    refine ⟨⟨headOk_iff.2 h1, all_of fun i hi => clOk_iff.2 (h2 i hi)⟩, ?_⟩
    unfold endOk
    simp only [Bool.and_eq_true, Bool.or_eq_true, decide_eq_true_iff, beq_iff_eq]
    rw [hw.chain]
    refine ⟨⟨?_, ?_⟩, ?_⟩
    · by_cases hn : h.now < 0
      · exact .inl hn
      · obtain ⟨f, hf⟩ := hw.ch
        obtain ⟨g, n, hnl, t, _, e, _, hd, _⟩ := walkC_some hf (by omega)
        refine .inr ?_
        rw [e]
        simp [hnl, hd]
    · rw [← aliveL_len]
      have a1 := few_of_nodup l (aliveL h.calls) hw.nodup (fun k hk => mem_alive.2 (hw.mem hk))
      have a2 := few_of_nodup (aliveL h.calls) l (alive_nodup _) (fun k hk => by obtain ⟨q1, q2⟩ := mem_alive.1 hk; exact hw.all k q1 q2)
      omega
    · unfold roomP
      rw [List.all_eq_true]
      intro k hk
      obtain ⟨hkl, _⟩ := hw.mem (List.mem_of_mem_drop hk)
      have := hw.room k hk hkl
      simpa [hkl] using this
/- the chain of turned calls -/
theorem Waits.head {cs : List Cl} {j : Nat} {l : List Nat} (h : Waits cs (j : Int) l) : ∃ (hj : j < cs.length) (t : List Nat), l = j :: t ∧ cs[j].dead = false ∧ (∃ f, walkC cs f cs[j].sender = some t) ∧ j ∉ t := by
  have hn := h.nodup
  obtain ⟨f, hf⟩ := h.ch
  obtain ⟨g, n, hnl, t, _, e, e2, hd, ht⟩ := walkC_some hf (by omega)
  obtain rfl : j = n := by omega
  subst e2
  exact ⟨hnl, t, rfl, hd, ⟨g, ht⟩, (List.nodup_cons.1 hn).1⟩
theorem Waits.set_like {cs : List Cl} {now : Int} {l : List Nat} (h : Waits cs now l) (j : Nat) (hj : j < cs.length) (c : Cl) (hd : c.dead = cs[j].dead) (hs : c.sender = cs[j].sender) (hr : j ∈ l.drop 1 → c.stack.length < 6) : Waits (cs.set j c) now l := by
  have hl : (cs.set j c).length = cs.length := by simp
  have key : ∀ i, (hi : i < cs.length) → ((cs.set j c)[i]'(by omega)).dead = cs[i].dead ∧ ((cs.set j c)[i]'(by omega)).sender = cs[i].sender := fun i hi => by
    by_cases e : j = i
    · subst e; simp [hd, hs]
    · rw [List.getElem_set_ne e]; exact ⟨rfl, rfl⟩
  refine ⟨?_, fun k hk hkd => ?_, fun k hk hkl => ?_⟩
  · obtain ⟨f, hf⟩ := h.ch
    exact ⟨f, by rw [walkC_congr hl key]; exact hf⟩
  · rw [hl] at hk
    exact h.all k hk (by rw [← (key k hk).1]; exact hkd)
  · rw [hl] at hkl
    by_cases e : j = k
    · subst e; simp only [List.getElem_set_self]; exact hr hk
    · rw [List.getElem_set_ne e]; exact h.room k hk hkl
theorem Waits.set_cur {cs : List Cl} {j : Nat} {l : List Nat} (h : Waits cs (j : Int) l) (hj : j < cs.length) (c : Cl) (hd : c.dead = cs[j].dead) (hs : c.sender = cs[j].sender) : Waits (cs.set j c) (j : Int) l := by
  obtain ⟨_, t, rfl, _, _, hnt⟩ := h.head
  exact h.set_like j hj c hd hs (fun e => absurd (by simpa using e) hnt)
theorem Waits.leave {cs : List Cl} {j : Nat} {l : List Nat} (h : Waits cs (j : Int) l) (hj : j < cs.length) (c : Cl) (hd : c.dead = true) : ∃ t, l = j :: t ∧ Waits (cs.set j c) cs[j].sender t ∧ ∀ k ∈ t, ∀ hk : k < cs.length, cs[k].stack.length < 6 := by
  obtain ⟨_, t, rfl, hjd, ⟨f, hf⟩, hnt⟩ := h.head
  have hr : ∀ k ∈ t, ∀ hk : k < cs.length, cs[k].stack.length < 6 := fun k hk hkl => h.room k (by simpa using hk) hkl
  refine ⟨t, rfl, ⟨⟨f, walkC_set c t f _ hf hnt⟩, fun k hk hkd => ?_, fun k hk hkl => ?_⟩, hr⟩
  · have hk' : k < cs.length := by simpa using hk
    by_cases e : j = k
    · subst e; simp only [List.getElem_set_self] at hkd; rw [hd] at hkd; cases hkd
    · rw [List.getElem_set_ne e] at hkd
      rcases List.mem_cons.1 (h.all k hk' hkd) with q | q
      · exact absurd q.symm e
      · exact q
  · have hkt := List.mem_of_mem_drop hk
    have e : j ≠ k := fun e => hnt (by rw [e]; exact hkt)
    rw [List.getElem_set_ne e]
    exact hr k hkt (by simpa using hkl)
theorem Waits.call {cs : List Cl} {j : Nat} {l : List Nat} (h : Waits cs (j : Int) l) (hj : j < cs.length) (h6 : cs[j].stack.length < 6) (c : Cl) (hd : c.dead = false) (hs : c.sender = (j : Int)) : Waits (cs ++ [c]) (cs.length : Int) (cs.length :: l) := by
  have hn : cs.length < (cs ++ [c]).length := by simp
  have he : (cs ++ [c])[cs.length] = c := by simp
  obtain ⟨_, t, hl, _⟩ := h.head
  refine ⟨?_, fun k hk hkd => ?_, fun k hk hkl => ?_⟩
  · obtain ⟨f, hf⟩ := h.ch
    refine ⟨f + 1, ?_⟩
    rw [walkC_step hn (by rw [he]; exact hd), he, hs, walkC_append c l f _ hf]
    rfl
  · by_cases e : k < cs.length
    · rw [List.getElem_append_left e] at hkd
      exact List.mem_cons_of_mem _ (h.all k e hkd)
    · obtain rfl : k = cs.length := by simp at hk; omega
      exact List.mem_cons_self
  · have hkl' : k ∈ l := by simpa using hk
    obtain ⟨hk2, _⟩ := h.mem hkl'
    rw [List.getElem_append_left hk2]
    subst hl
    rcases List.mem_cons.1 hkl' with q | q
    · subst q; exact h6
    · exact h.room k (by simpa using q) hk2
end Go.Proofs.YtfpodljalccpnaaGreatDoor

/-
  An ok heap that runs is ok behind one operation, and behind any number. Nothing of the translation is used here.
-/
namespace Go.Proofs.YtfpodljalccpnaaGreatDoor
theorem valOk_none (n : Int) : valOk n 0 0 = true := by simp [valOk]
theorem valOk_num {n a : Int} (h0 : 0 ≤ a) (h1 : a ≤ 999) : valOk n 1 a = true := by
  unfold valOk
  rw [if_neg (by decide), if_pos rfl, inR_true]
  exact ⟨h0, h1⟩
theorem valOk_ref {n : Nat} {a : Int} (h0 : 0 ≤ a) (h1 : a < (n : Int)) : valOk n 2 a = true := by
  unfold valOk
  rw [if_neg (by decide), if_neg (by decide), if_pos rfl, inR_true]
  omega
theorem valOk_ref' {n : Nat} {a : Int} (h : valOk n 2 a = true) : 0 ≤ a ∧ a < (n : Int) := by
  unfold valOk at h
  rw [if_neg (by decide), if_neg (by decide), if_pos rfl, inR_true] at h
  omega
theorem valOk_else {n n' : Int} {k a : Int} (hk : k ≠ 2) (h : valOk n k a = true) : valOk n' k a = true := by
  unfold valOk at h ⊢
  split at h
  · rename_i e; rw [if_pos e]; exact h
  · rename_i e; rw [if_neg e]
    split at h
    · rename_i e1; rw [if_pos e1]; exact h
    · cases h
theorem valOk_bit (n : Int) (b : Bool) : valOk n (bitV b).1 (bitV b).2 = true := by
  unfold bitV
  cases b
  · exact valOk_num (by decide) (by decide)
  · exact valOk_num (by decide) (by decide)
theorem vals_getD {n : Int} {l : List (Int × Int)} (h : valsOk n l = true) (i : Nat) : valOk n (l.getD i (0, 0)).1 (l.getD i (0, 0)).2 = true := by
  by_cases hi : i < l.length
  · rw [show l.getD i (0, 0) = l[i] by simp [hi]]
    exact valsOk_iff.1 h _ (List.getElem_mem hi)
  · rw [show l.getD i (0, 0) = (0, 0) by simp [hi]]
    exact valOk_none n
theorem vals_append {n : Int} {l l' : List (Int × Int)} (h : valsOk n l = true) (h' : valsOk n l' = true) : valsOk n (l ++ l') = true := by
  rw [valsOk_iff] at *
  intro v hv
  rcases List.mem_append.1 hv with q | q
  · exact h v q
  · exact h' v q
theorem vals_one {n : Int} {v : Int × Int} (h : valOk n v.1 v.2 = true) : valsOk n [v] = true := by
  rw [valsOk_iff]
  intro u hu
  simp at hu
  subst hu
  exact h
theorem vals_set {n : Int} {l : List (Int × Int)} (h : valsOk n l = true) (i : Nat) {v : Int × Int} (hv : valOk n v.1 v.2 = true) : valsOk n (l.set i v) = true := by
  rw [valsOk_iff] at *
  intro u hu
  rcases List.mem_or_eq_of_mem_set hu with q | q
  · exact h u q
  · subst q; exact hv
theorem vals_take {n : Int} {l : List (Int × Int)} (h : valsOk n l = true) (k : Nat) : valsOk n (l.take k) = true := by
  rw [valsOk_iff] at *
  exact fun v hv => h v (List.mem_of_mem_take hv)
theorem vals_drop {n : Int} {l : List (Int × Int)} (h : valsOk n l = true) (k : Nat) : valsOk n (l.drop k) = true := by
  rw [valsOk_iff] at *
  exact fun v hv => h v (List.mem_of_mem_drop hv)
theorem vals_nones (n : Int) (k : Nat) : valsOk n (List.replicate k (0, 0)) = true := by
  rw [valsOk_iff]
  intro v hv
  rw [List.eq_of_mem_replicate hv]
  exact valOk_none n
structure MethP (ms : Ms) (m : Int × Int × List (Int × Int)) : Prop where
  args : 0 ≤ m.1 ∧ m.1 ≤ 2
  temps : m.1 ≤ m.2.1 ∧ m.2.1 ≤ 4
  few : m.2.2.length ≤ 14
  ops : ∀ op ∈ m.2.2, opOk ms.length m.2.2.length m.2.1 op.1 op.2 = true
theorem prog_meth {ms : Ms} (hp : progOk ms = true) {m : Nat} (hm : m < ms.length) : MethP ms ms[m] := by
  unfold progOk at hp
  simp only [Bool.and_eq_true] at hp
  have := List.all_eq_true.1 hp.2 _ (List.getElem_mem hm)
  unfold methOk at this
  simp only [Bool.and_eq_true, inR_true, decide_eq_true_iff] at this
  exact ⟨this.1.1.1, this.1.1.2, this.1.2, fun op ho => List.all_eq_true.1 this.2 op ho⟩
theorem set_cur {h : Hp} {j : Nat} (hn : h.now = j) (hj : j < h.calls.length) (c : Cl) : curC (setH h c) = c := by
  unfold curC setH
  simp [hn, hj]
theorem cur_at {h : Hp} {j : Nat} (hn : h.now = j) (hj : j < h.calls.length) : curC h = h.calls[j] := by
  unfold curC
  simp [hn, hj]
theorem Good.set {ms : Ms} {h : Hp} (g : Good ms h) {j : Nat} (_hj : j < h.calls.length) {c : Cl} (hc : ClP ms h.calls.length c) {l : List Nat} (hw : Waits (h.calls.set j c) h.now l) : Good ms { h with calls := h.calls.set j c } := by
  have hl : (h.calls.set j c).length = h.calls.length := by simp
  refine ⟨⟨g.head.p, by simp only [hl]; exact g.head.now, g.head.born, by simp only [hl]; exact g.head.few, g.head.code, g.head.said, g.head.fin⟩, fun i hi => ?_, l, hw⟩
  simp only [hl] at hi ⊢
  by_cases e : j = i
  · subst e; simp only [List.getElem_set_self]; exact hc
  · rw [List.getElem_set_ne e]; exact g.cl i hi
theorem Good.cur {ms : Ms} {h : Hp} (g : Good ms h) {j : Nat} (hn : h.now = j) (hj : j < h.calls.length) {c : Cl} (hc : ClP ms h.calls.length c) (hd : c.dead = h.calls[j].dead) (hs : c.sender = h.calls[j].sender) : Good ms (setH h c) := by
  obtain ⟨l, hw⟩ := g.w
  unfold setH
  have e : h.now.toNat = j := by omega
  rw [e]
  refine g.set hj hc (l := l) ?_
  rw [hn] at hw ⊢
  exact hw.set_cur hj c hd hs
theorem Good.push {ms : Ms} {h : Hp} (g : Good ms h) {j : Nat} (hn : h.now = j) (hj : j < h.calls.length) (h6 : h.calls[j].stack.length < 6) {v : Int × Int} (hv : valOk h.calls.length v.1 v.2 = true) (hd : h.calls[j].dead = false) : Good ms (pushH h v) := by
  unfold pushH
  rw [cur_at hn hj]
  have c := g.cl j hj
  exact g.cur hn hj ⟨c.m, c.pc, c.t, by simp; omega, c.sd, c.vt, vals_append c.vs (vals_one hv), fun q => by rw [hd] at q; cases q⟩ rfl rfl
theorem Good.code {ms : Ms} {h : Hp} (g : Good ms h) (hn : 0 ≤ h.now) {k : Int} (hk : k = 2 ∨ k = 3) : Good ms (codeH h k) :=
  ⟨⟨g.head.p, g.head.now, g.head.born, g.head.few, by unfold codeH; simp only []; omega, g.head.said, ⟨fun e => by unfold codeH at e; simp only [] at e; omega, fun e => by unfold codeH at e; simp only [] at e; omega⟩⟩, g.cl, g.w⟩
theorem Good.die {ms : Ms} {h : Hp} (g : Good ms h) {j : Nat} (hj : j < h.calls.length) : ClP ms h.calls.length (dieC h.calls[j]) := by
  have c := g.cl j hj
  exact ⟨c.m, c.pc, c.t, by simp [dieC], by simp [dieC]; omega, c.vt, rfl, fun _ => ⟨rfl, rfl⟩⟩
theorem Good.leave {ms : Ms} {h : Hp} (g : Good ms h) {j : Nat} (hn : h.now = j) (hj : j < h.calls.length) (hs : 0 ≤ h.calls[j].sender) (hc : h.code = 0) : Good ms (leaveH h) := by
  obtain ⟨l, hw⟩ := g.w
  rw [hn] at hw
  obtain ⟨t, _, hw', _⟩ := hw.leave hj (dieC h.calls[j]) rfl
  have e : h.now.toNat = j := by omega
  have hl : (h.calls.set j (dieC h.calls[j])).length = h.calls.length := by simp
  have c := g.cl j hj
  unfold leaveH setH
  rw [cur_at hn hj, e]
  refine ⟨⟨g.head.p, ?_, g.head.born, by simp only [hl]; exact g.head.few, g.head.code, g.head.said, ⟨fun e => by simp only [] at e; omega, fun e => by simp only [] at e; omega⟩⟩, fun i hi => ?_, t, hw'⟩
  · simp only [hl]; have := c.sd; omega
  · simp only [hl] at hi ⊢
    by_cases e : j = i
    · subst e; simp only [List.getElem_set_self]; exact g.die hj
    · rw [List.getElem_set_ne e]; exact g.cl i hi
theorem vals_say {ms : Ms} {h : Hp} (g : Good ms h) {v : Int × Int} (hv : valOk h.calls.length v.1 v.2 = true) : valOk ms.length (sayV h v).1 (sayV h v).2 = true := by
  unfold sayV
  by_cases e : v.1 = 2
  · rw [if_pos e]
    rw [e] at hv
    have hr := valOk_ref' hv
    have hlt : v.2.toNat < h.calls.length := by omega
    rw [show h.calls.getD v.2.toNat Cl.none = h.calls[v.2.toNat] by simp [hlt]]
    have := (g.cl _ hlt).m
    exact valOk_ref this.1 this.2
  · rw [if_neg e]
    exact valOk_else e hv
theorem Good.fin {ms : Ms} {h : Hp} (g : Good ms h) {j : Nat} (hn : h.now = j) (hj : j < h.calls.length) (hs : h.calls[j].sender < 0) {v : Int × Int} (hv : valOk h.calls.length v.1 v.2 = true) : Good ms (codeH (sayH (leaveH h) v) 1) := by
  obtain ⟨l, hw⟩ := g.w
  rw [hn] at hw
  obtain ⟨t, _, hw', _⟩ := hw.leave hj (dieC h.calls[j]) rfl
  have e : h.now.toNat = j := by omega
  have hl : (h.calls.set j (dieC h.calls[j])).length = h.calls.length := by simp
  have c := g.cl j hj
  have hsay : sayV (leaveH h) v = sayV h v := by
    unfold sayV
    by_cases e2 : v.1 = 2
    · rw [if_pos e2, if_pos e2]
      congr 1
      unfold leaveH setH
      rw [cur_at hn hj, e]
      by_cases e3 : j = v.2.toNat
      · rw [← e3]; simp [hj, dieC]
      · simp [List.getElem?_set_ne e3]
    · rw [if_neg e2, if_neg e2]
  unfold codeH sayH
  rw [hsay]
  unfold leaveH setH
  rw [cur_at hn hj, e]
  refine ⟨⟨g.head.p, ?_, g.head.born, by simp only [hl]; exact g.head.few, by simp, vals_append g.head.said (vals_one (vals_say g hv)), ⟨fun _ => hs, fun _ => rfl⟩⟩, fun i hi => ?_, t, hw'⟩
  · simp only [hl]; have := c.sd; omega
  · simp only [hl] at hi ⊢
    by_cases e : j = i
    · subst e; simp only [List.getElem_set_self]; exact g.die hj
    · rw [List.getElem_set_ne e]; exact g.cl i hi
theorem leave_at {h : Hp} {j : Nat} (hn : h.now = j) (hj : j < h.calls.length) : (leaveH h).calls = h.calls.set j (dieC h.calls[j]) ∧ (leaveH h).now = h.calls[j].sender ∧ (leaveH h).code = h.code := by
  have e : h.now.toNat = j := by omega
  unfold leaveH setH
  rw [cur_at hn hj, e]
  exact ⟨rfl, rfl, rfl⟩
theorem backTo_here {f : Nat} {h : Hp} {b : Nat} (e : h.now = b) : backTo (f + 1) h b = h := by
  unfold backTo
  rw [if_pos e]
theorem backTo_on {f : Nat} {h : Hp} {b : Nat} (e : ¬ h.now = b) : backTo (f + 1) h b = backTo f (leaveH h) b := by
  conv => lhs; unfold backTo
  rw [if_neg e]
theorem Good.back {ms : Ms} : ∀ (f : Nat) (h : Hp) (b : Nat) (l : List Nat), Good ms h → h.code = 0 → Waits h.calls h.now l → b ∈ l → l.length ≤ f → (∀ hb : b < h.calls.length, h.calls[b].stack.length < 6) →
    Good ms (backTo f h b) ∧ (backTo f h b).code = 0 ∧ (backTo f h b).now = b ∧ (backTo f h b).calls.length = h.calls.length ∧ (∀ hb : b < (backTo f h b).calls.length, (backTo f h b).calls[b].stack.length < 6 ∧ (backTo f h b).calls[b].dead = false)
  | 0, h, b, l, g, hc, hw, hb, hl, h6 => by
    cases l with
    | nil => cases hb
    | cons => simp at hl
  | f + 1, h, b, l, g, hc, hw, hb, hl, h6 => by
    by_cases e : h.now = b
    · rw [backTo_here e]
      exact ⟨g, hc, e, rfl, fun hb' => ⟨h6 hb', (hw.mem hb).2⟩⟩
    · rw [backTo_on e]
      have hn0 : 0 ≤ h.now := by
        by_cases q : h.now < 0
        · obtain ⟨f', hf'⟩ := hw.ch
          rw [walkC_neg q] at hf'
          cases hf'
          cases hb
        · omega
      obtain ⟨j, hn⟩ : ∃ j : Nat, h.now = j := ⟨h.now.toNat, by omega⟩
      rw [hn] at hw
      have hj : j < h.calls.length := hw.head.1
      obtain ⟨t, rfl, hw', hr⟩ := hw.leave hj (dieC h.calls[j]) rfl
      have hbt : b ∈ t := by
        rcases List.mem_cons.1 hb with q | q
        · exact absurd (by rw [hn, q]) e
        · exact q
      have hs0 : 0 ≤ h.calls[j].sender := by
        by_cases q : h.calls[j].sender < 0
        · obtain ⟨f', hf'⟩ := hw'.ch
          rw [walkC_neg q] at hf'
          cases hf'
          cases hbt
        · omega
      obtain ⟨a1, a2, a3⟩ := leave_at hn hj
      have hlen : (leaveH h).calls.length = h.calls.length := by rw [a1]; simp
      have hbj : j ≠ b := fun q => e (by rw [hn, q])
      have hh6 : ∀ hb : b < (leaveH h).calls.length, (leaveH h).calls[b].stack.length < 6 := fun hb' => by
        simp only [a1]
        rw [List.getElem_set_ne hbj]
        exact h6 (by omega)
      have hw2 : Waits (leaveH h).calls (leaveH h).now t := by rw [a1, a2]; exact hw'
      obtain ⟨r1, r2, r3, r4, r5⟩ := Good.back f (leaveH h) b t (g.leave hn hj hs0 hc) (by rw [a3]; exact hc) hw2 hbt (by simpa using hl) hh6
      exact ⟨r1, r2, r3, by rw [r4]; exact hlen, r5⟩
end Go.Proofs.YtfpodljalccpnaaGreatDoor
