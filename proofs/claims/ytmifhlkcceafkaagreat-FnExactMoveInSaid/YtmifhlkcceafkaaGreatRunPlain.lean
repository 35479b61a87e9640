/-
  One operation of a heap, in plain words, and that an ok heap stays ok. Nothing of the translation is used here.
-/
import Derived.Test.YtmifhlkcceafkaaGreatHImpl4
import Derived.Test.YtmifhlkcceafkaaGreatTakes2

namespace Go.Proofs.YtmifhlkcceafkaaGreat
abbrev Ms := List (Int × Int × List (Int × Int))
def curC (h : Hp) : Cl := h.calls.getD h.now.toNat Cl.none
def setH (h : Hp) (c : Cl) : Hp := { h with calls := h.calls.set h.now.toNat c }
def dieC (c : Cl) : Cl := { c with stack := [], sender := -1, dead := true }
def leaveH (h : Hp) : Hp := { setH h (dieC (curC h)) with now := (curC h).sender }
def sayV (h : Hp) (v : Int × Int) : Int × Int := if v.1 = 2 then (2, (h.calls.getD v.2.toNat Cl.none).m) else v
def sayH (h : Hp) (v : Int × Int) : Hp := { h with said := h.said ++ [sayV h v] }
def codeH (h : Hp) (k : Int) : Hp := { h with code := k }
theorem walkC_more {cs : List Cl} : ∀ (l : List Nat) (f f' : Nat) (a : Int), walkC cs f a = some l → l.length ≤ f' → walkC cs f' a = some l
  | [], f, f', a, h, _ => by
    by_cases ha : a < 0
    · exact walkC_neg ha
    · obtain ⟨g, n, hn, t, _, _, e, _⟩ := walkC_some h (by omega)
      cases e
  | k :: l, f, f', a, h, hl => by
    by_cases ha : a < 0
    · rw [walkC_neg ha] at h; cases h
    · obtain ⟨g, n, hn, t, _, rfl, e, hd, ht⟩ := walkC_some h (by omega)
      cases e
      obtain ⟨f'', rfl⟩ : ∃ f'', f' = f'' + 1 := ⟨f' - 1, by simp at hl; omega⟩
      rw [walkC_step hn hd, walkC_more l g f'' _ ht (by simpa using hl)]
      rfl
theorem walkC_set {cs : List Cl} {j : Nat} (c : Cl) : ∀ (l : List Nat) (f : Nat) (a : Int), walkC cs f a = some l → j ∉ l → walkC (cs.set j c) f a = some l
  | [], f, a, h, _ => by
    by_cases ha : a < 0
    · exact walkC_neg ha
    · obtain ⟨g, n, hn, t, _, _, e, _⟩ := walkC_some h (by omega)
      cases e
  | k :: l, f, a, h, hj => by
    by_cases ha : a < 0
    · rw [walkC_neg ha] at h; cases h
    · obtain ⟨g, n, hn, t, rfl, rfl, e, hd, ht⟩ := walkC_some h (by omega)
      cases e
      have hne : j ≠ k := fun e => hj (by rw [e]; exact List.mem_cons_self)
      have hk' : k < (cs.set j c).length := by simpa using hn
      have he : (cs.set j c)[k] = cs[k] := List.getElem_set_ne hne _
      rw [walkC_step hk' (by rw [he]; exact hd), he, walkC_set c l g _ ht (fun e => hj (List.mem_cons_of_mem _ e))]
      rfl
structure Waits (cs : List Cl) (now : Int) (l : List Nat) : Prop where
  ch : ∃ f, walkC cs f now = some l
  all : ∀ k, (hk : k < cs.length) → cs[k].dead = false → k ∈ l
  room : ∀ k ∈ l.drop 1, ∀ hk : k < cs.length, cs[k].stack.length < 6
theorem Waits.nodup {cs : List Cl} {now : Int} {l : List Nat} (h : Waits cs now l) : l.Nodup := by
  obtain ⟨f, hf⟩ := h.ch
  exact walkC_nodup _ _ _ hf
theorem Waits.mem {cs : List Cl} {now : Int} {l : List Nat} (h : Waits cs now l) {k : Nat} (hk : k ∈ l) : ∃ h : k < cs.length, cs[k].dead = false := by
  obtain ⟨f, hf⟩ := h.ch
  exact walkC_in _ _ _ hf k hk
theorem Waits.len {cs : List Cl} {now : Int} {l : List Nat} (h : Waits cs now l) : l.length ≤ cs.length := by
  have := few_of_nodup l (List.range cs.length) h.nodup (fun k hk => List.mem_range.2 (h.mem hk).1)
  simpa using this
theorem Waits.chain {cs : List Cl} {now : Int} {l : List Nat} (h : Waits cs now l) : chainOf cs now = l := by
  obtain ⟨f, hf⟩ := h.ch
  unfold chainOf
  rw [walkC_more l f cs.length now hf h.len]
  rfl
end Go.Proofs.YtmifhlkcceafkaaGreat

/-
  An ok heap stays ok. Nothing of the translation is used here.
-/
namespace Go.Proofs.YtmifhlkcceafkaaGreat
structure ClP (ms : Ms) (n : Nat) (c : Cl) : Prop where
  m : 0 ≤ c.m ∧ c.m < (ms.length : Int)
  pc : 0 ≤ c.pc ∧ c.pc ≤ ((ms.getD c.m.toNat (0, 0, [])).2.2.length : Int)
  t : (c.temps.length : Int) = (ms.getD c.m.toNat (0, 0, [])).2.1
  s : c.stack.length ≤ 6
  sd : -1 ≤ c.sender ∧ c.sender < (n : Int)
  vt : valsOk n c.temps = true
  vs : valsOk n c.stack = true
  dd : c.dead = true → c.sender = -1 ∧ c.stack = []
theorem clOk_iff {ms : Ms} {n : Nat} {c : Cl} : clOk ms n c = true ↔ ClP ms n c := by
  simp only [clOk, Bool.and_eq_true, inR_true, decide_eq_true_iff]
  constructor
  · rintro ⟨⟨⟨⟨h1, h2⟩, h3⟩, h4⟩, ⟨⟨⟨h5, h6⟩, h7⟩, h8⟩⟩
    refine ⟨by omega, h2, h3, h4, by omega, h6, h7, fun hd => ?_⟩
    rw [hd] at h8
    simp at h8
    exact h8
  · rintro ⟨h1, h2, h3, h4, h5, h6, h7, h8⟩
    refine ⟨⟨⟨⟨by omega, h2⟩, h3⟩, h4⟩, ⟨⟨⟨by omega, h6⟩, h7⟩, ?_⟩⟩
    cases hd : c.dead
    · rfl
    · obtain ⟨e1, e2⟩ := h8 hd
      simp [e1, e2]
theorem valsOk_iff {n : Int} {l : List (Int × Int)} : valsOk n l = true ↔ ∀ v ∈ l, valOk n v.1 v.2 = true := by
  unfold valsOk
  rw [List.all_eq_true]
structure HeadP (ms : Ms) (h : Hp) : Prop where
  p : progOk ms = true
  now : -1 ≤ h.now ∧ h.now < (h.calls.length : Int)
  born : 1 ≤ h.born ∧ h.born ≤ 30
  few : (h.calls.length : Int) ≤ h.born
  code : 0 ≤ h.code ∧ h.code ≤ 3
  said : valsOk ms.length h.said = true
  fin : h.code = 1 ↔ h.now < 0
theorem headOk_iff {ms : Ms} {h : Hp} : headOk ms h = true ↔ HeadP ms h := by
  simp only [headOk, Bool.and_eq_true, inR_true, decide_eq_true_iff]
  constructor
  · rintro ⟨⟨⟨⟨⟨⟨h1, h2⟩, h3⟩, h4⟩, h5⟩, h6⟩, h7⟩
    refine ⟨h1, by omega, h3, h4, h5, h6, ?_⟩
    simp only [beq_iff_eq] at h7
    by_cases e : h.code = 1
    · rw [beq_iff_eq.2 e] at h7
      exact ⟨fun _ => of_decide_eq_true h7.symm, fun _ => e⟩
    · rw [beq_eq_false_iff_ne.2 e] at h7
      exact ⟨fun q => absurd q e, fun q => absurd q (of_decide_eq_false h7.symm)⟩
  · rintro ⟨h1, h2, h3, h4, h5, h6, h7⟩
    refine ⟨⟨⟨⟨⟨⟨h1, by omega⟩, h3⟩, h4⟩, h5⟩, h6⟩, ?_⟩
    simp only [beq_iff_eq]
    by_cases e : h.code = 1
    · rw [beq_iff_eq.2 e, decide_eq_true (h7.1 e)]
    · rw [beq_eq_false_iff_ne.2 e, decide_eq_false (fun q => e (h7.2 q))]
structure Good (ms : Ms) (h : Hp) : Prop where
  head : HeadP ms h
  cl : ∀ i, (hi : i < h.calls.length) → ClP ms h.calls.length h.calls[i]
  w : ∃ l, Waits h.calls h.now l
theorem alive_nodup (cs : List Cl) : (aliveL cs).Nodup := by
  unfold aliveL
  exact List.Pairwise.filter _ List.nodup_range
theorem good_iff {ms : Ms} {h : Hp} : heapOk ms h = true ↔ Good ms h := by
  unfold heapOk
  simp only [Bool.and_eq_true]
  constructor
  · rintro ⟨⟨h1, h2⟩, h3⟩
    have hh := headOk_iff.1 h1
    have hc : ∀ i, (hi : i < h.calls.length) → clOk ms h.calls.length h.calls[i] = true := fun i hi => List.all_eq_true.1 h2 _ (List.getElem_mem hi)
    refine ⟨hh, fun i hi => clOk_iff.1 (hc i hi), chainOf h.calls h.now, ?_⟩
    unfold endOk at h3
    simp only [Bool.and_eq_true, Bool.or_eq_true, decide_eq_true_iff, beq_iff_eq] at h3
    obtain ⟨⟨e1, e2⟩, e3⟩ := h3
    have hall : ∀ k, (hk : k < h.calls.length) → h.calls[k].dead = false → k ∈ chainOf h.calls h.now := fun k hk hd => chain_all e2 hk hd
    refine ⟨?_, hall, fun k hk hkl => ?_⟩
    · cases hw : walkC h.calls h.calls.length h.now with
      | some l => exact ⟨_, by unfold chainOf; rw [hw]; rfl⟩
      | none =>
        exfalso
        by_cases hn : h.now < 0
        · rw [walkC_neg hn] at hw; cases hw
        · have hlt : h.now.toNat < h.calls.length := by have := hh.now; omega
          rcases e1 with e1 | e1
          · exact hn e1
          · have hd : h.calls[h.now.toNat].dead = false := by simpa [hlt] using e1
            have := hall _ hlt hd
            unfold chainOf at this
            rw [hw] at this
            cases this
    · unfold roomP at e3
      rw [List.all_eq_true] at e3
      have := e3 k hk
      simpa [hkl] using this
  · rintro ⟨h1, h2, l, hw⟩
    refine ⟨⟨headOk_iff.2 h1, all_of fun i hi => clOk_iff.2 (h2 i hi)⟩, ?_⟩
    unfold endOk
    simp only [Bool.and_eq_true, Bool.or_eq_true, decide_eq_true_iff, beq_iff_eq]
    rw [hw.chain]
    refine ⟨⟨?_, ?_⟩, ?_⟩
    · by_cases hn : h.now < 0
      · exact .inl hn
      · obtain ⟨f, hf⟩ := hw.ch
        obtain ⟨g, n, hnl, t, _, e, _, hd, _⟩ := walkC_some hf (by omega)
        refine .inr ?_
        rw [e]
        simp [hnl, hd]
    · rw [← aliveL_len]
      have a1 := few_of_nodup l (aliveL h.calls) hw.nodup (fun k hk => mem_alive.2 (hw.mem hk))
      have a2 := few_of_nodup (aliveL h.calls) l (alive_nodup _) (fun k hk => by obtain ⟨q1, q2⟩ := mem_alive.1 hk; exact hw.all k q1 q2)
      omega
    · unfold roomP
      rw [List.all_eq_true]
      intro k hk
      obtain ⟨hkl, _⟩ := hw.mem (List.mem_of_mem_drop hk)
      have := hw.room k hk hkl
      simpa [hkl] using this
/- the chain of turned calls -/
theorem Waits.head {cs : List Cl} {j : Nat} {l : List Nat} (h : Waits cs (j : Int) l) : ∃ (hj : j < cs.length) (t : List Nat), l = j :: t ∧ cs[j].dead = false ∧ (∃ f, walkC cs f cs[j].sender = some t) ∧ j ∉ t := by
  have hn := h.nodup
  obtain ⟨f, hf⟩ := h.ch
  obtain ⟨g, n, hnl, t, _, e, e2, hd, ht⟩ := walkC_some hf (by omega)
  obtain rfl : j = n := by omega
  subst e2
  exact ⟨hnl, t, rfl, hd, ⟨g, ht⟩, (List.nodup_cons.1 hn).1⟩
theorem Waits.leave {cs : List Cl} {j : Nat} {l : List Nat} (h : Waits cs (j : Int) l) (hj : j < cs.length) (c : Cl) (hd : c.dead = true) : ∃ t, l = j :: t ∧ Waits (cs.set j c) cs[j].sender t ∧ ∀ k ∈ t, ∀ hk : k < cs.length, cs[k].stack.length < 6 := by
  obtain ⟨_, t, rfl, hjd, ⟨f, hf⟩, hnt⟩ := h.head
  have hr : ∀ k ∈ t, ∀ hk : k < cs.length, cs[k].stack.length < 6 := fun k hk hkl => h.room k (by simpa using hk) hkl
  refine ⟨t, rfl, ⟨⟨f, walkC_set c t f _ hf hnt⟩, fun k hk hkd => ?_, fun k hk hkl => ?_⟩, hr⟩
  · have hk' : k < cs.length := by simpa using hk
    by_cases e : j = k
    · subst e; simp only [List.getElem_set_self] at hkd; rw [hd] at hkd; cases hkd
    · rw [List.getElem_set_ne e] at hkd
      rcases List.mem_cons.1 (h.all k hk' hkd) with q | q
      · exact absurd q.symm e
      · exact q
  · have hkt := List.mem_of_mem_drop hk
    have e : j ≠ k := fun e => hnt (by rw [e]; exact hkt)
    rw [List.getElem_set_ne e]
    exact hr k hkt (by simpa using hkl)
end Go.Proofs.YtmifhlkcceafkaaGreat

/-
  An ok heap that runs is ok behind one operation, and behind any number. Nothing of the translation is used here.
-/
namespace Go.Proofs.YtmifhlkcceafkaaGreat
theorem valOk_ref {n : Nat} {a : Int} (h0 : 0 ≤ a) (h1 : a < (n : Int)) : valOk n 2 a = true := by
  unfold valOk
  rw [if_neg (by decide), if_neg (by decide), if_pos rfl, inR_true]
  omega
theorem valOk_ref' {n : Nat} {a : Int} (h : valOk n 2 a = true) : 0 ≤ a ∧ a < (n : Int) := by
  unfold valOk at h
  rw [if_neg (by decide), if_neg (by decide), if_pos rfl, inR_true] at h
  omega
theorem valOk_else {n n' : Int} {k a : Int} (hk : k ≠ 2) (h : valOk n k a = true) : valOk n' k a = true := by
  unfold valOk at h ⊢
  split at h
  · rename_i e; rw [if_pos e]; exact h
  · rename_i e; rw [if_neg e]
    split at h
    · rename_i e1; rw [if_pos e1]; exact h
    · cases h
theorem vals_append {n : Int} {l l' : List (Int × Int)} (h : valsOk n l = true) (h' : valsOk n l' = true) : valsOk n (l ++ l') = true := by
  rw [valsOk_iff] at *
  intro v hv
  rcases List.mem_append.1 hv with q | q
  · exact h v q
  · exact h' v q
theorem vals_one {n : Int} {v : Int × Int} (h : valOk n v.1 v.2 = true) : valsOk n [v] = true := by
  rw [valsOk_iff]
  intro u hu
  simp at hu
  subst hu
  exact h
theorem cur_at {h : Hp} {j : Nat} (hn : h.now = j) (hj : j < h.calls.length) : curC h = h.calls[j] := by
  unfold curC
  simp [hn, hj]
theorem Good.set {ms : Ms} {h : Hp} (g : Good ms h) {j : Nat} (_hj : j < h.calls.length) {c : Cl} (hc : ClP ms h.calls.length c) {l : List Nat} (hw : Waits (h.calls.set j c) h.now l) : Good ms { h with calls := h.calls.set j c } := by
  have hl : (h.calls.set j c).length = h.calls.length := by simp
  refine ⟨⟨g.head.p, by simp only [hl]; exact g.head.now, g.head.born, by simp only [hl]; exact g.head.few, g.head.code, g.head.said, g.head.fin⟩, fun i hi => ?_, l, hw⟩
  simp only [hl] at hi ⊢
  by_cases e : j = i
  · subst e; simp only [List.getElem_set_self]; exact hc
  · rw [List.getElem_set_ne e]; exact g.cl i hi
theorem Good.code {ms : Ms} {h : Hp} (g : Good ms h) (hn : 0 ≤ h.now) {k : Int} (hk : k = 2 ∨ k = 3) : Good ms (codeH h k) :=
  ⟨⟨g.head.p, g.head.now, g.head.born, g.head.few, by unfold codeH; simp only []; omega, g.head.said, ⟨fun e => by unfold codeH at e; simp only [] at e; omega, fun e => by unfold codeH at e; simp only [] at e; omega⟩⟩, g.cl, g.w⟩
theorem Good.die {ms : Ms} {h : Hp} (g : Good ms h) {j : Nat} (hj : j < h.calls.length) : ClP ms h.calls.length (dieC h.calls[j]) := by
  have c := g.cl j hj
  exact ⟨c.m, c.pc, c.t, by simp [dieC], by simp [dieC]; omega, c.vt, rfl, fun _ => ⟨rfl, rfl⟩⟩
theorem Good.leave {ms : Ms} {h : Hp} (g : Good ms h) {j : Nat} (hn : h.now = j) (hj : j < h.calls.length) (hs : 0 ≤ h.calls[j].sender) (hc : h.code = 0) : Good ms (leaveH h) := by
  obtain ⟨l, hw⟩ := g.w
  rw [hn] at hw
  obtain ⟨t, _, hw', _⟩ := hw.leave hj (dieC h.calls[j]) rfl
  have e : h.now.toNat = j := by omega
  have hl : (h.calls.set j (dieC h.calls[j])).length = h.calls.length := by simp
  have c := g.cl j hj
  unfold leaveH setH
  rw [cur_at hn hj, e]
  refine ⟨⟨g.head.p, ?_, g.head.born, by simp only [hl]; exact g.head.few, g.head.code, g.head.said, ⟨fun e => by simp only [] at e; omega, fun e => by simp only [] at e; omega⟩⟩, fun i hi => ?_, t, hw'⟩
  · simp only [hl]; have := c.sd; omega
  · simp only [hl] at hi ⊢
    by_cases e : j = i
    · subst e; simp only [List.getElem_set_self]; exact g.die hj
    · rw [List.getElem_set_ne e]; exact g.cl i hi
theorem vals_say {ms : Ms} {h : Hp} (g : Good ms h) {v : Int × Int} (hv : valOk h.calls.length v.1 v.2 = true) : valOk ms.length (sayV h v).1 (sayV h v).2 = true := by
  unfold sayV
  by_cases e : v.1 = 2
  · rw [if_pos e]
    rw [e] at hv
    have hr := valOk_ref' hv
    have hlt : v.2.toNat < h.calls.length := by omega
    rw [show h.calls.getD v.2.toNat Cl.none = h.calls[v.2.toNat] by simp [hlt]]
    have := (g.cl _ hlt).m
    exact valOk_ref this.1 this.2
  · rw [if_neg e]
    exact valOk_else e hv
theorem Good.fin {ms : Ms} {h : Hp} (g : Good ms h) {j : Nat} (hn : h.now = j) (hj : j < h.calls.length) (hs : h.calls[j].sender < 0) {v : Int × Int} (hv : valOk h.calls.length v.1 v.2 = true) : Good ms (codeH (sayH (leaveH h) v) 1) := by
  obtain ⟨l, hw⟩ := g.w
  rw [hn] at hw
  obtain ⟨t, _, hw', _⟩ := hw.leave hj (dieC h.calls[j]) rfl
  have e : h.now.toNat = j := by omega
  have hl : (h.calls.set j (dieC h.calls[j])).length = h.calls.length := by simp
  have c := g.cl j hj
  have hsay : sayV (leaveH h) v = sayV h v := by
    unfold sayV
    by_cases e2 : v.1 = 2
    · rw [if_pos e2, if_pos e2]
      congr 1
      unfold leaveH setH
      rw [cur_at hn hj, e]
      by_cases e3 : j = v.2.toNat
      · rw [← e3]; simp [hj, dieC]
      · simp [List.getElem?_set_ne e3]
    · rw [if_neg e2, if_neg e2]
  unfold codeH sayH
  rw [hsay]
  unfold leaveH setH
  rw [cur_at hn hj, e]
  refine ⟨⟨g.head.p, ?_, g.head.born, by simp only [hl]; exact g.head.few, by simp, vals_append g.head.said (vals_one (vals_say g hv)), ⟨fun _ => hs, fun _ => rfl⟩⟩, fun i hi => ?_, t, hw'⟩
  · simp only [hl]; have := c.sd; omega
  · simp only [hl] at hi ⊢
    by_cases e : j = i
    · subst e; simp only [List.getElem_set_self]; exact g.die hj
    · rw [List.getElem_set_ne e]; exact g.cl i hi
end Go.Proofs.YtmifhlkcceafkaaGreat

/-
  An ok heap that runs is ok behind one operation, and behind any number. Nothing of the translation is used here.
-/
namespace Go.Proofs.YtmifhlkcceafkaaGreat
end Go.Proofs.YtmifhlkcceafkaaGreat

/-
  Many operations of a heap, in plain words: how much is said, how long its lists are. Nothing of the translation is used here.
-/
namespace Go.Proofs.YtmifhlkcceafkaaGreat
end Go.Proofs.YtmifhlkcceafkaaGreat

/-
  Many operations of a heap, in plain words: how many calls there are, what was said stays, how many were born. Nothing of the translation is used here.
-/
namespace Go.Proofs.YtmifhlkcceafkaaGreat
end Go.Proofs.YtmifhlkcceafkaaGreat

/-
  Many operations of a heap, in plain words: when it is full, what stays of each call, operations cut anywhere. Nothing of the translation is used here.
-/
namespace Go.Proofs.YtmifhlkcceafkaaGreat
end Go.Proofs.YtmifhlkcceafkaaGreat

/-
  What is seen of a heap, in plain words: the calls that can be come to, as they are come to, with the numbers that they have in this order. Nothing of the translation is used here.
-/
namespace Go.Proofs.YtmifhlkcceafkaaGreat
open Go.RowKit
def numOf (ps : List Nat) (p : Int) : Int := match ps.findIdx? (fun (q : Nat) => (q : Int) == p) with
  | some i => (i : Int)
  | none => -1
def comeP (n : Nat) (ps : List Nat) (p : Int) : List Nat := if 0 ≤ p ∧ p < (n : Int) ∧ numOf ps p = -1 then ps ++ [p.toNat] else ps
def comeV (n : Nat) (ps : List Nat) (vs : List (Int × Int)) : List Nat := vs.foldl (fun ps v => if v.1 = 2 then comeP n ps v.2 else ps) ps
def comeC (n : Nat) (ps : List Nat) (c : Cl) : List Nat := comeV n (comeV n (comeP n ps c.sender) c.temps) c.stack
def foundF (cs : List Cl) : Nat → Nat → List Nat → List Nat
  | 0, _, ps => ps
  | f + 1, j, ps => if h : j < ps.length then foundF cs f (j + 1) (comeC cs.length ps (cs.getD ps[j] Cl.none)) else ps
def found (h : Hp) : List Nat := foundF h.calls h.calls.length 0 (comeP h.calls.length [] h.now)
end Go.Proofs.YtmifhlkcceafkaaGreat

/-
  What is seen, looked at once more, is seen as it is; who called is seen where who was called is. Nothing of the translation is used here.
-/
namespace Go.Proofs.YtmifhlkcceafkaaGreat
open Go.RowKit
end Go.Proofs.YtmifhlkcceafkaaGreat

/-
  Calls are called by calls that were born ahead of them: so those behind the one that runs have returned. Nothing of the translation is used here.
-/
namespace Go.Proofs.YtmifhlkcceafkaaGreat
theorem Good.few {ms : Ms} {h : Hp} (g : Good ms h) : ∀ v ∈ h.said, Few v := by
  intro v hv
  have hp := g.head.p
  have h1 := List.all_eq_true.1 g.head.said v hv
  unfold progOk at hp
  simp only [Bool.and_eq_true, inR_true] at hp
  have hm := hp.1.1
  unfold valOk at h1
  unfold Few
  split at h1
  · have := beq_iff_eq.1 h1
    omega
  · split at h1
    · rw [inR_true] at h1; omega
    · split at h1
      · rw [inR_true] at h1; omega
      · cases h1
end Go.Proofs.YtmifhlkcceafkaaGreat
