/-
  What is seen of a heap, in plain words: the calls that can be come to, as they are come to, with the numbers that they have in this order. Nothing of the translation is used here.
-/
import Derived.Test.YtfpodljalccpnaaHImpl5
import Derived.Test.YtfpodljalccpnaaStepS

namespace Go.Proofs.Ytfpodljalccpnaa
open Go.RowKit
def numOf (ps : List Nat) (p : Int) : Int := match ps.findIdx? (fun (q : Nat) => (q : Int) == p) with
  | some i => (i : Int)
  | none => -1
theorem numOf_ge (ps : List Nat) (p : Int) : -1 ≤ numOf ps p := by
  unfold numOf
  split <;> omega
theorem numOf_none {ps : List Nat} {p : Int} (h : ∀ i, (hi : i < ps.length) → (ps[i] : Int) ≠ p) : numOf ps p = -1 := by
  unfold numOf
  have : ps.findIdx? (fun (q : Nat) => (q : Int) == p) = none := by
    rw [List.findIdx?_eq_none_iff]
    intro x hx
    obtain ⟨i, hi, rfl⟩ := List.getElem_of_mem hx
    simpa using h i hi
  rw [this]
theorem numOf_first {ps : List Nat} {p : Int} {i : Nat} (hi : i < ps.length) (h : (ps[i] : Int) = p) (hf : ∀ k, (hk : k < i) → ((ps[k]'(by omega) : Nat) : Int) ≠ p) : numOf ps p = i := by
  unfold numOf
  have : ps.findIdx? (fun (q : Nat) => (q : Int) == p) = some i := by
    rw [List.findIdx?_eq_some_iff_getElem]
    exact ⟨hi, by simpa using h, fun k hk => by simpa using hf k hk⟩
  rw [this]
theorem numOf_neg_iff {ps : List Nat} {p : Int} : numOf ps p = -1 ↔ ∀ i, (hi : i < ps.length) → (ps[i] : Int) ≠ p := by
  refine ⟨fun h i hi e => ?_, numOf_none⟩
  unfold numOf at h
  split at h
  · omega
  · rename_i hn
    rw [List.findIdx?_eq_none_iff] at hn
    have := hn ps[i] (List.getElem_mem hi)
    simp [e] at this
theorem numOf_snoc {ps : List Nat} {p : Nat} {q : Int} (h : numOf ps p = -1) : numOf (ps ++ [p]) q = if q = p then (ps.length : Int) else numOf ps q := by
  by_cases hq : q = p
  · subst hq
    rw [if_pos rfl]
    refine numOf_first (i := ps.length) (by simp) (by simp) (fun k hk => ?_)
    rw [List.getElem_append_left hk]
    exact numOf_neg_iff.1 h k hk
  · rw [if_neg hq]
    unfold numOf
    rw [List.findIdx?_append]
    have : [p].findIdx? (fun (x : Nat) => (x : Int) == q) = none := by
      rw [List.findIdx?_eq_none_iff]
      intro x hx
      simp at hx
      subst hx
      simp
      exact fun e => hq e.symm
    rw [this]
    simp
structure PsOk (n : Nat) (ps : List Nat) : Prop where
  nd : ps.Nodup
  lt : ∀ p ∈ ps, p < n
theorem PsOk.len {n : Nat} {ps : List Nat} (h : PsOk n ps) : ps.length ≤ n := by
  have := few_of_nodup ps (List.range n) h.nd (fun k hk => by simpa using h.lt k hk)
  simpa using this
def comeP (n : Nat) (ps : List Nat) (p : Int) : List Nat := if 0 ≤ p ∧ p < (n : Int) ∧ numOf ps p = -1 then ps ++ [p.toNat] else ps
theorem comeP_yes {n : Nat} {ps : List Nat} {p : Nat} (h1 : p < n) (h2 : numOf ps p = -1) : comeP n ps p = ps ++ [p] := by
  unfold comeP
  rw [if_pos ⟨by omega, by omega, h2⟩]
  simp
theorem comeP_out {n : Nat} {ps : List Nat} {p : Int} (h : ¬ (0 ≤ p ∧ p < (n : Int))) : comeP n ps p = ps := by
  unfold comeP
  rw [if_neg (fun e => h ⟨e.1, e.2.1⟩)]
theorem comeP_in {n : Nat} {ps : List Nat} {p : Int} (h : numOf ps p ≠ -1) : comeP n ps p = ps := by
  unfold comeP
  rw [if_neg (fun e => h e.2.2)]
theorem PsOk.come {n : Nat} {ps : List Nat} (h : PsOk n ps) (p : Int) : PsOk n (comeP n ps p) := by
  unfold comeP
  split
  · rename_i hc
    obtain ⟨k, rfl⟩ := Int.eq_ofNat_of_zero_le hc.1
    have hk : k < n := by omega
    have hn := numOf_neg_iff.1 hc.2.2
    refine ⟨?_, fun q hq => ?_⟩
    · rw [List.nodup_append]
      refine ⟨h.nd, by simp, fun a ha b hb e => ?_⟩
      simp at hb
      subst hb e
      obtain ⟨i, hi, e⟩ := List.getElem_of_mem ha
      exact hn i hi (by rw [e])
    · simp at hq
      rcases hq with hq | rfl
      · exact h.lt q hq
      · exact hk
  · exact h
def comeV (n : Nat) (ps : List Nat) (vs : List (Int × Int)) : List Nat := vs.foldl (fun ps v => if v.1 = 2 then comeP n ps v.2 else ps) ps
theorem comeV_step {n : Nat} {ps : List Nat} {vs : List (Int × Int)} {k : Nat} (h : k < vs.length) : comeV n ps (vs.take (k + 1)) = if vs[k].1 = 2 then comeP n (comeV n ps (vs.take k)) vs[k].2 else comeV n ps (vs.take k) := by
  unfold comeV
  rw [List.take_add_one, List.getElem?_eq_getElem h, List.foldl_append]
  rfl
theorem PsOk.comeV {n : Nat} : ∀ (vs : List (Int × Int)) {ps : List Nat}, PsOk n ps → PsOk n (comeV n ps vs)
  | [], _, h => h
  | v :: r, ps, h => by
    show PsOk n (List.foldl _ (if v.1 = 2 then comeP n ps v.2 else ps) r)
    split
    · exact PsOk.comeV r (h.come v.2)
    · exact PsOk.comeV r h
theorem comeV_append (n : Nat) (ps : List Nat) (a b : List (Int × Int)) : comeV n ps (a ++ b) = comeV n (comeV n ps a) b := by
  unfold comeV
  rw [List.foldl_append]
def comeC (n : Nat) (ps : List Nat) (c : Cl) : List Nat := comeV n (comeV n (comeP n ps c.sender) c.temps) c.stack
theorem PsOk.comeC {n : Nat} {ps : List Nat} (h : PsOk n ps) (c : Cl) : PsOk n (comeC n ps c) := ((h.come c.sender).comeV c.temps).comeV c.stack
theorem come_pre (n : Nat) (ps : List Nat) (p : Int) : ∃ t, comeP n ps p = ps ++ t := by
  unfold comeP
  split
  · exact ⟨_, rfl⟩
  · exact ⟨[], by simp⟩
theorem comeV_pre (n : Nat) : ∀ (vs : List (Int × Int)) (ps : List Nat), ∃ t, comeV n ps vs = ps ++ t
  | [], ps => ⟨[], by simp [comeV]⟩
  | v :: r, ps => by
    obtain ⟨t, ht⟩ := comeV_pre n r (if v.1 = 2 then comeP n ps v.2 else ps)
    have e : comeV n ps (v :: r) = comeV n (if v.1 = 2 then comeP n ps v.2 else ps) r := rfl
    rw [e, ht]
    split
    · obtain ⟨t2, h2⟩ := come_pre n ps v.2
      exact ⟨t2 ++ t, by rw [h2, List.append_assoc]⟩
    · exact ⟨t, rfl⟩
theorem comeC_pre (n : Nat) (ps : List Nat) (c : Cl) : ∃ t, comeC n ps c = ps ++ t := by
  obtain ⟨t1, h1⟩ := come_pre n ps c.sender
  obtain ⟨t2, h2⟩ := comeV_pre n c.temps (comeP n ps c.sender)
  obtain ⟨t3, h3⟩ := comeV_pre n c.stack (comeV n (comeP n ps c.sender) c.temps)
  exact ⟨t1 ++ (t2 ++ t3), by unfold comeC; rw [h3, h2, h1]; simp⟩
def foundF (cs : List Cl) : Nat → Nat → List Nat → List Nat
  | 0, _, ps => ps
  | f + 1, j, ps => if h : j < ps.length then foundF cs f (j + 1) (comeC cs.length ps (cs.getD ps[j] Cl.none)) else ps
def found (h : Hp) : List Nat := foundF h.calls h.calls.length 0 (comeP h.calls.length [] h.now)
theorem foundF_step {cs : List Cl} {j : Nat} {ps : List Nat} (hps : PsOk cs.length ps) (hj : j < ps.length) (hp : ps[j] < cs.length) :
    foundF cs (cs.length - j) j ps = foundF cs (cs.length - (j + 1)) (j + 1) (comeC cs.length ps cs[ps[j]]) := by
  have := hps.len
  rw [show cs.length - j = (cs.length - (j + 1)) + 1 by omega]
  show (if h : j < ps.length then foundF cs (cs.length - (j + 1)) (j + 1) (comeC cs.length ps (cs.getD ps[j] Cl.none)) else ps) = _
  rw [dif_pos hj]
  simp [hp]
theorem foundF_end {cs : List Cl} {j : Nat} {ps : List Nat} (f : Nat) (hj : ¬ j < ps.length) : foundF cs f j ps = ps := by
  cases f with
  | zero => rfl
  | succ f =>
    show (if h : j < ps.length then _ else ps) = ps
    rw [dif_neg hj]
def ren (ps : List Nat) (v : Int × Int) : Int × Int := if v.1 = 2 then (2, numOf ps v.2) else v
def viewC (ps : List Nat) (c : Cl) : Cl := ⟨c.m, c.pc, c.temps.map (ren ps), c.stack.map (ren ps), numOf ps c.sender, c.dead⟩
def viewL (h : Hp) : List Cl := (found h).map fun p => viewC (found h) (h.calls.getD p Cl.none)
end Go.Proofs.Ytfpodljalccpnaa

/-
  Calls are called by calls that were born ahead of them: so those behind the one that runs have returned. Nothing of the translation is used here.
-/
namespace Go.Proofs.Ytfpodljalccpnaa
def Dn (h : Hp) : Prop := ∀ i, (hi : i < h.calls.length) → h.calls[i].sender < (i : Int)
theorem Dn.put {h : Hp} (d : Dn h) (j : Nat) (c : Cl) (hc : j < h.calls.length → c.sender < (j : Int)) : Dn { h with calls := h.calls.set j c } := fun i hi => by
  have hi' : i < h.calls.length := by simpa using hi
  by_cases e : j = i
  · subst e; simp only [List.getElem_set_self]; exact hc hi'
  · simp only [List.getElem_set_ne e]; exact d i hi'
theorem Dn.setCur {h : Hp} (d : Dn h) (c : Cl) (hc : c.sender = (curC h).sender ∨ c.sender < 0) : Dn (setH h c) := d.put _ _ fun hj => by
  rcases hc with hc | hc
  · rw [hc, curC, getD_at hj]; exact d _ hj
  · omega
theorem Dn.same {h h' : Hp} (d : Dn h) (e : h'.calls = h.calls) : Dn h' := fun i hi => by
  have h2 := d i (by rw [← e]; exact hi)
  simpa [e] using h2
theorem Dn.ite {c : Prop} [Decidable c] {a b : Hp} (h1 : Dn a) (h2 : Dn b) : Dn (if c then a else b) := by
  by_cases h : c
  · rw [if_pos h]; exact h1
  · rw [if_neg h]; exact h2
theorem Dn.push {h : Hp} (d : Dn h) (v : Int × Int) : Dn (pushH h v) := d.setCur _ (.inl rfl)
theorem Dn.leave {h : Hp} (d : Dn h) : Dn (leaveH h) := (d.setCur (dieC (curC h)) (.inr (show (-1 : Int) < 0 by decide))).same rfl
theorem Dn.backTo : ∀ (f : Nat) (h : Hp) (b : Nat), Dn h → Dn (backTo f h b)
  | 0, _, _, d => d
  | f + 1, h, b, d => by
    unfold Go.Proofs.Ytfpodljalccpnaa.backTo
    exact Dn.ite d (Dn.backTo f _ b d.leave)
theorem Dn.born {h : Hp} (d : Dn h) (hn : h.now < (h.calls.length : Int)) (c : Cl) (hc : c.sender = h.now) (n b : Int) : Dn { h with calls := h.calls ++ [c], now := n, born := b } := fun i hi => by
  by_cases e : i < h.calls.length
  · simp only [List.getElem_append_left e]; exact d i e
  · have e2 : i = h.calls.length := by simp at hi; omega
    subst e2
    simp only [List.getElem_append_right (Nat.le_refl _), Nat.sub_self, List.getElem_singleton]
    rw [hc]
    exact hn
theorem Dn.do {h : Hp} (d : Dn h) (hn : h.now < (h.calls.length : Int)) (ms : Ms) (k a : Int) (args : List (Int × Int)) : Dn (doH ms h k a args) := by
  unfold doH
  simp only []
  repeat' apply Dn.ite
  all_goals first
    | exact d.push _
    | exact d.setCur _ (.inl rfl)
    | exact d.born hn _ rfl _ _
    | exact d.leave.same rfl
    | exact d.leave.push _
    | exact (Dn.backTo _ _ _ d).push _
    | exact d.same rfl
    | exact d.put _ _ fun hj => by rw [getD_at hj]; exact d _ hj
theorem Dn.step {ms : Ms} {h : Hp} (d : Dn h) (hn : h.now < (h.calls.length : Int)) : Dn (stepH ms h) := by
  unfold stepH
  simp only []
  refine Dn.ite (d.same rfl) (Dn.ite (d.same rfl) (Dn.ite (d.same rfl) ?_))
  refine Dn.do ?_ ?_ _ _ _ _
  · exact d.setCur _ (.inl rfl)
  · rw [len_set]; exact hn
theorem Dn.run {ms : Ms} : ∀ (n : Nat) (h : Hp), Good ms h → Dn h → Dn (runH ms n h)
  | 0, _, _, d => d
  | n + 1, h, g, d => by
    unfold runH
    by_cases hc : h.code = 0
    · rw [if_pos hc]
      exact Dn.run n _ (g.step hc) (d.step (by have := g.head.now.2; omega))
    · rw [if_neg hc]; exact d
theorem walk_le {cs : List Cl} (d : ∀ i, (hi : i < cs.length) → cs[i].sender < (i : Int)) : ∀ (f : Nat) (a : Int) (l : List Nat), walkC cs f a = some l → ∀ k ∈ l, (k : Int) ≤ a
  | 0, a, l, e => by
    intro k hk
    by_cases ha : a < 0
    · rw [walkC_neg ha] at e; cases e; cases hk
    · rw [walkC_zero (by omega)] at e; cases e
  | f + 1, a, l, e => by
    intro k hk
    by_cases ha : a < 0
    · rw [walkC_neg ha] at e; cases e; cases hk
    obtain ⟨n, rfl⟩ := Int.eq_ofNat_of_zero_le (show 0 ≤ a by omega)
    by_cases hn : n < cs.length
    · cases hd : cs[n].dead
      · rw [walkC_step hn hd] at e
        cases ht : walkC cs f cs[n].sender with
        | none => rw [ht] at e; cases e
        | some t =>
          rw [ht] at e
          cases e
          rcases List.mem_cons.1 hk with rfl | hk
          · exact Int.le_refl _
          · have h1 := walk_le d f _ _ ht k hk
            have h2 := d n hn
            omega
      · rw [walkC_dead hn hd] at e; cases e
    · rw [walkC_past hn] at e; cases e
theorem Good.behind {ms : Ms} {h : Hp} (g : Good ms h) (d : Dn h) {i : Nat} (hi : i < h.calls.length) (h1 : h.now < (i : Int)) : h.calls[i].dead = true := by
  cases hd : h.calls[i].dead
  · obtain ⟨l, hw⟩ := g.w
    obtain ⟨f, hf⟩ := hw.ch
    have := walk_le d f _ _ hf i (hw.all i hi hd)
    omega
  · rfl
structure HpFine (h : Hp) : Prop where
  l30 : h.calls.length ≤ 30
  sd : h.said.length ≤ 100
  ts : ∀ c ∈ h.calls, c.temps.length ≤ 6 ∧ c.stack.length ≤ 6 ∧ -1 ≤ c.sender
  deep : deepOf h.calls h.now = (chainOf h.calls h.now).length
theorem fine_of {h : Hp} (n : Nat) (hn : h.calls.length = n) (h30 : n ≤ 30) (hsd : h.said.length ≤ 100) (ht : ∀ c ∈ h.calls, c.temps.length ≤ 6 ∧ c.stack.length ≤ 6 ∧ -1 ≤ c.sender ∧ c.sender < (n : Int)) (n0 : -1 ≤ h.now) (n1 : h.now ≤ (n : Int)) : HpFine h := by
  refine ⟨by omega, hsd, fun c hc => ⟨(ht c hc).1, (ht c hc).2.1, (ht c hc).2.2.1⟩, ?_⟩
  by_cases e : h.now = (n : Int)
  · unfold deepOf chainOf
    rw [deepC_out (by omega), e, walkC_past (by omega)]
    rfl
  · exact deepOf_chain (fun i hi => by have := ht _ (List.getElem_mem hi); omega) n0 (by omega)
theorem fine_tail {ms : Ms} {h : Hp} (g : Good ms h) (d : Dn h) (hsd : h.said.length ≤ 100) (ht : ∀ c ∈ h.calls, c.temps.length ≤ 6 ∧ c.stack.length ≤ 6 ∧ -1 ≤ c.sender ∧ c.sender < (h.calls.length : Int)) : HpFine { h with calls := h.calls.drop 1 } := by
  have h30 := g.lens.1
  refine ⟨by simp; omega, hsd, fun c hc => by have := ht c (List.mem_of_mem_drop hc); exact ⟨this.1, this.2.1, this.2.2.1⟩, ?_⟩
  show deepOf (h.calls.drop 1) h.now = (chainOf (h.calls.drop 1) h.now).length
  unfold deepOf chainOf
  by_cases ha : h.now < 0
  · rw [deepC_out (by omega), walkC_neg ha]; rfl
  obtain ⟨n, hn⟩ := Int.eq_ofNat_of_zero_le (show 0 ≤ h.now by omega)
  rw [hn]
  by_cases hl : n < (h.calls.drop 1).length
  · have hl' : 1 + n < h.calls.length := by simp at hl; omega
    have hd : (h.calls.drop 1)[n].dead = true := by
      rw [List.getElem_drop]
      exact g.behind d hl' (by omega)
    rw [deepC_dead hl hd, walkC_dead hl hd]; rfl
  · rw [deepC_out (by omega), walkC_past hl]; rfl
end Go.Proofs.Ytfpodljalccpnaa

/-
  What is seen, looked at once more, is seen as it is; who called is seen where who was called is. Nothing of the translation is used here.
-/
namespace Go.Proofs.Ytfpodljalccpnaa
open Go.RowKit
theorem numOf_get {ps : List Nat} {p : Int} (h : numOf ps p ≠ -1) : ∃ i, ∃ hi : i < ps.length, numOf ps p = (i : Int) ∧ (ps[i] : Int) = p := by
  unfold numOf at h ⊢
  cases e : ps.findIdx? (fun (q : Nat) => (q : Int) == p) with
  | none => rw [e] at h; exact absurd rfl h
  | some i =>
    rw [List.findIdx?_eq_some_iff_getElem] at e
    obtain ⟨hi, h1, _⟩ := e
    exact ⟨i, hi, rfl, by simpa using h1⟩
theorem numOf_mem {ps : List Nat} {p : Nat} (h : p ∈ ps) : numOf ps p ≠ -1 := fun e => by
  obtain ⟨i, hi, rfl⟩ := List.getElem_of_mem h
  exact numOf_neg_iff.1 e i hi rfl
theorem numOf_pre {ps : List Nat} (t : List Nat) {q : Int} (h : numOf ps q ≠ -1) : numOf (ps ++ t) q = numOf ps q := by
  unfold numOf at h ⊢
  cases e : ps.findIdx? (fun (q' : Nat) => (q' : Int) == q) with
  | none => rw [e] at h; exact absurd rfl h
  | some i => rw [List.findIdx?_append, e]; rfl
theorem numOf_range {m i : Nat} (h : i < m) : numOf (List.range m) (i : Int) = i :=
  numOf_first (i := i) (by simpa using h) (by simp) fun k hk => by simp; omega
theorem numOf_range_out {m : Nat} {i : Int} (h : ¬ (0 ≤ i ∧ i < (m : Int))) : numOf (List.range m) i = -1 := numOf_none fun k hk => by
  simp at hk ⊢
  omega
theorem numOf_twice (F : List Nat) (p : Int) : numOf (List.range F.length) (numOf F p) = numOf F p := by
  by_cases h : numOf F p = -1
  · rw [h]; exact numOf_range_out (by omega)
  · obtain ⟨i, hi, e, _⟩ := numOf_get h
    rw [e]; exact numOf_range hi
theorem come_again {n : Nat} {F : List Nat} (hF : PsOk n F) {ps : List Nat} {p : Int} (hpre : ∃ t, F = comeP n ps p ++ t) : comeP F.length (List.range ps.length) (numOf F p) = List.range (comeP n ps p).length := by
  by_cases hin : 0 ≤ p ∧ p < (n : Int)
  · obtain ⟨k, rfl⟩ := Int.eq_ofNat_of_zero_le hin.1
    have hk : k < n := by omega
    by_cases hnum : numOf ps k = -1
    · obtain ⟨t, ht⟩ := hpre
      rw [comeP_yes hk hnum] at ht ⊢
      have hl : ps.length < F.length := by rw [ht]; simp
      have e : numOf F k = (ps.length : Int) := by
        subst ht
        refine numOf_first (i := ps.length) hl (by simp) fun q hq => ?_
        rw [List.getElem_append_left (by simp; omega), List.getElem_append_left hq]
        exact numOf_neg_iff.1 hnum q hq
      rw [e, comeP_yes hl (numOf_range_out (by omega))]
      simp [List.range_succ]
    · obtain ⟨t, ht⟩ := hpre
      rw [comeP_in hnum] at ht ⊢
      obtain ⟨i, hi, e, _⟩ := numOf_get hnum
      rw [ht, numOf_pre t hnum, e, comeP_in (by rw [numOf_range hi]; omega)]
  · have e : numOf F p = -1 := numOf_none fun i hi e => by
      have := hF.lt _ (List.getElem_mem hi)
      omega
    rw [comeP_out hin, e, comeP_out (by omega)]
theorem comeV_again {n : Nat} {F : List Nat} (hF : PsOk n F) : ∀ (vs : List (Int × Int)) (ps : List Nat), (∃ t, F = comeV n ps vs ++ t) → comeV F.length (List.range ps.length) (vs.map (ren F)) = List.range (comeV n ps vs).length
  | [], _, _ => rfl
  | v :: r, ps, h => by
    have e1 : comeV n ps (v :: r) = comeV n (if v.1 = 2 then comeP n ps v.2 else ps) r := rfl
    have e2 : comeV F.length (List.range ps.length) ((v :: r).map (ren F)) = comeV F.length (if (ren F v).1 = 2 then comeP F.length (List.range ps.length) (ren F v).2 else List.range ps.length) (r.map (ren F)) := rfl
    rw [e1] at h ⊢
    rw [e2]
    by_cases hv : v.1 = 2
    · rw [if_pos hv] at h ⊢
      have hr : ren F v = (2, numOf F v.2) := if_pos hv
      rw [hr, if_pos rfl]
      obtain ⟨t, ht⟩ := h
      obtain ⟨t2, h2⟩ := comeV_pre n r (comeP n ps v.2)
      rw [come_again hF ⟨t2 ++ t, by rw [ht, h2, List.append_assoc]⟩]
      exact comeV_again hF r _ ⟨t, ht⟩
    · rw [if_neg hv] at h ⊢
      have hr : ren F v = v := if_neg hv
      rw [hr, if_neg hv]
      exact comeV_again hF r _ h
theorem comeC_again {n : Nat} {F : List Nat} (hF : PsOk n F) (ps : List Nat) (c : Cl) (h : ∃ t, F = comeC n ps c ++ t) : comeC F.length (List.range ps.length) (viewC F c) = List.range (comeC n ps c).length := by
  obtain ⟨t, ht⟩ := h
  obtain ⟨t2, h2⟩ := comeV_pre n c.temps (comeP n ps c.sender)
  obtain ⟨t3, h3⟩ := comeV_pre n c.stack (comeV n (comeP n ps c.sender) c.temps)
  unfold comeC at ht ⊢
  have p2 : F = comeV n (comeP n ps c.sender) c.temps ++ (t3 ++ t) := by rw [ht, h3, List.append_assoc]
  have p1 : F = comeP n ps c.sender ++ (t2 ++ (t3 ++ t)) := by rw [← List.append_assoc, ← h2]; exact p2
  show comeV F.length (comeV F.length (comeP F.length (List.range ps.length) (numOf F c.sender)) (c.temps.map (ren F))) (c.stack.map (ren F)) = _
  rw [come_again hF ⟨_, p1⟩, comeV_again hF _ _ ⟨_, p2⟩, comeV_again hF _ _ ⟨_, ht⟩]
theorem foundF_pre (cs : List Cl) : ∀ (f j : Nat) (ps : List Nat), ∃ t, foundF cs f j ps = ps ++ t
  | 0, _, _ => ⟨[], by simp [foundF]⟩
  | f + 1, j, ps => by
    show ∃ t, (if h : j < ps.length then foundF cs f (j + 1) (comeC cs.length ps (cs.getD ps[j] Cl.none)) else ps) = ps ++ t
    by_cases h : j < ps.length
    · rw [dif_pos h]
      obtain ⟨t1, h1⟩ := comeC_pre cs.length ps (cs.getD ps[j] Cl.none)
      obtain ⟨t2, h2⟩ := foundF_pre cs f (j + 1) (comeC cs.length ps (cs.getD ps[j] Cl.none))
      exact ⟨t1 ++ t2, by rw [h2, h1, List.append_assoc]⟩
    · rw [dif_neg h]; exact ⟨[], by simp⟩
theorem foundF_ok (cs : List Cl) : ∀ (f j : Nat) (ps : List Nat), PsOk cs.length ps → PsOk cs.length (foundF cs f j ps)
  | 0, _, _, h => h
  | f + 1, j, ps, h => by
    show PsOk cs.length (if h : j < ps.length then foundF cs f (j + 1) (comeC cs.length ps (cs.getD ps[j] Cl.none)) else ps)
    by_cases e : j < ps.length
    · rw [dif_pos e]; exact foundF_ok cs f _ _ (h.comeC _)
    · rw [dif_neg e]; exact h
theorem found_ok (h : Hp) : PsOk h.calls.length (found h) := foundF_ok _ _ _ _ (PsOk.come ⟨List.nodup_nil, fun _ hp => by cases hp⟩ _)
theorem foundF_again {cs : List Cl} {F : List Nat} (hF : PsOk cs.length F) : ∀ (k j : Nat) (ps : List Nat), k = cs.length - j → PsOk cs.length ps → foundF cs (cs.length - j) j ps = F →
    foundF (F.map fun p => viewC F (cs.getD p Cl.none)) (F.length - j) j (List.range ps.length) = List.range F.length
  | k, j, ps, hk, hps, e => by
    by_cases hj : j < ps.length
    · have hp : ps[j] < cs.length := hps.lt _ (List.getElem_mem hj)
      have hjn : j < cs.length := by have := hps.len; omega
      rw [foundF_step hps hj hp] at e
      obtain ⟨t1, h1⟩ := comeC_pre cs.length ps cs[ps[j]]
      obtain ⟨t2, h2⟩ := foundF_pre cs (cs.length - (j + 1)) (j + 1) (comeC cs.length ps cs[ps[j]])
      rw [e] at h2
      have hF1 : F = ps ++ (t1 ++ t2) := by rw [h2, h1, List.append_assoc]
      have hlF : ps.length ≤ F.length := by rw [hF1]; simp
      have hjF : j < F.length := by omega
      have hFj : F[j] = ps[j] := by simp only [hF1]; rw [List.getElem_append_left hj]
      have hcl : (F.map fun p => viewC F (cs.getD p Cl.none)).length = F.length := by simp
      have hR : PsOk (F.map fun p => viewC F (cs.getD p Cl.none)).length (List.range ps.length) := ⟨List.nodup_range, fun p hp => by rw [hcl]; simp at hp; omega⟩
      have hjr : j < (List.range ps.length).length := by simpa using hj
      have st := foundF_step hR hjr (by rw [hcl]; simp; omega)
      have hcj : (F.map fun p => viewC F (cs.getD p Cl.none))[(List.range ps.length)[j]]'(by rw [hcl]; simp; omega) = viewC F cs[ps[j]] := by
        simp [hFj, hp]
      rw [hcj, hcl] at st
      rw [st, comeC_again hF ps _ ⟨t2, h2⟩]
      exact foundF_again hF (k - 1) (j + 1) _ (by omega) (hps.comeC _) e
    · rw [foundF_end _ hj] at e
      subst e
      rw [foundF_end _ (by simpa using hj)]
  termination_by k => k
  decreasing_by omega
theorem found_first {h : Hp} (hne : found h ≠ []) : ∃ k : Nat, h.now = k ∧ k < h.calls.length ∧ comeP h.calls.length [] h.now = [k] := by
  by_cases hin : 0 ≤ h.now ∧ h.now < (h.calls.length : Int)
  · obtain ⟨k, hk⟩ := Int.eq_ofNat_of_zero_le hin.1
    have hn : numOf [] (k : Int) = -1 := rfl
    exact ⟨k, hk, by omega, by rw [hk, comeP_yes (by omega) hn]; rfl⟩
  · refine absurd ?_ hne
    unfold found
    rw [comeP_out hin, foundF_end _ (by simp)]
theorem viewC_again (F : List Nat) (c : Cl) : viewC (List.range F.length) (viewC F c) = viewC F c := by
  have hr : ∀ v, ren (List.range F.length) (ren F v) = ren F v := fun v => by
    unfold ren
    by_cases hv : v.1 = 2
    · simp [hv, numOf_twice]
    · simp [hv]
  simp only [viewC, numOf_twice, List.map_map]
  congr 1
  · exact List.map_congr_left fun v _ => hr v
  · exact List.map_congr_left fun v _ => hr v
theorem viewL_len (h : Hp) : (viewL h).length = (found h).length := by simp [viewL]
theorem found_again {h : Hp} (hne : found h ≠ []) (b : Int) (s : List (Int × Int)) (c : Int) : found ⟨viewL h, 0, b, s, c⟩ = List.range (found h).length := by
  obtain ⟨k, hk, hkl, hc⟩ := found_first hne
  have hF := found_ok h
  have hl : 0 < (found h).length := List.length_pos_iff.2 hne
  have := foundF_again hF (h.calls.length - 0) 0 [k] rfl (by rw [← hc]; exact PsOk.come ⟨List.nodup_nil, fun _ hp => by cases hp⟩ _) (by rw [← hc]; rfl)
  unfold found
  have e : comeP (viewL h).length [] 0 = List.range [k].length := by
    rw [viewL_len]
    exact comeP_yes (p := 0) hl rfl
  show foundF (viewL h) (viewL h).length 0 (comeP (viewL h).length [] 0) = List.range (found h).length
  rw [e, viewL_len]
  exact this
theorem view_again {h : Hp} (hne : found h ≠ []) (b : Int) (s : List (Int × Int)) (c : Int) : viewL ⟨viewL h, 0, b, s, c⟩ = viewL h := by
  have e := found_again hne b s c
  unfold viewL at e ⊢
  simp only at e ⊢
  rw [e]
  refine List.ext_getElem (by simp) fun i h1 h2 => ?_
  have hi : i < (found h).length := by simpa using h2
  simp only [List.getElem_map, List.getElem_range]
  have : (List.map (fun p => viewC (found h) (h.calls.getD p Cl.none)) (found h)).getD i Cl.none = viewC (found h) (h.calls.getD (found h)[i] Cl.none) := by simp [hi]
  rw [this]
  exact viewC_again _ _
def SndIn (cs : List Cl) (ps : List Nat) (p : Nat) : Prop := 0 ≤ (cs.getD p Cl.none).sender → (cs.getD p Cl.none).sender < (cs.length : Int) → numOf ps (cs.getD p Cl.none).sender ≠ -1
theorem SndIn.more {cs : List Cl} {ps : List Nat} {p : Nat} (h : SndIn cs ps p) (t : List Nat) : SndIn cs (ps ++ t) p := fun h0 h1 => by
  rw [numOf_pre t (h h0 h1)]; exact h h0 h1
theorem come_in {n : Nat} {ps : List Nat} {p : Int} (h0 : 0 ≤ p) (h1 : p < (n : Int)) : numOf (comeP n ps p) p ≠ -1 := by
  obtain ⟨k, rfl⟩ := Int.eq_ofNat_of_zero_le h0
  by_cases e : numOf ps k = -1
  · rw [comeP_yes (by omega) e, numOf_snoc e, if_pos rfl]; omega
  · rw [comeP_in e]; exact e
theorem foundF_sender {cs : List Cl} : ∀ (k j : Nat) (ps : List Nat), k = cs.length - j → PsOk cs.length ps → (∀ i, (hi : i < ps.length) → i < j → SndIn cs ps ps[i]) → ∀ p ∈ foundF cs (cs.length - j) j ps, SndIn cs (foundF cs (cs.length - j) j ps) p
  | k, j, ps, hk, hps, hin => by
    by_cases hj : j < ps.length
    · have hp : ps[j] < cs.length := hps.lt _ (List.getElem_mem hj)
      have hjn : j < cs.length := by have := hps.len; omega
      rw [foundF_step hps hj hp]
      obtain ⟨t1, h1⟩ := comeC_pre cs.length ps cs[ps[j]]
      refine foundF_sender (k - 1) (j + 1) _ (by omega) (hps.comeC _) fun i hi hij => ?_
      have hip : i < ps.length := by omega
      have he : (comeC cs.length ps cs[ps[j]])[i] = ps[i] := by simp only [h1]; rw [List.getElem_append_left hip]
      rw [he]
      by_cases e : i = j
      · subst e
        obtain ⟨t2, h2⟩ := comeV_pre cs.length cs[ps[i]].temps (comeP cs.length ps cs[ps[i]].sender)
        obtain ⟨t3, h3⟩ := comeV_pre cs.length cs[ps[i]].stack (comeV cs.length (comeP cs.length ps cs[ps[i]].sender) cs[ps[i]].temps)
        have e4 : comeC cs.length ps cs[ps[i]] = comeP cs.length ps cs[ps[i]].sender ++ (t2 ++ t3) := by unfold comeC; rw [h3, h2, List.append_assoc]
        rw [e4]
        refine SndIn.more (fun h0 h1 => ?_) _
        have eg : cs.getD ps[i] Cl.none = cs[ps[i]] := by simp [hp]
        rw [eg] at h0 h1 ⊢
        exact come_in h0 h1
      · rw [h1]
        exact (hin i hip (by omega)).more _
    · rw [foundF_end _ hj]
      intro p hp
      obtain ⟨i, hi, rfl⟩ := List.getElem_of_mem hp
      exact hin i hi (by omega)
  termination_by k => k
  decreasing_by omega
theorem found_sender (h : Hp) : ∀ p ∈ found h, SndIn h.calls (found h) p :=
  foundF_sender (h.calls.length - 0) 0 _ rfl (PsOk.come ⟨List.nodup_nil, fun _ hp => by cases hp⟩ _) fun i _ hij => absurd hij (Nat.not_lt_zero _)
theorem walk_view {h : Hp} : ∀ (f : Nat) (a : Int) (l : List Nat), walkC h.calls f a = some l → (0 ≤ a → numOf (found h) a ≠ -1) → walkC (viewL h) f (numOf (found h) a) = some (l.map fun (p : Nat) => (numOf (found h) p).toNat)
  | 0, a, l, e, _ => by
    by_cases ha : a < 0
    · rw [walkC_neg ha] at e
      cases e
      rw [walkC_neg]
      · rfl
      · rw [numOf_none fun i hi => by omega]; omega
    · rw [walkC_zero (by omega)] at e; cases e
  | f + 1, a, l, e, hin => by
    by_cases ha : a < 0
    · rw [walkC_neg ha] at e
      cases e
      rw [walkC_neg]
      · rfl
      · rw [numOf_none fun i hi => by omega]; omega
    obtain ⟨n, rfl⟩ := Int.eq_ofNat_of_zero_le (show 0 ≤ a by omega)
    obtain ⟨i, hi, e1, e2⟩ := numOf_get (hin (by omega))
    have e2' : (found h)[i] = n := by omega
    have hn : n < h.calls.length := by rw [← e2']; exact (found_ok h).lt _ (List.getElem_mem hi)
    have hiv : i < (viewL h).length := by rw [viewL_len]; exact hi
    have hv : (viewL h)[i] = viewC (found h) h.calls[n] := by
      unfold viewL
      simp [e2', hn]
    cases hd : h.calls[n].dead
    · rw [walkC_step hn hd] at e
      cases ht : walkC h.calls f h.calls[n].sender with
      | none => rw [ht] at e; cases e
      | some t =>
        rw [ht] at e
        obtain rfl : n :: t = l := Option.some.inj e
        rw [e1, walkC_step hiv (by rw [hv]; exact hd), hv]
        show Option.map _ (walkC (viewL h) f (numOf (found h) h.calls[n].sender)) = _
        rw [walk_view f _ _ ht fun h0 => ?_]
        · simp [e1]
        · have hs : h.calls[n].sender < (h.calls.length : Int) := by
            by_cases hq : h.calls[n].sender < (h.calls.length : Int)
            · exact hq
            · obtain ⟨q, hq'⟩ := Int.eq_ofNat_of_zero_le h0
              rw [hq', walkC_past (by omega)] at ht
              cases ht
          have := found_sender h n (by rw [← e2']; exact List.getElem_mem hi)
          unfold SndIn at this
          rw [show h.calls.getD n Cl.none = h.calls[n] by simp [hn]] at this
          exact this h0 hs
    · rw [walkC_dead hn hd] at e; cases e
end Go.Proofs.Ytfpodljalccpnaa
