/-
  What is seen of a heap, in plain words: the calls that can be come to, as they are come to, with the numbers that they have in this order. Nothing of the translation is used here.
-/
import Derived.Test.YtldiccheboipeaaHImpl5
namespace Go.Proofs.Ytldiccheboipeaa
open Go.RowKit

/-- where a call stands among those that were come to; -1, if it was not -/
def numOf (ps : List Nat) (p : Int) : Int := match ps.findIdx? (fun (q : Nat) => (q : Int) == p) with
  | some i => (i : Int)
  | none => -1

theorem numOf_ge (ps : List Nat) (p : Int) : -1 ≤ numOf ps p := by
  unfold numOf
  split <;> omega

theorem numOf_none {ps : List Nat} {p : Int} (h : ∀ i, (hi : i < ps.length) → (ps[i] : Int) ≠ p) : numOf ps p = -1 := by
  unfold numOf
  have : ps.findIdx? (fun (q : Nat) => (q : Int) == p) = none := by
    rw [List.findIdx?_eq_none_iff]
    intro x hx
    obtain ⟨i, hi, rfl⟩ := List.getElem_of_mem hx
    simpa using h i hi
  rw [this]

theorem numOf_first {ps : List Nat} {p : Int} {i : Nat} (hi : i < ps.length) (h : (ps[i] : Int) = p) (hf : ∀ k, (hk : k < i) → ((ps[k]'(by omega) : Nat) : Int) ≠ p) : numOf ps p = i := by
  unfold numOf
  have : ps.findIdx? (fun (q : Nat) => (q : Int) == p) = some i := by
    rw [List.findIdx?_eq_some_iff_getElem]
    exact ⟨hi, by simpa using h, fun k hk => by simpa using hf k hk⟩
  rw [this]

theorem numOf_neg_iff {ps : List Nat} {p : Int} : numOf ps p = -1 ↔ ∀ i, (hi : i < ps.length) → (ps[i] : Int) ≠ p := by
  refine ⟨fun h i hi e => ?_, numOf_none⟩
  unfold numOf at h
  split at h
  · omega
  · rename_i hn
    rw [List.findIdx?_eq_none_iff] at hn
    have := hn ps[i] (List.getElem_mem hi)
    simp [e] at this

theorem numOf_snoc {ps : List Nat} {p : Nat} {q : Int} (h : numOf ps p = -1) : numOf (ps ++ [p]) q = if q = p then (ps.length : Int) else numOf ps q := by
  by_cases hq : q = p
  · subst hq
    rw [if_pos rfl]
    refine numOf_first (i := ps.length) (by simp) (by simp) (fun k hk => ?_)
    rw [List.getElem_append_left hk]
    exact numOf_neg_iff.1 h k hk
  · rw [if_neg hq]
    unfold numOf
    rw [List.findIdx?_append]
    have : [p].findIdx? (fun (x : Nat) => (x : Int) == q) = none := by
      rw [List.findIdx?_eq_none_iff]
      intro x hx
      simp at hx
      subst hx
      simp
      exact fun e => hq e.symm
    rw [this]
    simp

/-- places that were come to: no two the same, all there -/
structure PsOk (n : Nat) (ps : List Nat) : Prop where
  nd : ps.Nodup
  lt : ∀ p ∈ ps, p < n

theorem PsOk.len {n : Nat} {ps : List Nat} (h : PsOk n ps) : ps.length ≤ n := by
  have := few_of_nodup ps (List.range n) h.nd (fun k hk => by simpa using h.lt k hk)
  simpa using this

/-- one comes to a call -/
def comeP (n : Nat) (ps : List Nat) (p : Int) : List Nat := if 0 ≤ p ∧ p < (n : Int) ∧ numOf ps p = -1 then ps ++ [p.toNat] else ps

theorem comeP_yes {n : Nat} {ps : List Nat} {p : Nat} (h1 : p < n) (h2 : numOf ps p = -1) : comeP n ps p = ps ++ [p] := by
  unfold comeP
  rw [if_pos ⟨by omega, by omega, h2⟩]
  simp
theorem comeP_out {n : Nat} {ps : List Nat} {p : Int} (h : ¬ (0 ≤ p ∧ p < (n : Int))) : comeP n ps p = ps := by
  unfold comeP
  rw [if_neg (fun e => h ⟨e.1, e.2.1⟩)]
theorem comeP_in {n : Nat} {ps : List Nat} {p : Int} (h : numOf ps p ≠ -1) : comeP n ps p = ps := by
  unfold comeP
  rw [if_neg (fun e => h e.2.2)]

theorem PsOk.come {n : Nat} {ps : List Nat} (h : PsOk n ps) (p : Int) : PsOk n (comeP n ps p) := by
  unfold comeP
  split
  · rename_i hc
    obtain ⟨k, rfl⟩ := Int.eq_ofNat_of_zero_le hc.1
    have hk : k < n := by omega
    have hn := numOf_neg_iff.1 hc.2.2
    refine ⟨?_, fun q hq => ?_⟩
    · rw [List.nodup_append]
      refine ⟨h.nd, by simp, fun a ha b hb e => ?_⟩
      simp at hb
      subst hb e
      obtain ⟨i, hi, e⟩ := List.getElem_of_mem ha
      exact hn i hi (by rw [e])
    · simp at hq
      rcases hq with hq | rfl
      · exact h.lt q hq
      · exact hk
  · exact h

/-- one comes to the calls among values -/
def comeV (n : Nat) (ps : List Nat) (vs : List (Int × Int)) : List Nat := vs.foldl (fun ps v => if v.1 = 2 then comeP n ps v.2 else ps) ps

theorem comeV_nil (n : Nat) (ps : List Nat) : comeV n ps [] = ps := rfl
theorem comeV_step {n : Nat} {ps : List Nat} {vs : List (Int × Int)} {k : Nat} (h : k < vs.length) : comeV n ps (vs.take (k + 1)) = if vs[k].1 = 2 then comeP n (comeV n ps (vs.take k)) vs[k].2 else comeV n ps (vs.take k) := by
  unfold comeV
  rw [List.take_add_one, List.getElem?_eq_getElem h, List.foldl_append]
  rfl
theorem PsOk.comeV {n : Nat} : ∀ (vs : List (Int × Int)) {ps : List Nat}, PsOk n ps → PsOk n (comeV n ps vs)
  | [], _, h => h
  | v :: r, ps, h => by
    show PsOk n (List.foldl _ (if v.1 = 2 then comeP n ps v.2 else ps) r)
    split
    · exact PsOk.comeV r (h.come v.2)
    · exact PsOk.comeV r h
theorem comeV_append (n : Nat) (ps : List Nat) (a b : List (Int × Int)) : comeV n ps (a ++ b) = comeV n (comeV n ps a) b := by
  unfold comeV
  rw [List.foldl_append]

/-- one comes to the calls that a call tells of -/
def comeC (n : Nat) (ps : List Nat) (c : Cl) : List Nat := comeV n (comeV n (comeP n ps c.sender) c.temps) c.stack
theorem PsOk.comeC {n : Nat} {ps : List Nat} (h : PsOk n ps) (c : Cl) : PsOk n (comeC n ps c) := ((h.come c.sender).comeV c.temps).comeV c.stack

theorem come_pre (n : Nat) (ps : List Nat) (p : Int) : ∃ t, comeP n ps p = ps ++ t := by
  unfold comeP
  split
  · exact ⟨_, rfl⟩
  · exact ⟨[], by simp⟩
theorem comeV_pre (n : Nat) : ∀ (vs : List (Int × Int)) (ps : List Nat), ∃ t, comeV n ps vs = ps ++ t
  | [], ps => ⟨[], by simp [comeV]⟩
  | v :: r, ps => by
    obtain ⟨t, ht⟩ := comeV_pre n r (if v.1 = 2 then comeP n ps v.2 else ps)
    have e : comeV n ps (v :: r) = comeV n (if v.1 = 2 then comeP n ps v.2 else ps) r := rfl
    rw [e, ht]
    split
    · obtain ⟨t2, h2⟩ := come_pre n ps v.2
      exact ⟨t2 ++ t, by rw [h2, List.append_assoc]⟩
    · exact ⟨t, rfl⟩
theorem comeC_pre (n : Nat) (ps : List Nat) (c : Cl) : ∃ t, comeC n ps c = ps ++ t := by
  obtain ⟨t1, h1⟩ := come_pre n ps c.sender
  obtain ⟨t2, h2⟩ := comeV_pre n c.temps (comeP n ps c.sender)
  obtain ⟨t3, h3⟩ := comeV_pre n c.stack (comeV n (comeP n ps c.sender) c.temps)
  exact ⟨t1 ++ (t2 ++ t3), by unfold comeC; rw [h3, h2, h1]; simp⟩

/-- from place j on all calls are looked at -/
def foundF (cs : List Cl) : Nat → Nat → List Nat → List Nat
  | 0, _, ps => ps
  | f + 1, j, ps => if h : j < ps.length then foundF cs f (j + 1) (comeC cs.length ps (cs.getD ps[j] Cl.none)) else ps

/-- the calls that can be come to, as they are come to -/
def found (h : Hp) : List Nat := foundF h.calls h.calls.length 0 (comeP h.calls.length [] h.now)

theorem foundF_step {cs : List Cl} {j : Nat} {ps : List Nat} (hps : PsOk cs.length ps) (hj : j < ps.length) (hp : ps[j] < cs.length) :
    foundF cs (cs.length - j) j ps = foundF cs (cs.length - (j + 1)) (j + 1) (comeC cs.length ps cs[ps[j]]) := by
  have := hps.len
  rw [show cs.length - j = (cs.length - (j + 1)) + 1 by omega]
  show (if h : j < ps.length then foundF cs (cs.length - (j + 1)) (j + 1) (comeC cs.length ps (cs.getD ps[j] Cl.none)) else ps) = _
  rw [dif_pos hj]
  simp [hp]
theorem foundF_end {cs : List Cl} {j : Nat} {ps : List Nat} (f : Nat) (hj : ¬ j < ps.length) : foundF cs f j ps = ps := by
  cases f with
  | zero => rfl
  | succ f =>
    show (if h : j < ps.length then _ else ps) = ps
    rw [dif_neg hj]

/-- a value, calls with the numbers that they have in this order -/
def ren (ps : List Nat) (v : Int × Int) : Int × Int := if v.1 = 2 then (2, numOf ps v.2) else v
def viewC (ps : List Nat) (c : Cl) : Cl := ⟨c.m, c.pc, c.temps.map (ren ps), c.stack.map (ren ps), numOf ps c.sender, c.dead⟩
/-- what is seen -/
def viewL (h : Hp) : List Cl := (found h).map fun p => viewC (found h) (h.calls.getD p Cl.none)

end Go.Proofs.Ytldiccheboipeaa
