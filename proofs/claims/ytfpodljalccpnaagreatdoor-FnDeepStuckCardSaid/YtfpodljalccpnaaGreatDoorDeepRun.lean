/-
  A program whose methods have right tables, as it runs: there are as many values as are told; it is stuck only where values are not of their kind, or a call has returned. Nothing of the translation is used here.
-/
import Derived.Test.YtfpodljalccpnaaGreatDoorDeep
import Derived.Test.YtfpodljalccpnaaGreatDoorStepS

namespace Go.Proofs.YtfpodljalccpnaaGreatDoor
open Go.RowKit
def TAt (ms : Ms) (F : Nat → List Int) (c : Cl) (e : Int) : Prop := c.pc < ((opsOf ms c.m).length : Int) ∧ gt (F c.m.toNat) c.pc = (c.stack.length : Int) + e
def WaitX (ms : Ms) (F : Nat → List Int) (h : Hp) (j : Nat) : Prop := ∀ (i : Nat) (c : Cl), h.calls[i]? = some c → c.dead = false → i ≠ j → TAt ms F c 1
def TInv (ms : Ms) (F : Nat → List Int) (h : Hp) : Prop := ∀ (i : Nat) (c : Cl), h.calls[i]? = some c → c.dead = false → TAt ms F c (if h.now = (i : Int) then 0 else 1)
def StuckOk (ms : Ms) (h : Hp) : Prop := ∃ (j : Nat) (c : Cl), h.now = (j : Int) ∧ h.calls[j]? = some c ∧ c.pc < ((opsOf ms c.m).length : Int) ∧
  ((opAt (opsOf ms c.m) c.pc).1 = 5 ∨ (opAt (opsOf ms c.m) c.pc).1 = 12 ∨ (opAt (opsOf ms c.m) c.pc).1 = 13 ∨ (opAt (opsOf ms c.m) c.pc).1 = 14 ∨ (opAt (opsOf ms c.m) c.pc).1 = 15 ∨ (opAt (opsOf ms c.m) c.pc).1 = 17 ∨ (opAt (opsOf ms c.m) c.pc).1 = 18 ∨
    (0 < c.pc ∧ (opAt (opsOf ms c.m) (c.pc - 1)).1 = 15))
theorem TInv.of {ms : Ms} {F : Nat → List Int} {h : Hp} {j : Nat} (hn : h.now = (j : Int)) (hw : WaitX ms F h j) (hc : ∀ c, h.calls[j]? = some c → c.dead = false → TAt ms F c 0) : TInv ms F h := fun i c e hd => by
  by_cases hij : i = j
  · subst hij
    rw [if_pos hn]
    exact hc c e hd
  · rw [if_neg (by rw [hn]; omega)]
    exact hw i c e hd hij
theorem WaitX.put {ms : Ms} {F : Nat → List Int} {h h' : Hp} {j : Nat} (hw : WaitX ms F h j) (x : Cl) (e : h'.calls = h.calls.set j x) : WaitX ms F h' j := fun i c q hd hij => by
  rw [e, List.getElem?_set, if_neg (fun z => hij z.symm)] at q
  exact hw i c q hd hij
theorem get_put {h h' : Hp} {j : Nat} {x : Cl} (e : h'.calls = h.calls.set j x) (hj : j < h.calls.length) : h'.calls[j]? = some x := by
  rw [e, List.getElem?_set, if_pos rfl, if_pos hj]
theorem TInv.turn {ms : Ms} {F : Nat → List Int} {h : Hp} {j : Nat} (hn : h.now = (j : Int)) (hj : j < h.calls.length) (hw : WaitX ms F h j) (c : Cl) (hc : TAt ms F c 0) : TInv ms F (setH h c) := by
  have e : (setH h c).calls = h.calls.set j c := by unfold setH; rw [show h.now.toNat = j by omega]
  refine TInv.of (show (setH h c).now = (j : Int) from hn) (hw.put c e) fun c' q _ => ?_
  rw [get_put e hj] at q
  injection q with q
  rw [← q]
  exact hc
theorem TAt.push {ms : Ms} {F : Nat → List Int} {c : Cl} (h : TAt ms F c 1) (v : Int × Int) : TAt ms F { c with stack := c.stack ++ [v] } 0 := by
  refine ⟨h.1, ?_⟩
  have := h.2
  simp only [List.length_append, List.length_singleton]
  omega
theorem TInv.push {ms : Ms} {F : Nat → List Int} {h : Hp} {j : Nat} (hn : h.now = (j : Int)) (hj : j < h.calls.length) (hw : WaitX ms F h j) (hc : TAt ms F h.calls[j] 1) (v : Int × Int) : TInv ms F (pushH h v) := by
  unfold pushH
  rw [cur_at hn hj]
  exact TInv.turn hn hj hw _ (hc.push v)
def WaitA (ms : Ms) (F : Nat → List Int) (h : Hp) : Prop := ∀ (i : Nat) (c : Cl), h.calls[i]? = some c → c.dead = false → TAt ms F c 1
theorem WaitA.leave {ms : Ms} {F : Nat → List Int} {h : Hp} {j : Nat} (hn : h.now = (j : Int)) (hw : WaitX ms F h j) : WaitA ms F (leaveH h) := fun i c q hd => by
  have e : (leaveH h).calls = h.calls.set j (dieC (curC h)) := by unfold leaveH setH; rw [show h.now.toNat = j by omega]
  rw [e, List.getElem?_set] at q
  split at q
  · split at q
    · injection q with q
      rw [← q] at hd
      cases hd
    · cases q
  · rename_i z
    exact hw i c q hd (fun y => z y.symm)
theorem WaitA.x {ms : Ms} {F : Nat → List Int} {h : Hp} (hw : WaitA ms F h) (j : Nat) : WaitX ms F h j := fun i c q hd _ => hw i c q hd
theorem WaitA.back {ms : Ms} {F : Nat → List Int} : ∀ (f : Nat) (h : Hp) (b : Nat), WaitA ms F h → WaitA ms F (backTo f h b)
  | 0, h, b, hw => hw
  | f + 1, h, b, hw => by
    unfold backTo
    split
    · exact hw
    · refine WaitA.back f (leaveH h) b fun i c q hd => ?_
      have e : (leaveH h).calls = h.calls.set h.now.toNat (dieC (curC h)) := rfl
      rw [e, List.getElem?_set] at q
      split at q
      · split at q
        · injection q with q
          rw [← q] at hd
          cases hd
        · cases q
      · exact hw i c q hd
theorem kinds_no {k : Int} {args : List (Int × Int)} (h : kindsOk k args = false) : k = 5 ∨ k = 12 ∨ k = 13 ∨ k = 14 ∨ k = 15 ∨ k = 17 ∨ k = 18 := by
  unfold kindsOk at h
  by_cases h5 : k = 5
  · exact .inl h5
  · rw [if_neg h5] at h
    by_cases h6 : k = 12 ∨ k = 13 ∨ k = 14 ∨ k = 15 ∨ k = 17 ∨ k = 18
    · exact .inr h6
    · rw [if_neg h6] at h
      cases h
theorem TInv.poke {ms : Ms} {F : Nat → List Int} {h : Hp} (t : TInv ms F h) (b : Nat) (a : Int) (v : Int × Int) : TInv ms F (pokeH h b a v) := fun i c q hd => by
  have e : (pokeH h b a v).calls = h.calls.set b { h.calls.getD b Cl.none with temps := (h.calls.getD b Cl.none).temps.set a.toNat v } := rfl
  have en : (pokeH h b a v).now = h.now := rfl
  rw [en]
  rw [e, List.getElem?_set] at q
  split at q
  · rename_i z
    split at q
    · rename_i hl
      injection q with q
      subst z
      have e2 : h.calls.getD b Cl.none = h.calls[b] := by simp [hl]
      rw [e2] at q
      have hq : h.calls[b]? = some h.calls[b] := by simp [hl]
      have hd' : h.calls[b].dead = false := by rw [← q] at hd; exact hd
      have r := t b _ hq hd'
      rw [← q]
      exact r
    · cases q
  · exact t i c q hd
set_option maxHeartbeats 1000000 in
theorem TInv.step {ms : Ms} {F : Nat → List Int} (hF : ∀ m : Nat, m < ms.length → Closed ms (opsOf ms m) (F m)) {h : Hp} (g : Good ms h) (hc : h.code = 0) (t : TInv ms F h) : ((stepH ms h).code = 0 → TInv ms F (stepH ms h)) ∧ ((stepH ms h).code = 2 → StuckOk ms (stepH ms h)) := by
  have hn0 : 0 ≤ h.now := by
    by_cases q : h.now < 0
    · have := g.head.fin.2 q; omega
    · omega
  obtain ⟨j, hn⟩ : ∃ j : Nat, h.now = j := ⟨h.now.toNat, by omega⟩
  have hj : j < h.calls.length := by have := g.head.now; omega
  have hcur := cur_at hn hj
  obtain ⟨l, hw⟩ := g.w
  rw [hn] at hw
  obtain ⟨_, _, _, hlive, _⟩ := hw.head
  have cp := g.cl j hj
  have hget : h.calls[j]? = some h.calls[j] := by simp [hj]
  have tc := t j _ hget hlive
  rw [if_pos hn] at tc
  have hWX : WaitX ms F h j := fun i c q hd hij => by
    have := t i c q hd
    rw [if_neg (by rw [hn]; omega)] at this
    exact this
  obtain ⟨m, hcm⟩ : ∃ m : Nat, h.calls[j].m = m := ⟨h.calls[j].m.toNat, by have := cp.m; omega⟩
  have hm : m < ms.length := by have := cp.m; omega
  obtain ⟨p, hcp⟩ : ∃ p : Nat, h.calls[j].pc = p := ⟨h.calls[j].pc.toNat, by have := cp.pc; omega⟩
  have hcl := hF m hm
  have hpl : p < (opsOf ms m).length := by have := tc.1; rw [hcm, hcp] at this; omega
  have hgt : gt (F m) p = (h.calls[j].stack.length : Int) := by have := tc.2; rw [hcm, hcp, Int.toNat_natCast] at this; omega
  obtain ⟨dt, db, dn⟩ := hcl.each p hpl (by rw [hgt]; omega)
  rw [hgt] at dt db dn
  have hop : opNext ms h.calls[j] = opAt (opsOf ms m) p := by
    unfold opNext opAt opsOf
    rw [hcm, hcp]
  unfold stepH
  simp only []
  have h1 : ¬ ((ms.getD (curC h).m.toNat (0, 0, [])).2.2.length : Int) ≤ (curC h).pc := by
    rw [hcur, hcm, hcp]
    have : (opsOf ms m).length = (ms.getD (m : Int).toNat (0, 0, [])).2.2.length := rfl
    omega
  rw [if_neg h1]
  unfold behind at db dn
  generalize hO : opAt (opsOf ms m) p = op at *
  generalize hT : takesOf ms op.1 op.2 = T at *
  have h2 : ¬ (((curC h).stack.length : Int) - (takesOf ms (opNext ms (curC h)).1 (opNext ms (curC h)).2).1 < 0 ∨ 6 < ((curC h).stack.length : Int) - (takesOf ms (opNext ms (curC h)).1 (opNext ms (curC h)).2).1 + (takesOf ms (opNext ms (curC h)).1 (opNext ms (curC h)).2).2) := by
    rw [hcur, hop, hT]
    omega
  rw [if_neg h2]
  by_cases h3 : kindsOk (opNext ms (curC h)).1 ((curC h).stack.drop (((curC h).stack.length : Int) - (takesOf ms (opNext ms (curC h)).1 (opNext ms (curC h)).2).1).toNat) = false
  · rw [if_pos h3]
    refine ⟨fun e => (by cases e), fun _ => ⟨j, h.calls[j], hn, hget, tc.1, ?_⟩⟩
    have := kinds_no h3
    rw [hcur, hop] at this
    rw [hcm, hcp, hO]
    omega
  rw [if_neg h3]
  obtain ⟨j', d⟩ := g.doing hc h1 h2 (by simpa using h3)
  rw [hcur, hop, hT] at d ⊢
  have hleft : 0 ≤ (h.calls[j].stack.length : Int) - T.1 := by omega
  have dn0 := d.now
  obtain rfl : j' = j := by
    have : ((j' : Nat) : Int) = (j : Int) := by rw [← dn0]; exact hn
    omega
  have hcs : (setH h { h.calls[j'] with stack := h.calls[j'].stack.take ((h.calls[j'].stack.length : Int) - T.1).toNat, pc := h.calls[j'].pc + 1 }).calls = h.calls.set j' { h.calls[j'] with stack := h.calls[j'].stack.take ((h.calls[j'].stack.length : Int) - T.1).toNat, pc := h.calls[j'].pc + 1 } := by unfold setH; rw [show h.now.toNat = j' by omega]
  have hWX' := hWX.put _ hcs
  have hget' := get_put hcs hj
  have hTT : (takesOf ms op.1 op.2).2 = T.2 := by rw [hT]
  have hcode : (setH h { h.calls[j'] with stack := h.calls[j'].stack.take ((h.calls[j'].stack.length : Int) - T.1).toNat, pc := h.calls[j'].pc + 1 }).code = 0 := hc
  have hnow : (setH h { h.calls[j'] with stack := h.calls[j'].stack.take ((h.calls[j'].stack.length : Int) - T.1).toNat, pc := h.calls[j'].pc + 1 }).now = (j' : Int) := hn
  have hcl' : ∀ c', c' = ({ h.calls[j'] with stack := h.calls[j'].stack.take ((h.calls[j'].stack.length : Int) - T.1).toNat, pc := h.calls[j'].pc + 1 } : Cl) → c'.m = (m : Int) ∧ c'.pc = (p : Int) + 1 ∧ (c'.stack.length : Int) = (h.calls[j'].stack.length : Int) - T.1 := fun c' e => by
    subst e
    refine ⟨hcm, by simp only []; rw [hcp], ?_⟩
    simp only [List.length_take]
    have hT0 : 0 ≤ T.1 := by
      have := d.takes
      rw [hT] at this
      omega
    omega
  generalize hC : ({ h.calls[j'] with stack := h.calls[j'].stack.take ((h.calls[j'].stack.length : Int) - T.1).toNat, pc := h.calls[j'].pc + 1 } : Cl) = c' at *
  obtain ⟨c1, c2, c3⟩ := hcl' c' rfl
  clear hcl'
  generalize setH h c' = h' at *
  generalize h.calls[j'].stack.drop ((h.calls[j'].stack.length : Int) - T.1).toNat = args at *
  have hj' := d.lt
  have hat : h'.calls[j'] = c' := by
    have : h'.calls[j']? = some h'.calls[j'] := by simp [hj']
    rw [hget'] at this
    injection this with this
    exact this.symm
  have hcur' := cur_at d.now d.lt
  rw [hat] at hcur'
  have hk := d.kind
  have one : ∀ x : Hp, x.code = 0 → TInv ms F x → (x.code = 0 → TInv ms F x) ∧ (x.code = 2 → StuckOk ms x) := fun x e y => ⟨fun _ => y, fun q => by rw [e] at q; cases q⟩
  have hT2 : op.1 ≠ 9 → T = (tk op.1, lv op.1) := fun e => by rw [← hT]; exact takes_num e
  have hnext : op.1 ≠ 10 → op.1 ≠ 7 → (p : Int) + 1 < ((opsOf ms m).length : Int) ∧ gt (F m) ((p : Int) + 1) = (h.calls[j'].stack.length : Int) - T.1 + T.2 := fun e10 e7 => by
    have hmem : ((p : Int) + 1) ∈ nexts op p := by
      unfold nexts
      rw [if_neg e10, if_neg e7]
      split <;> simp
    exact (dn _ hmem).2
  have hat1 : op.1 ≠ 10 → op.1 ≠ 7 → TAt ms F c' T.2 := fun e10 e7 => by
    obtain ⟨n1, n2⟩ := hnext e10 e7
    exact ⟨by rw [c1, c2]; exact n1, by rw [c1, c2, Int.toNat_natCast, n2, c3]⟩
  have hstay : op.1 ≠ 10 → op.1 ≠ 7 → T.2 = 0 → TInv ms F h' := fun e10 e7 e0 => TInv.of hnow hWX' fun c q _ => by
    rw [hget'] at q
    injection q with q
    rw [← q]
    have := hat1 e10 e7
    rwa [e0] at this
  have hpush : op.1 ≠ 10 → op.1 ≠ 7 → T.2 = 1 → ∀ v, TInv ms F (pushH h' v) := fun e10 e7 e1 v => TInv.push hnow hj' hWX' (by rw [hat]; have := hat1 e10 e7; rwa [e1] at this) v
  have hwa : op.1 ≠ 10 → op.1 ≠ 7 → T.2 = 1 → WaitA ms F h' := fun e10 e7 e1 i c q hd => by
    by_cases hij : i = j'
    · subst hij
      rw [hget'] at q
      injection q with q
      rw [← q]
      have := hat1 e10 e7
      rwa [e1] at this
    · exact hWX' i c q hd hij
  unfold doH
  simp only []
  by_cases k1 : op.1 = 1
  · rw [if_pos k1]; exact one _ hcode (hpush (by omega) (by omega) (by rw [hT2 (by omega), k1]; rfl) _)
  rw [if_neg k1]
  by_cases k5 : op.1 = 5
  · rw [if_pos k5]; exact one _ hcode (hpush (by omega) (by omega) (by rw [hT2 (by omega), k5]; rfl) _)
  rw [if_neg k5]
  by_cases k6 : op.1 = 6
  · rw [if_pos k6]; exact one _ hcode (hpush (by omega) (by omega) (by rw [hT2 (by omega), k6]; rfl) _)
  rw [if_neg k6]
  by_cases k2 : op.1 = 2
  · rw [if_pos k2]; exact one _ hcode (hpush (by omega) (by omega) (by rw [hT2 (by omega), k2]; rfl) _)
  rw [if_neg k2]
  by_cases k3 : op.1 = 3
  · rw [if_pos k3]
    have e0 : T.2 = 0 := by rw [hT2 (by omega), k3]; rfl
    refine one _ hcode (TInv.turn hnow hj' hWX' _ ?_)
    rw [hcur']
    have := hat1 (by omega) (by omega)
    rw [e0] at this
    exact this
  rw [if_neg k3]
  have hgo : (op.2 ∈ nexts op p) → T.2 = 0 → TInv ms F (setH h' { curC h' with pc := op.2 }) := fun hmem e0 => by
    obtain ⟨n0, n1, n2⟩ := dn _ hmem
    refine TInv.turn hnow hj' hWX' _ ?_
    rw [hcur']
    refine ⟨by show op.2 < ((opsOf ms c'.m).length : Int); rw [c1]; exact n1, ?_⟩
    show gt (F c'.m.toNat) op.2 = (c'.stack.length : Int) + 0
    rw [c1, Int.toNat_natCast, n2, c3, e0]
  by_cases k7 : op.1 = 7
  · rw [if_pos k7]
    exact one _ hcode (hgo (by unfold nexts; rw [if_neg (by omega), if_pos k7]; simp) (by rw [hT2 (by omega), k7]; rfl))
  rw [if_neg k7]
  by_cases k8 : op.1 = 8
  · rw [if_pos k8]
    have e0 : T.2 = 0 := by rw [hT2 (by omega), k8]; rfl
    split
    · exact one _ hcode (hgo (by unfold nexts; rw [if_neg (by omega), if_neg (by omega), if_pos k8]; simp) e0)
    · exact one _ hcode (hstay (by omega) (by omega) e0)
  rw [if_neg k8]
  by_cases k9 : op.1 = 9
  · rw [if_pos k9]
    obtain ⟨mm, hmm, _, hop9⟩ := d.op
    rw [k9] at hop9
    unfold opOk at hop9
    rw [if_neg (by decide), if_neg (by decide), if_neg (by decide), if_pos rfl, inR_true] at hop9
    obtain ⟨a', ha'⟩ := Int.eq_ofNat_of_zero_le hop9.1
    have hal : a' < ms.length := by omega
    have e1 : T.2 = 1 := by rw [← hT, k9, ha', takesOf_call hal]
    unfold callH
    by_cases hb : 30 ≤ h'.born
    · rw [if_pos hb]
      exact ⟨fun e => (by cases e), fun e => by cases e⟩
    rw [if_neg hb]
    refine one _ hcode fun i c q hd => ?_
    have hwA := hwa (by omega) (by omega) e1
    by_cases hi : i < h'.calls.length
    · rw [if_neg (by show ¬ ((h'.calls.length : Nat) : Int) = (i : Int); omega)]
      refine hwA i c ?_ hd
      have q' : (h'.calls ++ [(⟨op.2, 0, args ++ List.replicate ((ms.getD op.2.toNat (0, 0, [])).2.1.toNat - args.length) (0, 0), [], h'.now, false⟩ : Cl)])[i]? = some c := q
      rw [List.getElem?_append_left hi] at q'
      exact q'
    · have q' : (h'.calls ++ [(⟨op.2, 0, args ++ List.replicate ((ms.getD op.2.toNat (0, 0, [])).2.1.toNat - args.length) (0, 0), [], h'.now, false⟩ : Cl)])[i]? = some c := q
      rw [List.getElem?_append_right (by omega)] at q'
      by_cases hi2 : i = h'.calls.length
      · subst hi2
        rw [if_pos (by rfl)]
        rw [Nat.sub_self] at q'
        injection q' with q'
        rw [← q']
        have hca := hF a' hal
        refine ⟨?_, ?_⟩
        · show (0 : Int) < ((opsOf ms op.2).length : Int)
          rw [ha']
          have := hca.pos
          omega
        · show gt (F op.2.toNat) 0 = _
          rw [ha', Int.toNat_natCast]
          exact hca.zero
      · rw [List.getElem?_eq_none (by simp; omega)] at q'
        cases q'
  rw [if_neg k9]
  by_cases k10 : op.1 = 10
  · rw [if_pos k10]
    unfold retH
    rw [hcur']
    by_cases hs : c'.sender < 0
    · rw [if_pos hs]
      exact ⟨fun e => (by cases e), fun e => by cases e⟩
    rw [if_neg hs]
    have hs0 : 0 ≤ h'.calls[j'].sender := by rw [hat]; omega
    have hg := d.g.leave d.now d.lt hs0 d.code
    have hwl := WaitA.leave hnow hWX'
    obtain ⟨a1, a2, _⟩ := leave_at d.now d.lt
    obtain ⟨s, hse⟩ : ∃ s : Nat, h'.calls[j'].sender = s := ⟨h'.calls[j'].sender.toNat, by omega⟩
    obtain ⟨l2, hw2⟩ := hg.w
    rw [a2, hse] at hw2
    obtain ⟨hsl, _, _, hsd, _, _⟩ := hw2.head
    refine one _ hcode (TInv.push (j := s) (by rw [a2, hse]) hsl (hwl.x s) (hwl s _ (by simp [hsl]) hsd) _)
  rw [if_neg k10]
  by_cases k11 : op.1 = 11
  · rw [if_pos k11]; exact one _ hcode (hpush (by omega) (by omega) (by rw [hT2 (by omega), k11]; rfl) _)
  rw [if_neg k11]
  by_cases kl : op.1 = 12 ∨ op.1 = 13 ∨ op.1 = 17 ∨ op.1 = 18
  · rw [if_pos kl]
    refine one _ hcode (hpush (by omega) (by omega) ?_ _)
    rw [hT2 (by omega)]
    rcases kl with e | e | e | e <;> rw [e] <;> rfl
  rw [if_neg kl]
  by_cases k14 : op.1 = 14
  · rw [if_pos k14]
    exact one _ hcode ((hstay (by omega) (by omega) (by rw [hT2 (by omega), k14]; rfl)).poke _ _ _)
  rw [if_neg k14]
  by_cases k15 : op.1 = 15
  · rw [if_pos k15]
    obtain ⟨_, _, hr⟩ := d.ref (by omega)
    have e1 : T.2 = 1 := by rw [hT2 (by omega), k15]; rfl
    unfold backH
    rw [getD_at hr]
    by_cases hd : h'.calls[(args.getD 0 (0, 0)).2.toNat].dead = true
    · rw [if_pos hd]
      refine ⟨fun e => (by cases e), fun _ => ⟨j', c', hnow, hget', (hat1 (by omega) (by omega)).1, ?_⟩⟩
      rw [c1, c2]
      refine .inr (.inr (.inr (.inr (.inr (.inr (.inr ⟨by omega, ?_⟩))))))
      rw [show (p : Int) + 1 - 1 = (p : Int) by omega, hO]
      exact k15
    rw [if_neg hd]
    obtain ⟨l2, hw2⟩ := d.g.w
    have hbl : (args.getD 0 (0, 0)).2.toNat ∈ l2 := hw2.all _ hr (by simpa using hd)
    have h6 : ∀ hb : (args.getD 0 (0, 0)).2.toNat < h'.calls.length, h'.calls[(args.getD 0 (0, 0)).2.toNat].stack.length < 6 := fun hb => by
      have hw3 := hw2
      rw [d.now] at hw3
      obtain ⟨_, t', rfl, _⟩ := hw3.head
      rcases List.mem_cons.1 hbl with q | q
      · have := d.free (by rw [hTT]; exact e1)
        simp only [q]
        exact this
      · exact hw2.room _ (by simpa using q) hb
    obtain ⟨_, r2, r3, r4, r5⟩ := Good.back h'.calls.length h' _ l2 d.g d.code hw2 hbl hw2.len h6
    have hlt : (args.getD 0 (0, 0)).2.toNat < (backTo h'.calls.length h' (args.getD 0 (0, 0)).2.toNat).calls.length := by rw [r4]; exact hr
    have hwb := WaitA.back h'.calls.length h' (args.getD 0 (0, 0)).2.toNat (hwa (by omega) (by omega) e1)
    exact one _ r2 (TInv.push r3 hlt (hwb.x _) (hwb (args.getD 0 (0, 0)).2.toNat _ (List.getElem?_eq_getElem hlt) (r5 hlt).2) _)
  rw [if_neg k15]
  have e0 : T.2 = 0 := by
    rw [hT2 (by omega)]
    show lv op.1 = 0
    unfold lv
    rw [if_neg (by omega)]
  by_cases k16 : op.1 = 16
  · rw [if_pos k16]
    exact one _ hcode (hstay (by omega) (by omega) e0)
  rw [if_neg k16]
  exact one _ hcode (hstay (by omega) (by omega) e0)
theorem TInv.run {ms : Ms} {F : Nat → List Int} (hF : ∀ m : Nat, m < ms.length → Closed ms (opsOf ms m) (F m)) : ∀ (n : Nat) (h : Hp), Good ms h → (h.code = 0 → TInv ms F h) ∧ (h.code = 2 → StuckOk ms h) → ((runH ms n h).code = 0 → TInv ms F (runH ms n h)) ∧ ((runH ms n h).code = 2 → StuckOk ms (runH ms n h))
  | 0, h, _, t => t
  | n + 1, h, g, t => by
    unfold runH
    by_cases hc : h.code = 0
    · rw [if_pos hc]
      exact TInv.run hF n _ (g.step hc) ((t.1 hc).step hF g hc)
    · rw [if_neg hc]
      exact t
end Go.Proofs.YtfpodljalccpnaaGreatDoor
