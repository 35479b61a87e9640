/-
  Who looks at no call has none to say: where no operation comes to its own call, no value is a call, ever.
-/
import Derived.Test.YtfpodljalccpnaaGreatDoorStepT

namespace Go.Proofs.YtfpodljalccpnaaGreatDoor
open Go.RowKit
def NoV (l : List (Int × Int)) : Prop := ∀ v ∈ l, v.1 ≠ 2
def NoC (h : Hp) : Prop := (∀ c ∈ h.calls, NoV c.temps ∧ NoV c.stack) ∧ NoV h.said
theorem NoV.nil : NoV [] := fun _ h => by cases h
theorem NoV.app {a b : List (Int × Int)} (ha : NoV a) (hb : NoV b) : NoV (a ++ b) := fun v hv => by
  rcases List.mem_append.1 hv with h | h
  · exact ha v h
  · exact hb v h
theorem NoV.one {v : Int × Int} (h : v.1 ≠ 2) : NoV [v] := fun u hu => by
  obtain rfl : u = v := by simpa using hu
  exact h
theorem NoV.getD {l : List (Int × Int)} (h : NoV l) (k : Nat) : (l.getD k (0, 0)).1 ≠ 2 := by
  by_cases hk : k < l.length
  · rw [show l.getD k (0, 0) = l[k] by simp [hk]]
    exact h _ (List.getElem_mem hk)
  · rw [show l.getD k (0, 0) = (0, 0) by simp [Nat.le_of_not_lt hk]]
    decide
theorem NoV.drop {l : List (Int × Int)} (h : NoV l) (k : Nat) : NoV (l.drop k) := fun v hv => h v (List.mem_of_mem_drop hv)
theorem NoV.take {l : List (Int × Int)} (h : NoV l) (k : Nat) : NoV (l.take k) := fun v hv => h v (List.mem_of_mem_take hv)
theorem NoV.set {l : List (Int × Int)} (h : NoV l) (k : Nat) {v : Int × Int} (hv : v.1 ≠ 2) : NoV (l.set k v) := fun u hu => by
  rcases List.mem_or_eq_of_mem_set hu with h' | rfl
  · exact h u h'
  · exact hv
theorem NoC.cur {h : Hp} (n : NoC h) : NoV (curC h).temps ∧ NoV (curC h).stack := by
  unfold curC
  by_cases hk : h.now.toNat < h.calls.length
  · rw [show h.calls.getD h.now.toNat Cl.none = h.calls[h.now.toNat] by simp [hk]]
    exact n.1 _ (List.getElem_mem hk)
  · rw [show h.calls.getD h.now.toNat Cl.none = Cl.none by simp [Nat.le_of_not_lt hk]]
    exact ⟨NoV.nil, NoV.nil⟩
theorem NoC.set {h : Hp} (n : NoC h) {c : Cl} (ht : NoV c.temps) (hs : NoV c.stack) : NoC (setH h c) := ⟨fun u hu => by
  rcases List.mem_or_eq_of_mem_set hu with h' | rfl
  · exact n.1 u h'
  · exact ⟨ht, hs⟩, n.2⟩
theorem NoC.push {h : Hp} (n : NoC h) {v : Int × Int} (hv : v.1 ≠ 2) : NoC (pushH h v) := n.set n.cur.1 (n.cur.2.app (NoV.one hv))
theorem NoC.leave {h : Hp} (n : NoC h) : NoC (leaveH h) := n.set (c := dieC (curC h)) n.cur.1 NoV.nil
theorem NoC.code {h : Hp} (n : NoC h) (k : Int) : NoC (codeH h k) := n
theorem NoC.say {h : Hp} (n : NoC h) {v : Int × Int} (hv : v.1 ≠ 2) : NoC (sayH h v) := ⟨n.1, n.2.app (NoV.one (by rw [show sayV h v = v from if_neg hv]; exact hv))⟩
theorem NoC.call {h : Hp} (n : NoC h) (ms : Ms) (m : Int) {args : List (Int × Int)} (ha : NoV args) : NoC (callH ms h m args) := by
  unfold callH
  split
  · exact n
  · refine ⟨fun c hc => ?_, n.2⟩
    rcases List.mem_append.1 hc with h' | h'
    · exact n.1 c h'
    · obtain rfl := List.mem_singleton.1 h'
      refine ⟨ha.app fun v hv => ?_, NoV.nil⟩
      rw [(List.mem_replicate.1 hv).2]
      decide
theorem bit_no (b : Bool) : (bitV b).1 ≠ 2 := by unfold bitV; simp
theorem no_ite {c : Prop} [Decidable c] {a b : Hp} (ha : c → NoC a) (hb : ¬ c → NoC b) : NoC (if c then a else b) := by
  by_cases h : c
  · rw [if_pos h]; exact ha h
  · rw [if_neg h]; exact hb h
theorem NoC.do {h : Hp} (n : NoC h) (ms : Ms) {k a : Int} {args : List (Int × Int)} (ha : NoV args) (hk : k ≠ 11) (ho : kindsOk k args = true) : NoC (doH ms h k a args) := by
  have hx := ha.getD 0
  have hy := ha.getD 1
  have hlook : ¬ (k = 12 ∨ k = 13 ∨ k = 14 ∨ k = 15 ∨ k = 17 ∨ k = 18) := fun q => by
    unfold kindsOk at ho
    rw [if_neg (by omega), if_pos q] at ho
    exact hx (by simpa using ho)
  have one : ∀ z : Int, ((1 : Int), z).1 ≠ 2 := fun _ => by simp
  have hret : NoC (retH h (args.getD 0 (0, 0))) := no_ite (fun _ => (n.leave.say hx).code 1) fun _ => n.leave.push hx
  unfold doH
  exact no_ite (fun _ => n.push (one _)) fun _ => no_ite (fun _ => n.push (one _)) fun _ => no_ite (fun _ => n.push (bit_no _)) fun _ => no_ite (fun _ => n.push (n.cur.1.getD _)) fun _ =>
    no_ite (fun _ => n.set (n.cur.1.set _ hx) n.cur.2) fun _ => no_ite (fun _ => n.set n.cur.1 n.cur.2) fun _ => no_ite (fun _ => no_ite (fun _ => n.set n.cur.1 n.cur.2) fun _ => n) fun _ =>
    no_ite (fun _ => n.call ms a ha) fun _ => no_ite (fun _ => hret) fun _ => no_ite (fun e => absurd e hk) fun _ => no_ite (fun e => absurd (by omega) hlook) fun _ =>
    no_ite (fun e => absurd (by omega) hlook) fun _ => no_ite (fun e => absurd (by omega) hlook) fun _ => no_ite (fun _ => n.say hx) fun _ => n
def NoHere (ms : Ms) : Prop := ∀ m ∈ ms, ∀ op ∈ m.2.2, op.1 ≠ 11
theorem next_no {ms : Ms} (hn : NoHere ms) (c : Cl) : (opNext ms c).1 ≠ 11 := by
  unfold opNext
  by_cases hm : c.m.toNat < ms.length
  · rw [show ms.getD c.m.toNat (0, 0, []) = ms[c.m.toNat] by simp [hm]]
    by_cases hp : c.pc.toNat < ms[c.m.toNat].2.2.length
    · rw [show ms[c.m.toNat].2.2.getD c.pc.toNat (0, 0) = ms[c.m.toNat].2.2[c.pc.toNat] by simp [hp]]
      exact hn _ (List.getElem_mem hm) _ (List.getElem_mem hp)
    · rw [show ms[c.m.toNat].2.2.getD c.pc.toNat (0, 0) = (0, 0) by simp [Nat.le_of_not_lt hp]]
      decide
  · rw [show ms.getD c.m.toNat (0, 0, []) = (0, 0, []) by simp [Nat.le_of_not_lt hm]]
    simp
theorem NoC.step {ms : Ms} {h : Hp} (n : NoC h) (hn : NoHere ms) : NoC (stepH ms h) := by
  unfold stepH
  refine no_ite (fun _ => n) fun _ => no_ite (fun _ => n) fun _ => no_ite (fun _ => n) fun h3 => ?_
  exact NoC.do (NoC.set n (c := { curC h with stack := (curC h).stack.take _, pc := (curC h).pc + 1 }) n.cur.1 (n.cur.2.take _)) ms (n.cur.2.drop _) (next_no hn _) (by simpa using h3)
theorem NoC.run {ms : Ms} (hn : NoHere ms) : ∀ (k : Nat) {h : Hp}, NoC h → NoC (runH ms k h)
  | 0, _, n => n
  | k + 1, h, n => by
    unfold runH
    split
    · exact NoC.run hn k (n.step hn)
    · exact n
end Go.Proofs.YtfpodljalccpnaaGreatDoor
