/-
  Many operations of a heap, in plain words: when it is full, what stays of each call, operations cut anywhere. Nothing of the translation is used here.
-/
import Derived.Test.YtoaalcijdcmboaaGreatDoorStepU

namespace Go.Proofs.YtoaalcijdcmboaaGreatDoor
theorem run_not (ms : Ms) : ∀ (n : Nat) (h : Hp), h.code ≠ 0 → runH ms n h = h
  | 0, _, _ => rfl
  | n + 1, h, c => by unfold runH; rw [if_neg c]
theorem run_add (ms : Ms) : ∀ (a b : Nat) (h : Hp), runH ms (a + b) h = runH ms b (runH ms a h)
  | 0, b, h => by rw [Nat.zero_add]; rfl
  | a + 1, b, h => by
    rw [show a + 1 + b = (a + b) + 1 by omega]
    by_cases c : h.code = 0
    · show (if h.code = 0 then runH ms (a + b) (stepH ms h) else h) = runH ms b (if h.code = 0 then runH ms a (stepH ms h) else h)
      rw [if_pos c, if_pos c, run_add ms a b]
    · show (if h.code = 0 then runH ms (a + b) (stepH ms h) else h) = runH ms b (if h.code = 0 then runH ms a (stepH ms h) else h)
      rw [if_neg c, if_neg c, run_not ms b h c]
def KeepsC (h h' : Hp) : Prop := ∀ (i : Nat) (c : Cl), h.calls[i]? = some c → ∃ c', h'.calls[i]? = some c' ∧ c'.m = c.m ∧ (c.dead = true → c'.dead = true ∧ c'.pc = c.pc)
theorem KeepsC.refl (h : Hp) : KeepsC h h := fun _ c e => ⟨c, e, rfl, fun q => ⟨q, rfl⟩⟩
theorem KeepsC.same {h h' : Hp} (e : h'.calls = h.calls) : KeepsC h h' := fun _ c q => ⟨c, by rw [e]; exact q, rfl, fun z => ⟨z, rfl⟩⟩
theorem KeepsC.trans {a b c : Hp} (h1 : KeepsC a b) (h2 : KeepsC b c) : KeepsC a c := fun i x e => by
  obtain ⟨y, e1, m1, d1⟩ := h1 i x e
  obtain ⟨z, e2, m2, d2⟩ := h2 i y e1
  exact ⟨z, e2, m2.trans m1, fun q => ⟨(d2 (d1 q).1).1, ((d2 (d1 q).1).2).trans (d1 q).2⟩⟩
theorem keeps_put {h h' : Hp} {j : Nat} {f : Cl} (e : h'.calls = h.calls.set j f) (hf : ∀ c, h.calls[j]? = some c → f.m = c.m ∧ (c.dead = true → f.dead = true ∧ f.pc = c.pc)) : KeepsC h h' := fun i c q => by
  rw [e, List.getElem?_set]
  by_cases z : j = i
  · subst z
    have hl : j < h.calls.length := (List.getElem?_eq_some_iff.1 q).1
    rw [if_pos rfl, if_pos hl]
    exact ⟨f, rfl, hf c q⟩
  · rw [if_neg z]
    exact ⟨c, q, rfl, fun d => ⟨d, rfl⟩⟩
theorem cur_some {h : Hp} {c : Cl} (e : h.calls[h.now.toNat]? = some c) : curC h = c := by
  unfold curC
  rw [List.getD_eq_getElem?_getD, e]
  rfl
theorem keeps_push (h : Hp) (v : Int × Int) : KeepsC h (pushH h v) := keeps_put (j := h.now.toNat) rfl fun c e => by rw [cur_some e]; exact ⟨rfl, fun d => ⟨d, rfl⟩⟩
theorem keeps_leave (h : Hp) : KeepsC h (leaveH h) := keeps_put (j := h.now.toNat) rfl fun c e => by rw [cur_some e]; exact ⟨rfl, fun _ => ⟨rfl, rfl⟩⟩
theorem keeps_backTo : ∀ (f : Nat) (h : Hp) (b : Nat), KeepsC h (backTo f h b)
  | 0, h, _ => KeepsC.refl h
  | f + 1, h, b => by
    unfold backTo
    split
    · exact KeepsC.refl h
    · exact (keeps_leave h).trans (keeps_backTo f _ b)
theorem keeps_ret (h : Hp) (v : Int × Int) : KeepsC h (retH h v) :=
  all_ite (P := KeepsC h) ((keeps_leave h).trans (KeepsC.same rfl)) fun _ => (keeps_leave h).trans (keeps_push _ v)
theorem keeps_back (h : Hp) (b : Nat) (v : Int × Int) : KeepsC h (backH h b v) :=
  all_ite (P := KeepsC h) (KeepsC.same rfl) fun _ => (keeps_backTo _ h b).trans (keeps_push _ v)
theorem keeps_call (ms : Ms) (h : Hp) (m : Int) (args : List (Int × Int)) : KeepsC h (callH ms h m args) :=
  all_ite (P := KeepsC h) (KeepsC.same rfl) fun _ i c e => ⟨c, by
    have hl : i < h.calls.length := (List.getElem?_eq_some_iff.1 e).1
    show (h.calls ++ _)[i]? = _
    rw [List.getElem?_append_left hl]
    exact e, rfl, fun d => ⟨d, rfl⟩⟩
theorem keeps_poke (h : Hp) (b : Nat) (a : Int) (v : Int × Int) : KeepsC h (pokeH h b a v) := keeps_put (j := b) rfl fun c e => by
  have : h.calls.getD b Cl.none = c := by rw [List.getD_eq_getElem?_getD, e]; rfl
  rw [this]
  exact ⟨rfl, fun d => ⟨d, rfl⟩⟩
theorem keeps_live {h : Hp} (hl : (curC h).dead = false) (c : Cl) (hm : c.m = (curC h).m) : KeepsC h (setH h c) := keeps_put (j := h.now.toNat) rfl fun x e => by
  rw [cur_some e] at hl hm
  exact ⟨hm, fun d => by rw [hl] at d; cases d⟩
theorem keeps_temps (h : Hp) (t : List (Int × Int)) : KeepsC h (setH h { curC h with temps := t }) := keeps_put (j := h.now.toNat) rfl fun c e => by rw [cur_some e]; exact ⟨rfl, fun d => ⟨d, rfl⟩⟩
theorem keeps_do (ms : Ms) (h : Hp) (hl : (curC h).dead = false) (k a : Int) (args : List (Int × Int)) : KeepsC h (doH ms h k a args) := by
  have h0 := KeepsC.refl h
  have j0 := keeps_live hl { curC h with pc := a } rfl
  exact all_ite (P := KeepsC h) (keeps_push _ _) fun _ => all_ite (P := KeepsC h) (keeps_push _ _) fun _ => all_ite (P := KeepsC h) (keeps_push _ _) fun _ => all_ite (P := KeepsC h) (keeps_push _ _) fun _ => all_ite (P := KeepsC h) (keeps_temps _ _) fun _ => all_ite (P := KeepsC h) j0 fun _ => all_ite (P := KeepsC h) (all_ite (P := KeepsC h) j0 fun _ => h0) fun _ => all_ite (P := KeepsC h) (keeps_call ms h a args) fun _ => all_ite (P := KeepsC h) (keeps_ret h _) fun _ => all_ite (P := KeepsC h) (keeps_push _ _) fun _ => all_ite (P := KeepsC h) (keeps_push _ _) fun _ => all_ite (P := KeepsC h) (keeps_poke h _ a _) fun _ => all_ite (P := KeepsC h) (keeps_back h _ _) fun _ => all_ite (P := KeepsC h) (KeepsC.same rfl) fun _ => h0
theorem live_cur {ms : Ms} {h : Hp} (g : Good ms h) (hc : h.code = 0) : (curC h).dead = false := by
  have hn0 : 0 ≤ h.now := by
    by_cases q : h.now < 0
    · have := g.head.fin.2 q; omega
    · omega
  obtain ⟨j, hn⟩ : ∃ j : Nat, h.now = j := ⟨h.now.toNat, by omega⟩
  have hj : j < h.calls.length := by have := g.head.now; omega
  obtain ⟨l, hw⟩ := g.w
  rw [hn] at hw
  obtain ⟨_, _, _, hlive, _⟩ := hw.head
  rw [cur_at hn hj]
  exact hlive
theorem keeps_step {ms : Ms} {h : Hp} (g : Good ms h) (hc : h.code = 0) : KeepsC h (stepH ms h) := by
  have hl := live_cur g hc
  have hn0 : 0 ≤ h.now := by
    by_cases q : h.now < 0
    · have := g.head.fin.2 q; omega
    · omega
  obtain ⟨j, hn⟩ : ∃ j : Nat, h.now = j := ⟨h.now.toNat, by omega⟩
  have hj : j < h.calls.length := by have := g.head.now; omega
  refine all_ite (P := KeepsC h) (KeepsC.same rfl) fun _ => all_ite (P := KeepsC h) (KeepsC.same rfl) fun _ => all_ite (P := KeepsC h) (KeepsC.same rfl) fun _ => ?_
  have hs : ∀ c : Cl, c.m = (curC h).m → c.dead = (curC h).dead → ∀ k a args, KeepsC h (doH ms (setH h c) k a args) := fun c hm hd k a args =>
    (keeps_live hl c hm).trans (keeps_do ms _ (by rw [set_cur hn hj, hd]; exact hl) _ _ _)
  exact hs { curC h with stack := (curC h).stack.take (((curC h).stack.length : Int) - (takesOf ms (opNext ms (curC h)).1 (opNext ms (curC h)).2).1).toNat, pc := (curC h).pc + 1 } rfl rfl _ _ _
theorem keeps_run {ms : Ms} : ∀ (n : Nat) (h : Hp), Good ms h → KeepsC h (runH ms n h)
  | 0, h, _ => KeepsC.refl h
  | n + 1, h, g => by
    unfold runH
    by_cases c : h.code = 0
    · rw [if_pos c]
      exact (keeps_step g c).trans (keeps_run n _ (g.step c))
    · rw [if_neg c]
      exact KeepsC.refl h
end Go.Proofs.YtoaalcijdcmboaaGreatDoor
