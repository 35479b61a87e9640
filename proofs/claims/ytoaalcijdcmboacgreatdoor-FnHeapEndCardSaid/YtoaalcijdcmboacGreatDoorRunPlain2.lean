/-
  Many operations of a heap, in plain words: when it is full, what stays of each call, operations cut anywhere. Nothing of the translation is used here.
-/
import Derived.Test.YtoaalcijdcmboacGreatDoorHImpl6

namespace Go.Proofs.YtoaalcijdcmboacGreatDoor
def FullOk (h h' : Hp) : Prop := h'.code = 3 → h.code = 3 ∨ (30 ≤ h.born ∧ h'.born = h.born)
theorem full_same {h h' : Hp} (e : h'.code = h.code) : FullOk h h' := fun q => .inl (by rw [← e]; exact q)
theorem full_not {h h' : Hp} (e : h'.code ≠ 3) : FullOk h h' := fun q => absurd q e
theorem code_backTo : ∀ (f : Nat) (h : Hp) (b : Nat), (backTo f h b).code = h.code
  | 0, _, _ => rfl
  | f + 1, h, b => by
    unfold backTo
    split
    · rfl
    · rw [code_backTo f]; rfl
theorem full_do (ms : Ms) (h : Hp) (k a : Int) (args : List (Int × Int)) : FullOk h (doH ms h k a args) := by
  have h0 : FullOk h h := full_same rfl
  have p0 : ∀ v, FullOk h (pushH h v) := fun v => full_same rfl
  have s0 : ∀ c, FullOk h (setH h c) := fun c => full_same rfl
  have c0 : FullOk h (callH ms h a args) := by
    unfold callH
    by_cases e : 30 ≤ h.born
    · rw [if_pos e]; exact fun _ => .inr ⟨e, rfl⟩
    · rw [if_neg e]; exact full_same rfl
  have r0 : ∀ v, FullOk h (retH h v) := fun v => all_ite (P := FullOk h) (full_not (by show (1 : Int) ≠ 3; decide)) fun _ => full_same rfl
  have b0 : ∀ b v, FullOk h (backH h b v) := fun b v => all_ite (P := FullOk h) (full_not (by show (2 : Int) ≠ 3; decide)) fun _ => full_same (code_backTo _ h b)
  exact all_ite (P := FullOk h) (p0 _) fun _ => all_ite (P := FullOk h) (p0 _) fun _ => all_ite (P := FullOk h) (p0 _) fun _ => all_ite (P := FullOk h) (p0 _) fun _ => all_ite (P := FullOk h) (s0 _) fun _ => all_ite (P := FullOk h) (s0 _) fun _ => all_ite (P := FullOk h) (all_ite (P := FullOk h) (s0 _) fun _ => h0) fun _ => all_ite (P := FullOk h) c0 fun _ => all_ite (P := FullOk h) (r0 _) fun _ => all_ite (P := FullOk h) (p0 _) fun _ => all_ite (P := FullOk h) (p0 _) fun _ => all_ite (P := FullOk h) (full_same rfl) fun _ => all_ite (P := FullOk h) (b0 _ _) fun _ => all_ite (P := FullOk h) (full_same rfl) fun _ => h0
theorem full_step (ms : Ms) (h : Hp) : FullOk h (stepH ms h) :=
  all_ite (P := FullOk h) (full_not (by show (2 : Int) ≠ 3; decide)) fun _ => all_ite (P := FullOk h) (full_not (by show (2 : Int) ≠ 3; decide)) fun _ => all_ite (P := FullOk h) (full_not (by show (2 : Int) ≠ 3; decide)) fun _ => full_do ms (setH h _) _ _ _
theorem full_run (ms : Ms) : ∀ (n : Nat) (h : Hp), (runH ms n h).code = 3 → h.code = 3 ∨ 30 ≤ (runH ms n h).born
  | 0, _, e => .inl e
  | n + 1, h, e => by
    unfold runH at e ⊢
    by_cases c : h.code = 0
    · rw [if_pos c] at e ⊢
      rcases full_run ms n (stepH ms h) e with q | q
      · rcases full_step ms h q with z | ⟨z1, z2⟩
        · exact .inl z
        · have := (many_run ms n (stepH ms h)).born
          have := (many_run ms n (stepH ms h)).more
          exact .inr (by omega)
      · exact .inr q
    · rw [if_neg c] at e ⊢
      exact .inl e
theorem run_not (ms : Ms) : ∀ (n : Nat) (h : Hp), h.code ≠ 0 → runH ms n h = h
  | 0, _, _ => rfl
  | n + 1, h, c => by unfold runH; rw [if_neg c]
def KeepsC (h h' : Hp) : Prop := ∀ (i : Nat) (c : Cl), h.calls[i]? = some c → ∃ c', h'.calls[i]? = some c' ∧ c'.m = c.m ∧ (c.dead = true → c'.dead = true ∧ c'.pc = c.pc)
theorem KeepsC.refl (h : Hp) : KeepsC h h := fun _ c e => ⟨c, e, rfl, fun q => ⟨q, rfl⟩⟩
theorem KeepsC.same {h h' : Hp} (e : h'.calls = h.calls) : KeepsC h h' := fun _ c q => ⟨c, by rw [e]; exact q, rfl, fun z => ⟨z, rfl⟩⟩
theorem KeepsC.trans {a b c : Hp} (h1 : KeepsC a b) (h2 : KeepsC b c) : KeepsC a c := fun i x e => by
  obtain ⟨y, e1, m1, d1⟩ := h1 i x e
  obtain ⟨z, e2, m2, d2⟩ := h2 i y e1
  exact ⟨z, e2, m2.trans m1, fun q => ⟨(d2 (d1 q).1).1, ((d2 (d1 q).1).2).trans (d1 q).2⟩⟩
end Go.Proofs.YtoaalcijdcmboacGreatDoor
