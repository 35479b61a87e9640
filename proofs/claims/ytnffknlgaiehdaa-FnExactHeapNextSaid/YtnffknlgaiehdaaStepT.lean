/-
  Many operations of a heap, in plain words: how much is said, how long its lists are. Nothing of the translation is used here.
-/
import Derived.Test.YtnffknlgaiehdaaStepS
namespace Go.Proofs.Ytnffknlgaiehdaa

theorem said_push (h : Hp) (v : Int × Int) : (pushH h v).said = h.said := rfl
theorem said_leave (h : Hp) : (leaveH h).said = h.said := rfl
theorem said_backTo : ∀ (f : Nat) (h : Hp) (b : Nat), (backTo f h b).said = h.said
  | 0, _, _ => rfl
  | f + 1, h, b => by
    unfold backTo
    split
    · rfl
    · rw [said_backTo f, said_leave]
theorem said_say (h : Hp) (v : Int × Int) : (sayH h v).said.length = h.said.length + 1 := by simp [sayH]

theorem said_ite {c : Prop} [Decidable c] {a b : Hp} {n : Nat} (h1 : a.said.length ≤ n) (h2 : b.said.length ≤ n) : (if c then a else b).said.length ≤ n := by
  by_cases e : c
  · rw [if_pos e]; exact h1
  · rw [if_neg e]; exact h2

theorem said_call (ms : Ms) (h : Hp) (m : Int) (args : List (Int × Int)) : (callH ms h m args).said.length ≤ h.said.length + 1 :=
  said_ite (Nat.le_succ _) (Nat.le_succ _)
theorem said_ret (h : Hp) (v : Int × Int) : (retH h v).said.length ≤ h.said.length + 1 :=
  said_ite (Nat.le_of_eq ((said_say (leaveH h) v).trans (by rw [said_leave]))) (by rw [said_push, said_leave]; exact Nat.le_succ _)
theorem said_back (h : Hp) (b : Nat) (v : Int × Int) : (backH h b v).said.length ≤ h.said.length + 1 :=
  said_ite (Nat.le_succ _) (by rw [said_push, said_backTo]; exact Nat.le_succ _)

theorem said_do (ms : Ms) (h : Hp) (k a : Int) (args : List (Int × Int)) : (doH ms h k a args).said.length ≤ h.said.length + 1 := by
  have h0 : h.said.length ≤ h.said.length + 1 := Nat.le_succ _
  exact said_ite h0 (said_ite h0 (said_ite h0 (said_ite h0 (said_ite h0 (said_ite h0 (said_ite (said_ite h0 h0) (said_ite (said_call ms h a args) (said_ite (said_ret h _) (said_ite h0 (said_ite h0 (said_ite h0 (said_ite (said_back h _ _) (said_ite (Nat.le_of_eq (said_say h _)) h0)))))))))))))

theorem said_step (ms : Ms) (h : Hp) : (stepH ms h).said.length ≤ h.said.length + 1 :=
  said_ite (Nat.le_succ _) (said_ite (Nat.le_succ _) (said_ite (Nat.le_succ _) (said_do ms _ _ _ _)))

theorem said_run (ms : Ms) : ∀ (n : Nat) (h : Hp), (runH ms n h).said.length ≤ h.said.length + n
  | 0, _ => Nat.le_refl _
  | n + 1, h => by
    unfold runH
    split
    · have := said_run ms n (stepH ms h)
      have := said_step ms h
      omega
    · omega

theorem run_snoc (ms : Ms) : ∀ (n : Nat) (h : Hp), (runH ms n h).code = 0 → runH ms (n + 1) h = stepH ms (runH ms n h)
  | 0, h, hc => by
    have hc' : h.code = 0 := hc
    show (if h.code = 0 then runH ms 0 (stepH ms h) else h) = _
    rw [if_pos hc']
    rfl
  | n + 1, h, hc => by
    by_cases h0 : h.code = 0
    · have e : runH ms (n + 1) h = runH ms n (stepH ms h) := by
        show (if h.code = 0 then runH ms n (stepH ms h) else h) = _
        rw [if_pos h0]
      have e2 : runH ms (n + 1 + 1) h = runH ms (n + 1) (stepH ms h) := by
        show (if h.code = 0 then runH ms (n + 1) (stepH ms h) else h) = _
        rw [if_pos h0]
      rw [e] at hc
      rw [e2, e]
      exact run_snoc ms n _ hc
    · have e : runH ms (n + 1) h = h := by
        show (if h.code = 0 then runH ms n (stepH ms h) else h) = _
        rw [if_neg h0]
      rw [e] at hc
      exact absurd hc h0

theorem run_stay (ms : Ms) : ∀ (m n : Nat) (h : Hp), n ≤ m → (runH ms n h).code ≠ 0 → runH ms m h = runH ms n h
  | 0, n, h, hl, _ => by
    obtain rfl : n = 0 := by omega
    rfl
  | m + 1, 0, h, _, hc => by
    have hc' : h.code ≠ 0 := hc
    show (if h.code = 0 then runH ms m (stepH ms h) else h) = _
    rw [if_neg hc']
    rfl
  | m + 1, n + 1, h, hl, hc => by
    by_cases h0 : h.code = 0
    · have e : runH ms (n + 1) h = runH ms n (stepH ms h) := by
        show (if h.code = 0 then runH ms n (stepH ms h) else h) = _
        rw [if_pos h0]
      have e2 : runH ms (m + 1) h = runH ms m (stepH ms h) := by
        show (if h.code = 0 then runH ms m (stepH ms h) else h) = _
        rw [if_pos h0]
      rw [e] at hc
      rw [e2, e]
      exact run_stay ms m n _ (by omega) hc
    · show (if h.code = 0 then runH ms m (stepH ms h) else h) = (if h.code = 0 then runH ms n (stepH ms h) else h)
      rw [if_neg h0, if_neg h0]

theorem Good.lens {ms : Ms} {h : Hp} (g : Good ms h) : h.calls.length ≤ 30 ∧ ∀ i, (hi : i < h.calls.length) → h.calls[i].temps.length ≤ 4 ∧ h.calls[i].stack.length ≤ 6 := by
  refine ⟨by have := g.head.few; have := g.head.born; omega, fun i hi => ⟨?_, (g.cl i hi).s⟩⟩
  have c := g.cl i hi
  have hp := g.head.p
  unfold progOk at hp
  simp only [Bool.and_eq_true] at hp
  have hm := c.m
  have hl : h.calls[i].m.toNat < ms.length := by omega
  have ha := List.all_eq_true.1 hp.2 _ (List.getElem_mem hl)
  unfold methOk at ha
  simp only [Bool.and_eq_true] at ha
  have a2 := inR_true.1 ha.1.1.2
  have ht := c.t
  have e : ms.getD h.calls[i].m.toNat (0, 0, []) = ms[h.calls[i].m.toNat] := by simp [hl]
  rw [e] at ht
  omega

/- calls never grow fewer -/
theorem len_ite {c : Prop} [Decidable c] {a b : Hp} {n : Nat} (h1 : n ≤ a.calls.length) (h2 : n ≤ b.calls.length) : n ≤ (if c then a else b).calls.length := by
  by_cases e : c
  · rw [if_pos e]; exact h1
  · rw [if_neg e]; exact h2
theorem len_set (h : Hp) (c : Cl) : (setH h c).calls.length = h.calls.length := by simp [setH]
theorem len_push (h : Hp) (v : Int × Int) : (pushH h v).calls.length = h.calls.length := len_set _ _
theorem len_leave (h : Hp) : (leaveH h).calls.length = h.calls.length := len_set _ _
theorem len_backTo : ∀ (f : Nat) (h : Hp) (b : Nat), (backTo f h b).calls.length = h.calls.length
  | 0, _, _ => rfl
  | f + 1, h, b => by
    unfold backTo
    by_cases e : h.now = b
    · rw [if_pos e]
    · rw [if_neg e, len_backTo f, len_leave]
theorem len_do (ms : Ms) (h : Hp) (k a : Int) (args : List (Int × Int)) : h.calls.length ≤ (doH ms h k a args).calls.length := by
  have h0 : h.calls.length ≤ h.calls.length := Nat.le_refl _
  have p0 : ∀ v, h.calls.length ≤ (pushH h v).calls.length := fun v => Nat.le_of_eq (len_push h v).symm
  have s0 : ∀ c, h.calls.length ≤ (setH h c).calls.length := fun c => Nat.le_of_eq (len_set h c).symm
  have c0 : h.calls.length ≤ (callH ms h a args).calls.length := len_ite h0 (by simp)
  have r0 : ∀ v, h.calls.length ≤ (retH h v).calls.length := fun v => len_ite (Nat.le_of_eq (len_leave h).symm) (Nat.le_of_eq ((len_push _ v).trans (len_leave h)).symm)
  have k0 : ∀ b v, h.calls.length ≤ (backH h b v).calls.length := fun b v => len_ite h0 (Nat.le_of_eq ((len_push _ v).trans (len_backTo _ h b)).symm)
  have o0 : ∀ b v, h.calls.length ≤ (pokeH h b a v).calls.length := fun b v => by simp [pokeH]
  exact len_ite (p0 _) (len_ite (p0 _) (len_ite (p0 _) (len_ite (p0 _) (len_ite (s0 _) (len_ite (s0 _) (len_ite (len_ite (s0 _) h0) (len_ite c0 (len_ite (r0 _) (len_ite (p0 _) (len_ite (p0 _) (len_ite (o0 _ _) (len_ite (k0 _ _) (len_ite h0 h0)))))))))))))
theorem len_step (ms : Ms) (h : Hp) : h.calls.length ≤ (stepH ms h).calls.length :=
  len_ite (Nat.le_refl _) (len_ite (Nat.le_refl _) (len_ite (Nat.le_refl _) (Nat.le_trans (Nat.le_of_eq (len_set h _).symm) (len_do ms _ _ _ _))))
theorem len_run (ms : Ms) : ∀ (n : Nat) (h : Hp), h.calls.length ≤ (runH ms n h).calls.length
  | 0, _ => Nat.le_refl _
  | n + 1, h => len_ite (Nat.le_trans (len_step ms h) (len_run ms n _)) (Nat.le_refl _)

/-- what a run answers -/
def hRun (ms : Ms) (h : Hp) (n : Int) : Hp := if (heapOk ms h && inR n 0 400) = true then runH ms n.toNat h else ⟨[], 0, 0, [], 0⟩

end Go.Proofs.Ytnffknlgaiehdaa
