/-
  The program's methodOk and what it calls (isPlace, isKind, operandOf, the six fits) answer the plain functions; they write to nothing that was there.
-/
import Derived.Test.YtldiccheboipeaaProg
import Derived.Test.YtldiccheboipeaaPlain
import Derived.Deep.RegionHeld3
namespace Go.Proofs.Ytldiccheboipeaa
open Go.RowKit

theorem isPlace_any (n size : Int) (w : World) :
    Calls Try.prog 56 #[.int .i64 n, .int .i64 size] w fun e w' => e = .returned (.bool (inR n 0 (size - 1))) ∧ w' = w := by
  go_enter Try.func56, Try.ntmps56
  by_cases h : 0 ≤ n
  · go_wp2
    go_ret
    exact ⟨ret_bool (by rw [Bool.eq_iff_iff, inR_true, decide_eq_true_iff]; omega), rfl⟩
  · go_wp2
    go_ret
    exact ⟨ret_bool (by rw [eq_comm, inR_false]; omega), rfl⟩

theorem isKind_any (k : Int) (w : World) :
    Calls Try.prog 125 #[.int .i64 k] w fun e w' => e = .returned (.bool (inR k 1 18)) ∧ w' = w := by
  go_enter Try.func125, Try.ntmps125
  by_cases h : 1 ≤ k
  · go_wp2
    go_ret
    exact ⟨ret_bool (by rw [Bool.eq_iff_iff, inR_true, decide_eq_true_iff]; omega), rfl⟩
  · go_wp2
    go_ret
    exact ⟨ret_bool (by rw [eq_comm, inR_false]; omega), rfl⟩

/-- the type of what belongs to an operation -/
def opTy (k : Int) : Nat :=
  if k = 1 then 199 else if k = 2 ∨ k = 3 then 200 else if k = 7 ∨ k = 8 then 201 else if k = 9 then 202
  else if k = 13 ∨ k = 14 then 203 else 204

theorem opTy_else (k : Int) (h1 : ¬ k = 1) (h2 : ¬ k = 2) (h3 : ¬ k = 3) (h7 : ¬ k = 7) (h8 : ¬ k = 8) (h9 : ¬ k = 9) (h13 : ¬ k = 13) (h14 : ¬ k = 14) : opTy k = 204 := by
  simp [opTy, h1, h2, h3, h7, h8, h9, h13, h14]

theorem opTy_six (k : Int) : (opTy k = 199 ∧ k = 1) ∨ (opTy k = 200 ∧ (k = 2 ∨ k = 3)) ∨ (opTy k = 201 ∧ (k = 7 ∨ k = 8)) ∨ (opTy k = 202 ∧ k = 9) ∨
    (opTy k = 203 ∧ (k = 13 ∨ k = 14)) ∨ (opTy k = 204 ∧ ¬ k = 1 ∧ ¬ k = 2 ∧ ¬ k = 3 ∧ ¬ k = 7 ∧ ¬ k = 8 ∧ ¬ k = 9 ∧ ¬ k = 13 ∧ ¬ k = 14) := by
  by_cases h1 : k = 1
  · subst h1; exact .inl ⟨rfl, rfl⟩
  by_cases h2 : k = 2
  · subst h2; exact .inr (.inl ⟨rfl, .inl rfl⟩)
  by_cases h3 : k = 3
  · subst h3; exact .inr (.inl ⟨rfl, .inr rfl⟩)
  by_cases h7 : k = 7
  · subst h7; exact .inr (.inr (.inl ⟨rfl, .inl rfl⟩))
  by_cases h8 : k = 8
  · subst h8; exact .inr (.inr (.inl ⟨rfl, .inr rfl⟩))
  by_cases h9 : k = 9
  · subst h9; exact .inr (.inr (.inr (.inl ⟨rfl, rfl⟩)))
  by_cases h13 : k = 13
  · subst h13; exact .inr (.inr (.inr (.inr (.inl ⟨rfl, .inl rfl⟩))))
  by_cases h14 : k = 14
  · subst h14; exact .inr (.inr (.inr (.inr (.inl ⟨rfl, .inr rfl⟩))))
  exact .inr (.inr (.inr (.inr (.inr ⟨opTy_else k h1 h2 h3 h7 h8 h9 h13 h14, h1, h2, h3, h7, h8, h9, h13, h14⟩))))

set_option maxHeartbeats 1000000 in
theorem operandOf_any (k a : Int) (w : World) :
    Calls Try.prog 126 #[.agg #[.int .i64 k, .int .i64 a]] w fun e w' => e = .returned (.iface (opTy k) (.int .i64 a)) ∧ Below w.heap.size w w' := by
  have hB : ∀ o1, Below w.heap.size w (w.alloc o1) := fun o1 => (Below.refl _ _).alloc (Nat.le_refl _) _
  by_cases h1 : k = 1
  · subst h1
    go_enter Try.func126, Try.ntmps126
    go_wp2
    go_ret
    exact ⟨rfl, hB _⟩
  by_cases h2 : k = 2
  · subst h2
    go_enter Try.func126, Try.ntmps126
    go_wp2
    go_ret
    exact ⟨rfl, hB _⟩
  by_cases h3 : k = 3
  · subst h3
    go_enter Try.func126, Try.ntmps126
    go_wp2
    go_ret
    exact ⟨rfl, hB _⟩
  by_cases h7 : k = 7
  · subst h7
    go_enter Try.func126, Try.ntmps126
    go_wp2
    go_ret
    exact ⟨rfl, hB _⟩
  by_cases h8 : k = 8
  · subst h8
    go_enter Try.func126, Try.ntmps126
    go_wp2
    go_ret
    exact ⟨rfl, hB _⟩
  by_cases h9 : k = 9
  · subst h9
    go_enter Try.func126, Try.ntmps126
    go_wp2
    go_ret
    exact ⟨rfl, hB _⟩
  by_cases h13 : k = 13
  · subst h13
    go_enter Try.func126, Try.ntmps126
    go_wp2
    go_ret
    exact ⟨rfl, hB _⟩
  by_cases h14 : k = 14
  · subst h14
    go_enter Try.func126, Try.ntmps126
    go_wp2
    go_ret
    exact ⟨rfl, hB _⟩
  rw [opTy_else k h1 h2 h3 h7 h8 h9 h13 h14]
  have e1 := beq_eq_false_iff_ne.2 h1
  have e2 := beq_eq_false_iff_ne.2 h2
  have e3 := beq_eq_false_iff_ne.2 h3
  have e7 := beq_eq_false_iff_ne.2 h7
  have e8 := beq_eq_false_iff_ne.2 h8
  have e9 := beq_eq_false_iff_ne.2 h9
  have e13 := beq_eq_false_iff_ne.2 h13
  have e14 := beq_eq_false_iff_ne.2 h14
  clear h1 h2 h3 h7 h8 h9 h13 h14
  go_enter Try.func126, Try.ntmps126
  go_wp2
  go_ret
  exact ⟨rfl, hB _⟩

section
variable (a : Int) (ap : Option Addr) (nm cp : Nat) (x t : Int) (ao : Option Addr) (no co : Nat) (w : World)

theorem numFits_any : Calls Try.prog 234 #[.int .i64 a, .agg #[.slice ap nm cp], .agg #[.int .i64 x, .int .i64 t, .slice ao no co]] w fun e w' => e = .returned (.bool (inR a 0 99)) ∧ Below w.heap.size w w' := by
  go_enter Try.func234, Try.ntmps234
  go_wp2_with (go_at_call 56; refine (isPlace_any _ _ _).mono ?_; rintro e w' ⟨rfl, rfl⟩)
  go_ret
  exact ⟨rfl, ((Below.refl _ _).alloc (Nat.le_refl _) _).alloc (by simp) _⟩

theorem tempFits_any : Calls Try.prog 235 #[.int .i64 a, .agg #[.slice ap nm cp], .agg #[.int .i64 x, .int .i64 t, .slice ao no co]] w fun e w' => e = .returned (.bool (inR a 0 (t - 1))) ∧ Below w.heap.size w w' := by
  go_enter Try.func235, Try.ntmps235
  go_wp2_with (go_at_call 56; refine (isPlace_any _ _ _).mono ?_; rintro e w' ⟨rfl, rfl⟩)
  go_ret
  exact ⟨rfl, ((Below.refl _ _).alloc (Nat.le_refl _) _).alloc (by simp) _⟩

theorem placeFits_any : Calls Try.prog 236 #[.int .i64 a, .agg #[.slice ap nm cp], .agg #[.int .i64 x, .int .i64 t, .slice ao no co]] w fun e w' => e = .returned (.bool (inR a 0 ((no : Int) - 1))) ∧ Below w.heap.size w w' := by
  go_enter Try.func236, Try.ntmps236
  go_wp2_with (go_at_call 56; refine (isPlace_any _ _ _).mono ?_; rintro e w' ⟨rfl, rfl⟩)
  go_ret
  exact ⟨rfl, ((Below.refl _ _).alloc (Nat.le_refl _) _).alloc (by simp) _⟩

theorem methodFits_any : Calls Try.prog 237 #[.int .i64 a, .agg #[.slice ap nm cp], .agg #[.int .i64 x, .int .i64 t, .slice ao no co]] w fun e w' => e = .returned (.bool (inR a 0 ((nm : Int) - 1))) ∧ Below w.heap.size w w' := by
  go_enter Try.func237, Try.ntmps237
  go_wp2_with (go_at_call 56; refine (isPlace_any _ _ _).mono ?_; rintro e w' ⟨rfl, rfl⟩)
  go_ret
  exact ⟨rfl, ((Below.refl _ _).alloc (Nat.le_refl _) _).alloc (by simp) _⟩

theorem peekFits_any : Calls Try.prog 238 #[.int .i64 a, .agg #[.slice ap nm cp], .agg #[.int .i64 x, .int .i64 t, .slice ao no co]] w fun e w' => e = .returned (.bool (inR a 0 3)) ∧ Below w.heap.size w w' := by
  go_enter Try.func238, Try.ntmps238
  go_wp2_with (go_at_call 56; refine (isPlace_any _ _ _).mono ?_; rintro e w' ⟨rfl, rfl⟩)
  go_ret
  exact ⟨rfl, ((Below.refl _ _).alloc (Nat.le_refl _) _).alloc (by simp) _⟩

theorem noFits_any : Calls Try.prog 239 #[.int .i64 a, .agg #[.slice ap nm cp], .agg #[.int .i64 x, .int .i64 t, .slice ao no co]] w fun e w' => e = .returned (.bool (a == 0)) ∧ Below w.heap.size w w' := by
  go_enter Try.func239, Try.ntmps239
  go_wp2
  go_ret
  exact ⟨rfl, ((Below.refl _ _).alloc (Nat.le_refl _) _).alloc (by simp) _⟩

end

end Go.Proofs.Ytldiccheboipeaa
