/-
  The program's methodOk and what it calls (isPlace, isKind, operandOf, the six fits) answer the plain functions; they write to nothing that was there.
-/
import Derived.Test.YtnffknlgaiehdaaProg
import Derived.Test.YtnffknlgaiehdaaPlain
import Derived.Deep.RegionHeld3

namespace Go.Proofs.Ytnffknlgaiehdaa
open Go.RowKit
theorem isPlace_any (n size : Int) (w : World) :
    Calls Try.prog 75 #[.int .i64 n, .int .i64 size] w fun e w' => e = .returned (.bool (inR n 0 (size - 1))) ∧ w' = w := by
  go_enter Try.func75, Try.ntmps75
  by_cases h : 0 ≤ n
  · go_wp2
    go_ret
    exact ⟨ret_bool (by rw [Bool.eq_iff_iff, inR_true, decide_eq_true_iff]; omega), rfl⟩
  · go_wp2
    go_ret
    exact ⟨ret_bool (by rw [eq_comm, inR_false]; omega), rfl⟩
theorem isKind_any (k : Int) (w : World) :
    Calls Try.prog 93 #[.int .i64 k] w fun e w' => e = .returned (.bool (inR k 1 18)) ∧ w' = w := by
  go_enter Try.func93, Try.ntmps93
  by_cases h : 1 ≤ k
  · go_wp2
    go_ret
    exact ⟨ret_bool (by rw [Bool.eq_iff_iff, inR_true, decide_eq_true_iff]; omega), rfl⟩
  · go_wp2
    go_ret
    exact ⟨ret_bool (by rw [eq_comm, inR_false]; omega), rfl⟩
def opTy (k : Int) : Nat :=
  if k = 1 then 131 else if k = 2 ∨ k = 3 then 132 else if k = 7 ∨ k = 8 then 133 else if k = 9 then 134
  else if k = 13 ∨ k = 14 then 135 else 136
theorem opTy_else (k : Int) (h1 : ¬ k = 1) (h2 : ¬ k = 2) (h3 : ¬ k = 3) (h7 : ¬ k = 7) (h8 : ¬ k = 8) (h9 : ¬ k = 9) (h13 : ¬ k = 13) (h14 : ¬ k = 14) : opTy k = 136 := by
  simp [opTy, h1, h2, h3, h7, h8, h9, h13, h14]
theorem opTy_six (k : Int) : (opTy k = 131 ∧ k = 1) ∨ (opTy k = 132 ∧ (k = 2 ∨ k = 3)) ∨ (opTy k = 133 ∧ (k = 7 ∨ k = 8)) ∨ (opTy k = 134 ∧ k = 9) ∨
    (opTy k = 135 ∧ (k = 13 ∨ k = 14)) ∨ (opTy k = 136 ∧ ¬ k = 1 ∧ ¬ k = 2 ∧ ¬ k = 3 ∧ ¬ k = 7 ∧ ¬ k = 8 ∧ ¬ k = 9 ∧ ¬ k = 13 ∧ ¬ k = 14) := by
  by_cases h1 : k = 1
  · subst h1; exact .inl ⟨rfl, rfl⟩
  by_cases h2 : k = 2
  · subst h2; exact .inr (.inl ⟨rfl, .inl rfl⟩)
  by_cases h3 : k = 3
  · subst h3; exact .inr (.inl ⟨rfl, .inr rfl⟩)
  by_cases h7 : k = 7
  · subst h7; exact .inr (.inr (.inl ⟨rfl, .inl rfl⟩))
  by_cases h8 : k = 8
  · subst h8; exact .inr (.inr (.inl ⟨rfl, .inr rfl⟩))
  by_cases h9 : k = 9
  · subst h9; exact .inr (.inr (.inr (.inl ⟨rfl, rfl⟩)))
  by_cases h13 : k = 13
  · subst h13; exact .inr (.inr (.inr (.inr (.inl ⟨rfl, .inl rfl⟩))))
  by_cases h14 : k = 14
  · subst h14; exact .inr (.inr (.inr (.inr (.inl ⟨rfl, .inr rfl⟩))))
  exact .inr (.inr (.inr (.inr (.inr ⟨opTy_else k h1 h2 h3 h7 h8 h9 h13 h14, h1, h2, h3, h7, h8, h9, h13, h14⟩))))
set_option maxHeartbeats 1000000 in
theorem operandOf_any (k a : Int) (w : World) :
    Calls Try.prog 94 #[.agg #[.int .i64 k, .int .i64 a]] w fun e w' => e = .returned (.iface (opTy k) (.int .i64 a)) ∧ Below w.heap.size w w' := by
  have hB : ∀ o1, Below w.heap.size w (w.alloc o1) := fun o1 => (Below.refl _ _).alloc (Nat.le_refl _) _
  by_cases h1 : k = 1
  · subst h1
    go_enter Try.func94, Try.ntmps94
    go_wp2
    go_ret
    exact ⟨rfl, hB _⟩
  by_cases h2 : k = 2
  · subst h2
    go_enter Try.func94, Try.ntmps94
    go_wp2
    go_ret
    exact ⟨rfl, hB _⟩
  by_cases h3 : k = 3
  · subst h3
    go_enter Try.func94, Try.ntmps94
    go_wp2
    go_ret
    exact ⟨rfl, hB _⟩
  by_cases h7 : k = 7
  · subst h7
    go_enter Try.func94, Try.ntmps94
    go_wp2
    go_ret
    exact ⟨rfl, hB _⟩
  by_cases h8 : k = 8
  · subst h8
    go_enter Try.func94, Try.ntmps94
    go_wp2
    go_ret
    exact ⟨rfl, hB _⟩
  by_cases h9 : k = 9
  · subst h9
    go_enter Try.func94, Try.ntmps94
    go_wp2
    go_ret
    exact ⟨rfl, hB _⟩
  by_cases h13 : k = 13
  · subst h13
    go_enter Try.func94, Try.ntmps94
    go_wp2
    go_ret
    exact ⟨rfl, hB _⟩
  by_cases h14 : k = 14
  · subst h14
    go_enter Try.func94, Try.ntmps94
    go_wp2
    go_ret
    exact ⟨rfl, hB _⟩
  rw [opTy_else k h1 h2 h3 h7 h8 h9 h13 h14]
  have e1 := beq_eq_false_iff_ne.2 h1
  have e2 := beq_eq_false_iff_ne.2 h2
  have e3 := beq_eq_false_iff_ne.2 h3
  have e7 := beq_eq_false_iff_ne.2 h7
  have e8 := beq_eq_false_iff_ne.2 h8
  have e9 := beq_eq_false_iff_ne.2 h9
  have e13 := beq_eq_false_iff_ne.2 h13
  have e14 := beq_eq_false_iff_ne.2 h14
  clear h1 h2 h3 h7 h8 h9 h13 h14
  go_enter Try.func94, Try.ntmps94
  go_wp2
  go_ret
  exact ⟨rfl, hB _⟩
section
variable (a : Int) (ap : Option Addr) (nm cp : Nat) (x t : Int) (ao : Option Addr) (no co : Nat) (w : World)
theorem numFits_any : Calls Try.prog 115 #[.int .i64 a, .agg #[.slice ap nm cp], .agg #[.int .i64 x, .int .i64 t, .slice ao no co]] w fun e w' => e = .returned (.bool (inR a 0 99)) ∧ Below w.heap.size w w' := by
  go_enter Try.func115, Try.ntmps115
  go_wp2_with (go_at_call 75; refine (isPlace_any _ _ _).mono ?_; rintro e w' ⟨rfl, rfl⟩)
  go_ret
  exact ⟨rfl, ((Below.refl _ _).alloc (Nat.le_refl _) _).alloc (by simp) _⟩
theorem tempFits_any : Calls Try.prog 116 #[.int .i64 a, .agg #[.slice ap nm cp], .agg #[.int .i64 x, .int .i64 t, .slice ao no co]] w fun e w' => e = .returned (.bool (inR a 0 (t - 1))) ∧ Below w.heap.size w w' := by
  go_enter Try.func116, Try.ntmps116
  go_wp2_with (go_at_call 75; refine (isPlace_any _ _ _).mono ?_; rintro e w' ⟨rfl, rfl⟩)
  go_ret
  exact ⟨rfl, ((Below.refl _ _).alloc (Nat.le_refl _) _).alloc (by simp) _⟩
theorem placeFits_any : Calls Try.prog 117 #[.int .i64 a, .agg #[.slice ap nm cp], .agg #[.int .i64 x, .int .i64 t, .slice ao no co]] w fun e w' => e = .returned (.bool (inR a 0 ((no : Int) - 1))) ∧ Below w.heap.size w w' := by
  go_enter Try.func117, Try.ntmps117
  go_wp2_with (go_at_call 75; refine (isPlace_any _ _ _).mono ?_; rintro e w' ⟨rfl, rfl⟩)
  go_ret
  exact ⟨rfl, ((Below.refl _ _).alloc (Nat.le_refl _) _).alloc (by simp) _⟩
theorem methodFits_any : Calls Try.prog 118 #[.int .i64 a, .agg #[.slice ap nm cp], .agg #[.int .i64 x, .int .i64 t, .slice ao no co]] w fun e w' => e = .returned (.bool (inR a 0 ((nm : Int) - 1))) ∧ Below w.heap.size w w' := by
  go_enter Try.func118, Try.ntmps118
  go_wp2_with (go_at_call 75; refine (isPlace_any _ _ _).mono ?_; rintro e w' ⟨rfl, rfl⟩)
  go_ret
  exact ⟨rfl, ((Below.refl _ _).alloc (Nat.le_refl _) _).alloc (by simp) _⟩
theorem peekFits_any : Calls Try.prog 119 #[.int .i64 a, .agg #[.slice ap nm cp], .agg #[.int .i64 x, .int .i64 t, .slice ao no co]] w fun e w' => e = .returned (.bool (inR a 0 3)) ∧ Below w.heap.size w w' := by
  go_enter Try.func119, Try.ntmps119
  go_wp2_with (go_at_call 75; refine (isPlace_any _ _ _).mono ?_; rintro e w' ⟨rfl, rfl⟩)
  go_ret
  exact ⟨rfl, ((Below.refl _ _).alloc (Nat.le_refl _) _).alloc (by simp) _⟩
theorem noFits_any : Calls Try.prog 120 #[.int .i64 a, .agg #[.slice ap nm cp], .agg #[.int .i64 x, .int .i64 t, .slice ao no co]] w fun e w' => e = .returned (.bool (a == 0)) ∧ Below w.heap.size w w' := by
  go_enter Try.func120, Try.ntmps120
  go_wp2
  go_ret
  exact ⟨rfl, ((Below.refl _ _).alloc (Nat.le_refl _) _).alloc (by simp) _⟩
end
end Go.Proofs.Ytnffknlgaiehdaa
