/-
  The document's model of ProgOk (spec.ProgOk and what it calls) answers the plain function progOk; it writes to nothing that was there.
-/
import Derived.Test.YtmifhlkcceafkaaGreatProg
import Derived.Test.YtmifhlkcceafkaaGreatHPlain
import Derived.Deep.RegionHeld3

namespace Go.Proofs.YtmifhlkcceafkaaGreat
open Go.RowKit
theorem l6In_any (n lo hi : Int) (w : World) :
    Calls Tryz.prog 54 #[.int .i64 n, .int .i64 lo, .int .i64 hi] w fun e w' => e = .returned (.bool (inR n lo hi)) ∧ w' = w := by
  go_enter Tryz.func54, Tryz.ntmps54
  by_cases h : lo ≤ n
  · go_wp2
    go_ret
    exact ⟨ret_bool (by simp [inR, h]), rfl⟩
  · go_wp2
    go_ret
    exact ⟨ret_bool (by rw [eq_comm, inR_false]; omega), rfl⟩
set_option maxHeartbeats 1000000 in
theorem l1Op_any (ap : Option Addr) (nm cp : Nat) (x t : Int) (ao : Option Addr) (no co : Nat) (k a : Int) (w : World) (ht0 : 0 ≤ t) (ht4 : t ≤ 4) (hnm : nm ≤ maxLen) (hno : no ≤ maxLen) :
    Calls Tryz.prog 97 #[.agg #[.slice ap nm cp], .agg #[.int .i64 x, .int .i64 t, .slice ao no co], .agg #[.int .i64 k, .int .i64 a]] w fun e w' => e = .returned (.bool (opOk nm no t k a)) ∧ Below w.heap.size w w' := by
  unfold maxLen at hnm hno
  have hB : ∀ o1 o2 o3, Below w.heap.size w (((w.alloc o1).alloc o2).alloc o3) := fun o1 o2 o3 => (((Below.refl _ _).alloc (Nat.le_refl _) _).alloc (by simp) _).alloc (by simp; omega) _
  by_cases h1 : k = 1
  · subst h1
    go_enter Tryz.func97, Tryz.ntmps97
    go_wp2_with (go_at_call 54; refine (l6In_any _ _ _ _).mono ?_; rintro e w' ⟨rfl, rfl⟩)
    go_ret
    exact ⟨rfl, hB _ _ _⟩
  by_cases h2 : k = 2
  · subst h2
    go_enter Tryz.func97, Tryz.ntmps97
    go_wp2_with (go_at_call 54; refine (l6In_any _ _ _ _).mono ?_; rintro e w' ⟨rfl, rfl⟩)
    go_ret
    exact ⟨rfl, hB _ _ _⟩
  by_cases h3 : k = 3
  · subst h3
    go_enter Tryz.func97, Tryz.ntmps97
    go_wp2_with (go_at_call 54; refine (l6In_any _ _ _ _).mono ?_; rintro e w' ⟨rfl, rfl⟩)
    go_ret
    exact ⟨rfl, hB _ _ _⟩
  by_cases h7 : k = 7
  · subst h7
    go_enter Tryz.func97, Tryz.ntmps97
    go_wp2_with (go_at_call 54; refine (l6In_any _ _ _ _).mono ?_; rintro e w' ⟨rfl, rfl⟩)
    go_ret
    exact ⟨rfl, hB _ _ _⟩
  by_cases h8 : k = 8
  · subst h8
    go_enter Tryz.func97, Tryz.ntmps97
    go_wp2_with (go_at_call 54; refine (l6In_any _ _ _ _).mono ?_; rintro e w' ⟨rfl, rfl⟩)
    go_ret
    exact ⟨rfl, hB _ _ _⟩
  by_cases h9 : k = 9
  · subst h9
    go_enter Tryz.func97, Tryz.ntmps97
    go_wp2_with (go_at_call 54; refine (l6In_any _ _ _ _).mono ?_; rintro e w' ⟨rfl, rfl⟩)
    go_ret
    exact ⟨rfl, hB _ _ _⟩
  by_cases h13 : k = 13
  · subst h13
    go_enter Tryz.func97, Tryz.ntmps97
    go_wp2_with (go_at_call 54; refine (l6In_any _ _ _ _).mono ?_; rintro e w' ⟨rfl, rfl⟩)
    go_ret
    exact ⟨rfl, hB _ _ _⟩
  by_cases h14 : k = 14
  · subst h14
    go_enter Tryz.func97, Tryz.ntmps97
    go_wp2_with (go_at_call 54; refine (l6In_any _ _ _ _).mono ?_; rintro e w' ⟨rfl, rfl⟩)
    go_ret
    exact ⟨rfl, hB _ _ _⟩
  rw [opOk_else nm no t k a h1 h2 h3 h7 h8 h9 h13 h14]
  have e1 := beq_eq_false_iff_ne.2 h1
  have e2 := beq_eq_false_iff_ne.2 h2
  have e3 := beq_eq_false_iff_ne.2 h3
  have e7 := beq_eq_false_iff_ne.2 h7
  have e8 := beq_eq_false_iff_ne.2 h8
  have e9 := beq_eq_false_iff_ne.2 h9
  have e13 := beq_eq_false_iff_ne.2 h13
  have e14 := beq_eq_false_iff_ne.2 h14
  clear h1 h2 h3 h7 h8 h9 h13 h14
  cases hk : inR k 1 18
  all_goals
    go_enter Tryz.func97, Tryz.ntmps97
    go_wp2_with (go_at_call 54; refine (l6In_any _ _ _ _).mono ?_; rintro e w' ⟨rfl, rfl⟩)
    go_ret
    exact ⟨rfl, hB _ _ _⟩
set_option maxHeartbeats 1000000 in
theorem l1Method_any (ap : Option Addr) (nm cp : Nat) (x t : Int) (vo : Value) (ops : List (Int × Int)) (w : World) (h : OpsAt w vo ops) (hnm : nm ≤ maxLen) :
    Calls Tryz.prog 86 #[.agg #[.slice ap nm cp], .agg #[.int .i64 x, .int .i64 t, vo]] w fun e w' => e = .returned (.bool (methOk nm (x, t, ops))) ∧ Below w.heap.size w w' := by
  obtain ⟨ao, co, rfl, hl, hc⟩ := h
  have hl' := hl
  have hB : ∀ o1 o2, Below w.heap.size w ((w.alloc o1).alloc o2) := fun o1 o2 => ((Below.refl _ _).alloc (Nat.le_refl _) _).alloc (by simp) _
  unfold maxLen at hl
  cases h1 : inR x 0 2
  · rw [methOk_no1 h1]
    go_enter Tryz.func86, Tryz.ntmps86
    go_wp2_with (go_at_call 54; refine (l6In_any _ _ _ _).mono ?_; rintro e w' ⟨rfl, rfl⟩)
    go_ret
    exact ⟨rfl, hB _ _⟩
  cases h2 : inR t x 4
  · rw [methOk_no2 h2]
    go_enter Tryz.func86, Tryz.ntmps86
    go_wp2_with (go_at_call 54; refine (l6In_any _ _ _ _).mono ?_; rintro e w' ⟨rfl, rfl⟩)
    go_ret
    exact ⟨rfl, hB _ _⟩
  by_cases h3 : ops.length ≤ 14
  case neg =>
    rw [methOk_no3 h3]
    have h3' : (14 : Int) < ops.length := by omega
    go_enter Tryz.func86, Tryz.ntmps86
    go_wp2_with (go_at_call 54; refine (l6In_any _ _ _ _).mono ?_; rintro e w' ⟨rfl, rfl⟩)
    go_ret
    exact ⟨rfl, hB _ _⟩
  have H : Hid (∀ b, opsOk nm t ops = b → methOk nm (x, t, ops) = b) := fun b hb => methOk_of h1 h2 h3 hb
  have ht := inR_true.1 h2
  have hx := inR_true.1 h1
  have h3' : ¬ (14 : Int) < ops.length := by omega
  go_enter Tryz.func86, Tryz.ntmps86
  go_wp2_with (go_at_call 54; refine (l6In_any _ _ _ _).mono ?_; rintro e w' ⟨rfl, rfl⟩)
  clear h1 h2 hB
  go_loopg [5] ops.length (fun g i wr => ∃ k : Nat, k ≤ ops.length ∧ g = ops.length - k ∧ i = .int .i64 k ∧ Boxes w wr (.slice ap nm cp) x t (.slice ao ops.length co) ∧ ∀ j, (hj : j < ops.length) → j < k → opOk nm ops.length t ops[j].1 ops[j].2 = true)
  case atStart => exact ⟨0, Nat.zero_le _, rfl, rfl, Boxes.new _ _ _ _ _ _ _, fun j _ h => absurd h (Nat.not_lt_zero _)⟩
  case round =>
    obtain ⟨k, hk, rfl, rfl, hbox, hall⟩ := hrel
    have HA : Hid (∀ j, (hj : j < ops.length) → j < k → opOk nm ops.length t ops[j].1 ops[j].2 = true) := hall
    clear hall
    obtain ⟨bp, ba, bb, bc, hb⟩ := id hbox
    by_cases hlt : k < ops.length
    · obtain ⟨b, o, rfl, c0, c1⟩ := hc k hlt
      have d0 := cell_below hb c0
      have d1 := cell_below hb c1
      clear c0 c1 hc
      have hkz : (k : Int) < (ops.length : Int) := by omega
      go_wp2_with fail
      go_region_held3 (fun w' => w'.cell? ⟨w.heap.size, 0, none⟩ = some (.slice ap nm cp) ∧ w'.cell? ⟨w.heap.size + 1, 0, none⟩ = some (.int .i64 x) ∧ w'.cell? ⟨w.heap.size + 1, 1, none⟩ = some (.int .i64 t) ∧ w'.cell? ⟨w.heap.size + 1, 2, none⟩ = some (.slice (some ⟨b, o, none⟩) ops.length co) ∧ w'.cell? ⟨b, o + k * 2, none⟩ = some (.int .i64 ops[k].1) ∧ w'.cell? ⟨b, o + k * 2 + 1, none⟩ = some (.int .i64 ops[k].2))
        (first | go_keep | (refine ⟨cell_below hb1 ?_, cell_below hb1 ?_, cell_below hb1 ?_, cell_below hb1 ?_, cell_below hb1 ?_, cell_below hb1 ?_⟩ <;> assumption))
        ((go_at_call 97; refine (l1Op_any _ _ _ _ _ _ _ _ _ _ _ (by omega) (by omega) hnm hl').mono ?_; rintro e w1 ⟨rfl, hb1⟩))
      have hbox1 : Boxes w w1 (.slice ap nm cp) x t (.slice (some ⟨b, o, none⟩) ops.length co) := (hbox.go (Below.refl _ _).drew).go hb1
      clear hb1 hbox bp ba bb bc hb d0 d1
      cases hq : opOk nm ops.length t ops[k].1 ops[k].2
      · have HF : Hid (methOk nm (x, t, ops) = false) := H.out _ (opsOk_no hlt hq)
        go_wp2
        go_ret
        exact ⟨ret_bool HF.out.symm, hbox1.below⟩
      · have HQ : Hid (opOk nm ops.length t ops[k].1 ops[k].2 = true) := hq
        go_wp2
        go_roundg (ops.length - (k + 1))
        case measure => omega
        case rel =>
          refine ⟨k + 1, by omega, rfl, by go_num, hbox1, fun j hj hjk => ?_⟩
          by_cases e : j = k
          · subst e; exact HQ.out
          · exact HA.out j hj (by omega)
    · obtain rfl : k = ops.length := by omega
      go_wp2
      go_ret
      exact ⟨ret_bool (H.out _ (opsOk_yes fun i hi => HA.out i hi hi)).symm, hb⟩
end Go.Proofs.YtmifhlkcceafkaaGreat

/-
  The program's methodOk and what it calls (isPlace, isKind, operandOf, the six fits) answer the plain functions; they write to nothing that was there.
-/
namespace Go.Proofs.YtmifhlkcceafkaaGreat
open Go.RowKit
theorem isPlace_any (n size : Int) (w : World) :
    Calls Tryz.prog 92 #[.int .i64 n, .int .i64 size] w fun e w' => e = .returned (.bool (inR n 0 (size - 1))) ∧ w' = w := by
  go_enter Tryz.func92, Tryz.ntmps92
  by_cases h : 0 ≤ n
  · go_wp2
    go_ret
    exact ⟨ret_bool (by rw [Bool.eq_iff_iff, inR_true, decide_eq_true_iff]; omega), rfl⟩
  · go_wp2
    go_ret
    exact ⟨ret_bool (by rw [eq_comm, inR_false]; omega), rfl⟩
theorem isKind_any (k : Int) (w : World) :
    Calls Tryz.prog 100 #[.int .i64 k] w fun e w' => e = .returned (.bool (inR k 1 18)) ∧ w' = w := by
  go_enter Tryz.func100, Tryz.ntmps100
  by_cases h : 1 ≤ k
  · go_wp2
    go_ret
    exact ⟨ret_bool (by rw [Bool.eq_iff_iff, inR_true, decide_eq_true_iff]; omega), rfl⟩
  · go_wp2
    go_ret
    exact ⟨ret_bool (by rw [eq_comm, inR_false]; omega), rfl⟩
def opTy (k : Int) : Nat :=
  if k = 1 then 166 else if k = 2 ∨ k = 3 then 167 else if k = 7 ∨ k = 8 then 168 else if k = 9 then 169
  else if k = 13 ∨ k = 14 then 170 else 171
theorem opTy_else (k : Int) (h1 : ¬ k = 1) (h2 : ¬ k = 2) (h3 : ¬ k = 3) (h7 : ¬ k = 7) (h8 : ¬ k = 8) (h9 : ¬ k = 9) (h13 : ¬ k = 13) (h14 : ¬ k = 14) : opTy k = 171 := by
  simp [opTy, h1, h2, h3, h7, h8, h9, h13, h14]
theorem opTy_six (k : Int) : (opTy k = 166 ∧ k = 1) ∨ (opTy k = 167 ∧ (k = 2 ∨ k = 3)) ∨ (opTy k = 168 ∧ (k = 7 ∨ k = 8)) ∨ (opTy k = 169 ∧ k = 9) ∨
    (opTy k = 170 ∧ (k = 13 ∨ k = 14)) ∨ (opTy k = 171 ∧ ¬ k = 1 ∧ ¬ k = 2 ∧ ¬ k = 3 ∧ ¬ k = 7 ∧ ¬ k = 8 ∧ ¬ k = 9 ∧ ¬ k = 13 ∧ ¬ k = 14) := by
  by_cases h1 : k = 1
  · subst h1; exact .inl ⟨rfl, rfl⟩
  by_cases h2 : k = 2
  · subst h2; exact .inr (.inl ⟨rfl, .inl rfl⟩)
  by_cases h3 : k = 3
  · subst h3; exact .inr (.inl ⟨rfl, .inr rfl⟩)
  by_cases h7 : k = 7
  · subst h7; exact .inr (.inr (.inl ⟨rfl, .inl rfl⟩))
  by_cases h8 : k = 8
  · subst h8; exact .inr (.inr (.inl ⟨rfl, .inr rfl⟩))
  by_cases h9 : k = 9
  · subst h9; exact .inr (.inr (.inr (.inl ⟨rfl, rfl⟩)))
  by_cases h13 : k = 13
  · subst h13; exact .inr (.inr (.inr (.inr (.inl ⟨rfl, .inl rfl⟩))))
  by_cases h14 : k = 14
  · subst h14; exact .inr (.inr (.inr (.inr (.inl ⟨rfl, .inr rfl⟩))))
  exact .inr (.inr (.inr (.inr (.inr ⟨opTy_else k h1 h2 h3 h7 h8 h9 h13 h14, h1, h2, h3, h7, h8, h9, h13, h14⟩))))
set_option maxHeartbeats 1000000 in
theorem operandOf_any (k a : Int) (w : World) :
    Calls Tryz.prog 101 #[.agg #[.int .i64 k, .int .i64 a]] w fun e w' => e = .returned (.iface (opTy k) (.int .i64 a)) ∧ Below w.heap.size w w' := by
  have hB : ∀ o1, Below w.heap.size w (w.alloc o1) := fun o1 => (Below.refl _ _).alloc (Nat.le_refl _) _
  by_cases h1 : k = 1
  · subst h1
    go_enter Tryz.func101, Tryz.ntmps101
    go_wp2
    go_ret
    exact ⟨rfl, hB _⟩
  by_cases h2 : k = 2
  · subst h2
    go_enter Tryz.func101, Tryz.ntmps101
    go_wp2
    go_ret
    exact ⟨rfl, hB _⟩
  by_cases h3 : k = 3
  · subst h3
    go_enter Tryz.func101, Tryz.ntmps101
    go_wp2
    go_ret
    exact ⟨rfl, hB _⟩
  by_cases h7 : k = 7
  · subst h7
    go_enter Tryz.func101, Tryz.ntmps101
    go_wp2
    go_ret
    exact ⟨rfl, hB _⟩
  by_cases h8 : k = 8
  · subst h8
    go_enter Tryz.func101, Tryz.ntmps101
    go_wp2
    go_ret
    exact ⟨rfl, hB _⟩
  by_cases h9 : k = 9
  · subst h9
    go_enter Tryz.func101, Tryz.ntmps101
    go_wp2
    go_ret
    exact ⟨rfl, hB _⟩
  by_cases h13 : k = 13
  · subst h13
    go_enter Tryz.func101, Tryz.ntmps101
    go_wp2
    go_ret
    exact ⟨rfl, hB _⟩
  by_cases h14 : k = 14
  · subst h14
    go_enter Tryz.func101, Tryz.ntmps101
    go_wp2
    go_ret
    exact ⟨rfl, hB _⟩
  rw [opTy_else k h1 h2 h3 h7 h8 h9 h13 h14]
  have e1 := beq_eq_false_iff_ne.2 h1
  have e2 := beq_eq_false_iff_ne.2 h2
  have e3 := beq_eq_false_iff_ne.2 h3
  have e7 := beq_eq_false_iff_ne.2 h7
  have e8 := beq_eq_false_iff_ne.2 h8
  have e9 := beq_eq_false_iff_ne.2 h9
  have e13 := beq_eq_false_iff_ne.2 h13
  have e14 := beq_eq_false_iff_ne.2 h14
  clear h1 h2 h3 h7 h8 h9 h13 h14
  go_enter Tryz.func101, Tryz.ntmps101
  go_wp2
  go_ret
  exact ⟨rfl, hB _⟩
section
variable (a : Int) (ap : Option Addr) (nm cp : Nat) (x t : Int) (ao : Option Addr) (no co : Nat) (w : World)
theorem numFits_any : Calls Tryz.prog 124 #[.int .i64 a, .agg #[.slice ap nm cp], .agg #[.int .i64 x, .int .i64 t, .slice ao no co]] w fun e w' => e = .returned (.bool (inR a 0 99)) ∧ Below w.heap.size w w' := by
  go_enter Tryz.func124, Tryz.ntmps124
  go_wp2_with (go_at_call 92; refine (isPlace_any _ _ _).mono ?_; rintro e w' ⟨rfl, rfl⟩)
  go_ret
  exact ⟨rfl, ((Below.refl _ _).alloc (Nat.le_refl _) _).alloc (by simp) _⟩
theorem tempFits_any : Calls Tryz.prog 125 #[.int .i64 a, .agg #[.slice ap nm cp], .agg #[.int .i64 x, .int .i64 t, .slice ao no co]] w fun e w' => e = .returned (.bool (inR a 0 (t - 1))) ∧ Below w.heap.size w w' := by
  go_enter Tryz.func125, Tryz.ntmps125
  go_wp2_with (go_at_call 92; refine (isPlace_any _ _ _).mono ?_; rintro e w' ⟨rfl, rfl⟩)
  go_ret
  exact ⟨rfl, ((Below.refl _ _).alloc (Nat.le_refl _) _).alloc (by simp) _⟩
theorem placeFits_any : Calls Tryz.prog 126 #[.int .i64 a, .agg #[.slice ap nm cp], .agg #[.int .i64 x, .int .i64 t, .slice ao no co]] w fun e w' => e = .returned (.bool (inR a 0 ((no : Int) - 1))) ∧ Below w.heap.size w w' := by
  go_enter Tryz.func126, Tryz.ntmps126
  go_wp2_with (go_at_call 92; refine (isPlace_any _ _ _).mono ?_; rintro e w' ⟨rfl, rfl⟩)
  go_ret
  exact ⟨rfl, ((Below.refl _ _).alloc (Nat.le_refl _) _).alloc (by simp) _⟩
theorem methodFits_any : Calls Tryz.prog 127 #[.int .i64 a, .agg #[.slice ap nm cp], .agg #[.int .i64 x, .int .i64 t, .slice ao no co]] w fun e w' => e = .returned (.bool (inR a 0 ((nm : Int) - 1))) ∧ Below w.heap.size w w' := by
  go_enter Tryz.func127, Tryz.ntmps127
  go_wp2_with (go_at_call 92; refine (isPlace_any _ _ _).mono ?_; rintro e w' ⟨rfl, rfl⟩)
  go_ret
  exact ⟨rfl, ((Below.refl _ _).alloc (Nat.le_refl _) _).alloc (by simp) _⟩
theorem peekFits_any : Calls Tryz.prog 128 #[.int .i64 a, .agg #[.slice ap nm cp], .agg #[.int .i64 x, .int .i64 t, .slice ao no co]] w fun e w' => e = .returned (.bool (inR a 0 3)) ∧ Below w.heap.size w w' := by
  go_enter Tryz.func128, Tryz.ntmps128
  go_wp2_with (go_at_call 92; refine (isPlace_any _ _ _).mono ?_; rintro e w' ⟨rfl, rfl⟩)
  go_ret
  exact ⟨rfl, ((Below.refl _ _).alloc (Nat.le_refl _) _).alloc (by simp) _⟩
theorem noFits_any : Calls Tryz.prog 129 #[.int .i64 a, .agg #[.slice ap nm cp], .agg #[.int .i64 x, .int .i64 t, .slice ao no co]] w fun e w' => e = .returned (.bool (a == 0)) ∧ Below w.heap.size w w' := by
  go_enter Tryz.func129, Tryz.ntmps129
  go_wp2
  go_ret
  exact ⟨rfl, ((Below.refl _ _).alloc (Nat.le_refl _) _).alloc (by simp) _⟩
end
end Go.Proofs.YtmifhlkcceafkaaGreat
