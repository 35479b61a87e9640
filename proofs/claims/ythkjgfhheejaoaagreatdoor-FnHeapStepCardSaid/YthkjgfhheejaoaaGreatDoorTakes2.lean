import Derived.Test.YthkjgfhheejaoaaGreatDoorProg
import Derived.Test.YthkjgfhheejaoaaGreatDoorInts
import Derived.Deep.RegionHeld3
import Derived.BigQuiet
import Derived.Deep.QuietTactic

/-
  The document's model of ProgOk (spec.ProgOk and what it calls) answers the plain function progOk; it writes to nothing that was there.
-/
namespace Go.Proofs.YthkjgfhheejaoaaGreatDoor
open Go.RowKit

theorem l6In_any (n lo hi : Int) (w : World) :
    Calls Tryz.prog 45 #[.int .i64 n, .int .i64 lo, .int .i64 hi] w fun e w' => e = .returned (.bool (inR n lo hi)) ∧ w' = w := by
  go_enter Tryz.func45, Tryz.ntmps45
  by_cases h : lo ≤ n
  · go_wp2
    go_ret
    exact ⟨ret_bool (by simp [inR, h]), rfl⟩
  · go_wp2
    go_ret
    exact ⟨ret_bool (by rw [eq_comm, inR_false]; omega), rfl⟩

set_option maxHeartbeats 1000000 in
theorem l1Op_any (ap : Option Addr) (nm cp : Nat) (x t : Int) (ao : Option Addr) (no co : Nat) (k a : Int) (w : World) (ht0 : 0 ≤ t) (ht4 : t ≤ 4) (hnm : nm ≤ maxLen) (hno : no ≤ maxLen) :
    Calls Tryz.prog 80 #[.agg #[.slice ap nm cp], .agg #[.int .i64 x, .int .i64 t, .slice ao no co], .agg #[.int .i64 k, .int .i64 a]] w fun e w' => e = .returned (.bool (opOk nm no t k a)) ∧ Below w.heap.size w w' := by
  unfold maxLen at hnm hno
  have hB : ∀ o1 o2 o3, Below w.heap.size w (((w.alloc o1).alloc o2).alloc o3) := fun o1 o2 o3 => (((Below.refl _ _).alloc (Nat.le_refl _) _).alloc (by simp) _).alloc (by simp; omega) _
  by_cases h1 : k = 1
  · subst h1
    go_enter Tryz.func80, Tryz.ntmps80
    go_wp2_with (go_at_call 45; refine (l6In_any _ _ _ _).mono ?_; rintro e w' ⟨rfl, rfl⟩)
    go_ret
    exact ⟨rfl, hB _ _ _⟩
  by_cases h2 : k = 2
  · subst h2
    go_enter Tryz.func80, Tryz.ntmps80
    go_wp2_with (go_at_call 45; refine (l6In_any _ _ _ _).mono ?_; rintro e w' ⟨rfl, rfl⟩)
    go_ret
    exact ⟨rfl, hB _ _ _⟩
  by_cases h3 : k = 3
  · subst h3
    go_enter Tryz.func80, Tryz.ntmps80
    go_wp2_with (go_at_call 45; refine (l6In_any _ _ _ _).mono ?_; rintro e w' ⟨rfl, rfl⟩)
    go_ret
    exact ⟨rfl, hB _ _ _⟩
  by_cases h7 : k = 7
  · subst h7
    go_enter Tryz.func80, Tryz.ntmps80
    go_wp2_with (go_at_call 45; refine (l6In_any _ _ _ _).mono ?_; rintro e w' ⟨rfl, rfl⟩)
    go_ret
    exact ⟨rfl, hB _ _ _⟩
  by_cases h8 : k = 8
  · subst h8
    go_enter Tryz.func80, Tryz.ntmps80
    go_wp2_with (go_at_call 45; refine (l6In_any _ _ _ _).mono ?_; rintro e w' ⟨rfl, rfl⟩)
    go_ret
    exact ⟨rfl, hB _ _ _⟩
  by_cases h9 : k = 9
  · subst h9
    go_enter Tryz.func80, Tryz.ntmps80
    go_wp2_with (go_at_call 45; refine (l6In_any _ _ _ _).mono ?_; rintro e w' ⟨rfl, rfl⟩)
    go_ret
    exact ⟨rfl, hB _ _ _⟩
  by_cases h13 : k = 13
  · subst h13
    go_enter Tryz.func80, Tryz.ntmps80
    go_wp2_with (go_at_call 45; refine (l6In_any _ _ _ _).mono ?_; rintro e w' ⟨rfl, rfl⟩)
    go_ret
    exact ⟨rfl, hB _ _ _⟩
  by_cases h14 : k = 14
  · subst h14
    go_enter Tryz.func80, Tryz.ntmps80
    go_wp2_with (go_at_call 45; refine (l6In_any _ _ _ _).mono ?_; rintro e w' ⟨rfl, rfl⟩)
    go_ret
    exact ⟨rfl, hB _ _ _⟩
  rw [opOk_else nm no t k a h1 h2 h3 h7 h8 h9 h13 h14]
  have e1 := beq_eq_false_iff_ne.2 h1
  have e2 := beq_eq_false_iff_ne.2 h2
  have e3 := beq_eq_false_iff_ne.2 h3
  have e7 := beq_eq_false_iff_ne.2 h7
  have e8 := beq_eq_false_iff_ne.2 h8
  have e9 := beq_eq_false_iff_ne.2 h9
  have e13 := beq_eq_false_iff_ne.2 h13
  have e14 := beq_eq_false_iff_ne.2 h14
  clear h1 h2 h3 h7 h8 h9 h13 h14
  cases hk : inR k 1 18
  all_goals
    go_enter Tryz.func80, Tryz.ntmps80
    go_wp2_with (go_at_call 45; refine (l6In_any _ _ _ _).mono ?_; rintro e w' ⟨rfl, rfl⟩)
    go_ret
    exact ⟨rfl, hB _ _ _⟩

set_option maxHeartbeats 1000000 in
theorem l1Method_any (ap : Option Addr) (nm cp : Nat) (x t : Int) (vo : Value) (ops : List (Int × Int)) (w : World) (h : OpsAt w vo ops) (hnm : nm ≤ maxLen) :
    Calls Tryz.prog 64 #[.agg #[.slice ap nm cp], .agg #[.int .i64 x, .int .i64 t, vo]] w fun e w' => e = .returned (.bool (methOk nm (x, t, ops))) ∧ Below w.heap.size w w' := by
  obtain ⟨ao, co, rfl, hl, hc⟩ := h
  have hl' := hl
  have hB : ∀ o1 o2, Below w.heap.size w ((w.alloc o1).alloc o2) := fun o1 o2 => ((Below.refl _ _).alloc (Nat.le_refl _) _).alloc (by simp) _
  unfold maxLen at hl
  cases h1 : inR x 0 2
  · rw [methOk_no1 h1]
    go_enter Tryz.func64, Tryz.ntmps64
    go_wp2_with (go_at_call 45; refine (l6In_any _ _ _ _).mono ?_; rintro e w' ⟨rfl, rfl⟩)
    go_ret
    exact ⟨rfl, hB _ _⟩
  cases h2 : inR t x 4
  · rw [methOk_no2 h2]
    go_enter Tryz.func64, Tryz.ntmps64
    go_wp2_with (go_at_call 45; refine (l6In_any _ _ _ _).mono ?_; rintro e w' ⟨rfl, rfl⟩)
    go_ret
    exact ⟨rfl, hB _ _⟩
  by_cases h3 : ops.length ≤ 14
  case neg =>
    rw [methOk_no3 h3]
    have h3' : (14 : Int) < ops.length := by omega
    go_enter Tryz.func64, Tryz.ntmps64
    go_wp2_with (go_at_call 45; refine (l6In_any _ _ _ _).mono ?_; rintro e w' ⟨rfl, rfl⟩)
    go_ret
    exact ⟨rfl, hB _ _⟩
  have H : Hid (∀ b, opsOk nm t ops = b → methOk nm (x, t, ops) = b) := fun b hb => methOk_of h1 h2 h3 hb
  have ht := inR_true.1 h2
  have hx := inR_true.1 h1
  have h3' : ¬ (14 : Int) < ops.length := by omega
  go_enter Tryz.func64, Tryz.ntmps64
  go_wp2_with (go_at_call 45; refine (l6In_any _ _ _ _).mono ?_; rintro e w' ⟨rfl, rfl⟩)
  clear h1 h2 hB
  go_loopg [5] ops.length (fun g i wr => ∃ k : Nat, k ≤ ops.length ∧ g = ops.length - k ∧ i = .int .i64 k ∧ Boxes w wr (.slice ap nm cp) x t (.slice ao ops.length co) ∧ ∀ j, (hj : j < ops.length) → j < k → opOk nm ops.length t ops[j].1 ops[j].2 = true)
  case atStart => exact ⟨0, Nat.zero_le _, rfl, rfl, Boxes.new _ _ _ _ _ _ _, fun j _ h => absurd h (Nat.not_lt_zero _)⟩
  case round =>
    obtain ⟨k, hk, rfl, rfl, hbox, hall⟩ := hrel
    have HA : Hid (∀ j, (hj : j < ops.length) → j < k → opOk nm ops.length t ops[j].1 ops[j].2 = true) := hall
    clear hall
    obtain ⟨bp, ba, bb, bc, hb⟩ := id hbox
    by_cases hlt : k < ops.length
    · obtain ⟨b, o, rfl, c0, c1⟩ := hc k hlt
      have d0 := cell_below hb c0
      have d1 := cell_below hb c1
      clear c0 c1 hc
      have hkz : (k : Int) < (ops.length : Int) := by omega
      go_wp2_with fail
      go_region_held3 (fun w' => w'.cell? ⟨w.heap.size, 0, none⟩ = some (.slice ap nm cp) ∧ w'.cell? ⟨w.heap.size + 1, 0, none⟩ = some (.int .i64 x) ∧ w'.cell? ⟨w.heap.size + 1, 1, none⟩ = some (.int .i64 t) ∧ w'.cell? ⟨w.heap.size + 1, 2, none⟩ = some (.slice (some ⟨b, o, none⟩) ops.length co) ∧ w'.cell? ⟨b, o + k * 2, none⟩ = some (.int .i64 ops[k].1) ∧ w'.cell? ⟨b, o + k * 2 + 1, none⟩ = some (.int .i64 ops[k].2))
        (first | go_keep | (refine ⟨cell_below hb1 ?_, cell_below hb1 ?_, cell_below hb1 ?_, cell_below hb1 ?_, cell_below hb1 ?_, cell_below hb1 ?_⟩ <;> assumption))
        ((go_at_call 80; refine (l1Op_any _ _ _ _ _ _ _ _ _ _ _ (by omega) (by omega) hnm hl').mono ?_; rintro e w1 ⟨rfl, hb1⟩))
      have hbox1 : Boxes w w1 (.slice ap nm cp) x t (.slice (some ⟨b, o, none⟩) ops.length co) := (hbox.go (Below.refl _ _).drew).go hb1
      clear hb1 hbox bp ba bb bc hb d0 d1
      cases hq : opOk nm ops.length t ops[k].1 ops[k].2
      · have HF : Hid (methOk nm (x, t, ops) = false) := H.out _ (opsOk_no hlt hq)
        go_wp2
        go_ret
        exact ⟨ret_bool HF.out.symm, hbox1.below⟩
      · have HQ : Hid (opOk nm ops.length t ops[k].1 ops[k].2 = true) := hq
        go_wp2
        go_roundg (ops.length - (k + 1))
        case measure => omega
        case rel =>
          refine ⟨k + 1, by omega, rfl, by go_num, hbox1, fun j hj hjk => ?_⟩
          by_cases e : j = k
          · subst e; exact HQ.out
          · exact HA.out j hj (by omega)
    · obtain rfl : k = ops.length := by omega
      go_wp2
      go_ret
      exact ⟨ret_bool (H.out _ (opsOk_yes fun i hi => HA.out i hi hi)).symm, hb⟩

end Go.Proofs.YthkjgfhheejaoaaGreatDoor

/-
  The document's model of ProgOk, spec.ProgOk itself.
-/
namespace Go.Proofs.YthkjgfhheejaoaaGreatDoor
open Go.RowKit

set_option maxHeartbeats 1000000 in
theorem specProgOk_any (v : Value) (ms : List (Int × Int × List (Int × Int))) (w : World) (h : MethsAt w v ms) :
    Calls Tryz.prog 44 #[.agg #[v]] w fun e w' => e = .returned (.bool (progOk ms)) ∧ Below w.heap.size w w' := by
  obtain ⟨a, cap, rfl, hl, hc⟩ := h
  have hl' := hl
  have hB : ∀ o1, Below w.heap.size w (w.alloc o1) := fun o1 => (Below.refl _ _).alloc (Nat.le_refl _) _
  unfold maxLen at hl
  cases h1 : inR ms.length 1 4
  · rw [show progOk ms = false by simp [progOk, h1]]
    go_enter Tryz.func44, Tryz.ntmps44
    go_wp2_with (go_at_call 45; refine (l6In_any _ _ _ _).mono ?_; rintro e w' ⟨rfl, rfl⟩)
    go_ret
    exact ⟨rfl, hB _⟩
  have hlen := inR_true.1 h1
  have h0lt : 0 < ms.length := by omega
  have hx0 : (ms.getD 0 (0, 0, [])).1 = ms[0].1 := by simp [h0lt]
  obtain ⟨b, o, vo0, rfl, c0, c1, c2, c3⟩ := hc 0 h0lt
  have e0 : w.cell? ⟨b, o, none⟩ = some (.int .i64 ms[0].1) := by simpa using c0
  have hblt := World.block_lt_of_cell? _ _ e0
  have E0 : ∀ o1, (w.alloc o1).cell? ⟨b, o, none⟩ = some (.int .i64 ms[0].1) := fun o1 => cell_below (hB o1) e0
  clear c0 c1 c2 c3 e0 hblt
  cases h2 : (ms[0].1 == 0)
  · rw [show progOk ms = false by simp only [progOk, h1, hx0, h2]; rfl]
    have h2' : (ms[0].1 != 0) = true := by simp only [bne, h2]; rfl
    go_enter Tryz.func44, Tryz.ntmps44
    go_wp2_with (go_at_call 45; refine (l6In_any _ _ _ _).mono ?_; rintro e w' ⟨rfl, rfl⟩)
    go_ret
    exact ⟨rfl, hB _⟩
  have H : Hid (progOk ms = ms.all (methOk ms.length)) := by
    show progOk ms = _
    simp only [progOk, h1, hx0, h2, Bool.true_and]
  have h2' : (ms[0].1 != 0) = false := by simp only [bne, h2]; rfl
  go_enter Tryz.func44, Tryz.ntmps44
  go_wp2_with (go_at_call 45; refine (l6In_any _ _ _ _).mono ?_; rintro e w' ⟨rfl, rfl⟩)
  clear h1 h2 h2' hx0 hB E0
  go_loopg [3] ms.length (fun g i wr => ∃ k : Nat, k ≤ ms.length ∧ g = ms.length - k ∧ i = .int .i64 k ∧ wr.cell? ⟨w.heap.size, 0, none⟩ = some (.slice (some ⟨b, o, none⟩) ms.length cap) ∧ Below w.heap.size w wr ∧ ∀ j, (hj : j < ms.length) → j < k → methOk ms.length ms[j] = true)
  case atStart => exact ⟨0, Nat.zero_le _, rfl, rfl, by simp [go_sem], (Below.refl _ _).alloc (Nat.le_refl _) _, fun j _ h => absurd h (Nat.not_lt_zero _)⟩
  case round =>
    obtain ⟨k, hk, rfl, rfl, bp, hb, hall⟩ := hrel
    have HA : Hid (∀ j, (hj : j < ms.length) → j < k → methOk ms.length ms[j] = true) := hall
    clear hall
    have hsz := hb.size
    by_cases hlt : k < ms.length
    · obtain ⟨b', o', vo, hbo, c0, c1, c2, c3⟩ := hc k hlt
      obtain ⟨rfl, rfl⟩ : b = b' ∧ o = o' := by simpa using hbo
      have d0 := cell_below hb c0
      have d1 := cell_below hb c1
      have d2 := cell_below hb c2
      have d3 := (c3.below hb).below (Below.refl _ _).drew
      clear c0 c1 c2 c3 hc hbo
      obtain ⟨ao, co, hvo, _⟩ := id d3
      rw [hvo] at d2 d3
      clear hvo
      have hkz : (k : Int) < (ms.length : Int) := by omega
      go_wp2_with fail
      go_region_held3 (fun w' => w'.cell? ⟨w.heap.size, 0, none⟩ = some (.slice (some ⟨b, o, none⟩) ms.length cap) ∧ w'.cell? ⟨b, o + k * 3, none⟩ = some (.int .i64 ms[k].1) ∧ w'.cell? ⟨b, o + k * 3 + 1, none⟩ = some (.int .i64 ms[k].2.1) ∧ w'.cell? ⟨b, o + k * 3 + 2, none⟩ = some (.slice ao ms[k].2.2.length co))
        (first | go_keep | (refine ⟨cell_below hb1 ?_, cell_below hb1 ?_, cell_below hb1 ?_, cell_below hb1 ?_⟩ <;> assumption))
        ((go_at_call 64; refine (l1Method_any _ _ _ _ _ _ _ _ d3 hl').mono ?_; rintro e w1 ⟨rfl, hb1⟩))
      have bp1 := cell_below hb1 bp
      have hb2 : Below w.heap.size w w1 := hb.drew.trans (hb1.mono hsz)
      clear hb1 bp hb d0 d1 d2 d3
      cases hq : methOk ms.length (ms[k].1, ms[k].2.1, ms[k].2.2)
      · have HF : Hid (progOk ms = false) := H.out.trans (all_not hlt hq)
        go_wp2
        go_ret
        exact ⟨ret_bool HF.out.symm, hb2⟩
      · have HQ : Hid (methOk ms.length ms[k] = true) := hq
        go_wp2
        go_roundg (ms.length - (k + 1))
        case measure => omega
        case rel =>
          refine ⟨k + 1, by omega, rfl, by go_num, bp1, hb2, fun j hj hjk => ?_⟩
          by_cases e : j = k
          · subst e; exact HQ.out
          · exact HA.out j hj (by omega)
    · obtain rfl : k = ms.length := by omega
      go_wp2
      go_ret
      exact ⟨ret_bool (H.out.trans (all_of fun i hi => HA.out i hi hi)).symm, hb⟩

end Go.Proofs.YthkjgfhheejaoaaGreatDoor

/-
  The program's methodOk and what it calls (isPlace, isKind, operandOf, the six fits) answer the plain functions; they write to nothing that was there.
-/
namespace Go.Proofs.YthkjgfhheejaoaaGreatDoor
open Go.RowKit

theorem isPlace_any (n size : Int) (w : World) :
    Calls Tryz.prog 61 #[.int .i64 n, .int .i64 size] w fun e w' => e = .returned (.bool (inR n 0 (size - 1))) ∧ w' = w := by
  go_enter Tryz.func61, Tryz.ntmps61
  by_cases h : 0 ≤ n
  · go_wp2
    go_ret
    exact ⟨ret_bool (by rw [Bool.eq_iff_iff, inR_true, decide_eq_true_iff]; omega), rfl⟩
  · go_wp2
    go_ret
    exact ⟨ret_bool (by rw [eq_comm, inR_false]; omega), rfl⟩

theorem isKind_any (k : Int) (w : World) :
    Calls Tryz.prog 77 #[.int .i64 k] w fun e w' => e = .returned (.bool (inR k 1 18)) ∧ w' = w := by
  go_enter Tryz.func77, Tryz.ntmps77
  by_cases h : 1 ≤ k
  · go_wp2
    go_ret
    exact ⟨ret_bool (by rw [Bool.eq_iff_iff, inR_true, decide_eq_true_iff]; omega), rfl⟩
  · go_wp2
    go_ret
    exact ⟨ret_bool (by rw [eq_comm, inR_false]; omega), rfl⟩

/-- the type of what belongs to an operation -/
def opTy (k : Int) : Nat :=
  if k = 1 then 133 else if k = 2 ∨ k = 3 then 134 else if k = 7 ∨ k = 8 then 135 else if k = 9 then 136
  else if k = 13 ∨ k = 14 then 137 else 138

theorem opTy_else (k : Int) (h1 : ¬ k = 1) (h2 : ¬ k = 2) (h3 : ¬ k = 3) (h7 : ¬ k = 7) (h8 : ¬ k = 8) (h9 : ¬ k = 9) (h13 : ¬ k = 13) (h14 : ¬ k = 14) : opTy k = 138 := by
  simp [opTy, h1, h2, h3, h7, h8, h9, h13, h14]

theorem opTy_six (k : Int) : (opTy k = 133 ∧ k = 1) ∨ (opTy k = 134 ∧ (k = 2 ∨ k = 3)) ∨ (opTy k = 135 ∧ (k = 7 ∨ k = 8)) ∨ (opTy k = 136 ∧ k = 9) ∨
    (opTy k = 137 ∧ (k = 13 ∨ k = 14)) ∨ (opTy k = 138 ∧ ¬ k = 1 ∧ ¬ k = 2 ∧ ¬ k = 3 ∧ ¬ k = 7 ∧ ¬ k = 8 ∧ ¬ k = 9 ∧ ¬ k = 13 ∧ ¬ k = 14) := by
  by_cases h1 : k = 1
  · subst h1; exact .inl ⟨rfl, rfl⟩
  by_cases h2 : k = 2
  · subst h2; exact .inr (.inl ⟨rfl, .inl rfl⟩)
  by_cases h3 : k = 3
  · subst h3; exact .inr (.inl ⟨rfl, .inr rfl⟩)
  by_cases h7 : k = 7
  · subst h7; exact .inr (.inr (.inl ⟨rfl, .inl rfl⟩))
  by_cases h8 : k = 8
  · subst h8; exact .inr (.inr (.inl ⟨rfl, .inr rfl⟩))
  by_cases h9 : k = 9
  · subst h9; exact .inr (.inr (.inr (.inl ⟨rfl, rfl⟩)))
  by_cases h13 : k = 13
  · subst h13; exact .inr (.inr (.inr (.inr (.inl ⟨rfl, .inl rfl⟩))))
  by_cases h14 : k = 14
  · subst h14; exact .inr (.inr (.inr (.inr (.inl ⟨rfl, .inr rfl⟩))))
  exact .inr (.inr (.inr (.inr (.inr ⟨opTy_else k h1 h2 h3 h7 h8 h9 h13 h14, h1, h2, h3, h7, h8, h9, h13, h14⟩))))

set_option maxHeartbeats 1000000 in
theorem operandOf_any (k a : Int) (w : World) :
    Calls Tryz.prog 78 #[.agg #[.int .i64 k, .int .i64 a]] w fun e w' => e = .returned (.iface (opTy k) (.int .i64 a)) ∧ Below w.heap.size w w' := by
  have hB : ∀ o1, Below w.heap.size w (w.alloc o1) := fun o1 => (Below.refl _ _).alloc (Nat.le_refl _) _
  by_cases h1 : k = 1
  · subst h1
    go_enter Tryz.func78, Tryz.ntmps78
    go_wp2
    go_ret
    exact ⟨rfl, hB _⟩
  by_cases h2 : k = 2
  · subst h2
    go_enter Tryz.func78, Tryz.ntmps78
    go_wp2
    go_ret
    exact ⟨rfl, hB _⟩
  by_cases h3 : k = 3
  · subst h3
    go_enter Tryz.func78, Tryz.ntmps78
    go_wp2
    go_ret
    exact ⟨rfl, hB _⟩
  by_cases h7 : k = 7
  · subst h7
    go_enter Tryz.func78, Tryz.ntmps78
    go_wp2
    go_ret
    exact ⟨rfl, hB _⟩
  by_cases h8 : k = 8
  · subst h8
    go_enter Tryz.func78, Tryz.ntmps78
    go_wp2
    go_ret
    exact ⟨rfl, hB _⟩
  by_cases h9 : k = 9
  · subst h9
    go_enter Tryz.func78, Tryz.ntmps78
    go_wp2
    go_ret
    exact ⟨rfl, hB _⟩
  by_cases h13 : k = 13
  · subst h13
    go_enter Tryz.func78, Tryz.ntmps78
    go_wp2
    go_ret
    exact ⟨rfl, hB _⟩
  by_cases h14 : k = 14
  · subst h14
    go_enter Tryz.func78, Tryz.ntmps78
    go_wp2
    go_ret
    exact ⟨rfl, hB _⟩
  rw [opTy_else k h1 h2 h3 h7 h8 h9 h13 h14]
  have e1 := beq_eq_false_iff_ne.2 h1
  have e2 := beq_eq_false_iff_ne.2 h2
  have e3 := beq_eq_false_iff_ne.2 h3
  have e7 := beq_eq_false_iff_ne.2 h7
  have e8 := beq_eq_false_iff_ne.2 h8
  have e9 := beq_eq_false_iff_ne.2 h9
  have e13 := beq_eq_false_iff_ne.2 h13
  have e14 := beq_eq_false_iff_ne.2 h14
  clear h1 h2 h3 h7 h8 h9 h13 h14
  go_enter Tryz.func78, Tryz.ntmps78
  go_wp2
  go_ret
  exact ⟨rfl, hB _⟩

section
variable (a : Int) (ap : Option Addr) (nm cp : Nat) (x t : Int) (ao : Option Addr) (no co : Nat) (w : World)

theorem numFits_any : Calls Tryz.prog 146 #[.int .i64 a, .agg #[.slice ap nm cp], .agg #[.int .i64 x, .int .i64 t, .slice ao no co]] w fun e w' => e = .returned (.bool (inR a 0 99)) ∧ Below w.heap.size w w' := by
  go_enter Tryz.func146, Tryz.ntmps146
  go_wp2_with (go_at_call 61; refine (isPlace_any _ _ _).mono ?_; rintro e w' ⟨rfl, rfl⟩)
  go_ret
  exact ⟨rfl, ((Below.refl _ _).alloc (Nat.le_refl _) _).alloc (by simp) _⟩

theorem tempFits_any : Calls Tryz.prog 147 #[.int .i64 a, .agg #[.slice ap nm cp], .agg #[.int .i64 x, .int .i64 t, .slice ao no co]] w fun e w' => e = .returned (.bool (inR a 0 (t - 1))) ∧ Below w.heap.size w w' := by
  go_enter Tryz.func147, Tryz.ntmps147
  go_wp2_with (go_at_call 61; refine (isPlace_any _ _ _).mono ?_; rintro e w' ⟨rfl, rfl⟩)
  go_ret
  exact ⟨rfl, ((Below.refl _ _).alloc (Nat.le_refl _) _).alloc (by simp) _⟩

theorem placeFits_any : Calls Tryz.prog 148 #[.int .i64 a, .agg #[.slice ap nm cp], .agg #[.int .i64 x, .int .i64 t, .slice ao no co]] w fun e w' => e = .returned (.bool (inR a 0 ((no : Int) - 1))) ∧ Below w.heap.size w w' := by
  go_enter Tryz.func148, Tryz.ntmps148
  go_wp2_with (go_at_call 61; refine (isPlace_any _ _ _).mono ?_; rintro e w' ⟨rfl, rfl⟩)
  go_ret
  exact ⟨rfl, ((Below.refl _ _).alloc (Nat.le_refl _) _).alloc (by simp) _⟩

theorem methodFits_any : Calls Tryz.prog 149 #[.int .i64 a, .agg #[.slice ap nm cp], .agg #[.int .i64 x, .int .i64 t, .slice ao no co]] w fun e w' => e = .returned (.bool (inR a 0 ((nm : Int) - 1))) ∧ Below w.heap.size w w' := by
  go_enter Tryz.func149, Tryz.ntmps149
  go_wp2_with (go_at_call 61; refine (isPlace_any _ _ _).mono ?_; rintro e w' ⟨rfl, rfl⟩)
  go_ret
  exact ⟨rfl, ((Below.refl _ _).alloc (Nat.le_refl _) _).alloc (by simp) _⟩

theorem peekFits_any : Calls Tryz.prog 150 #[.int .i64 a, .agg #[.slice ap nm cp], .agg #[.int .i64 x, .int .i64 t, .slice ao no co]] w fun e w' => e = .returned (.bool (inR a 0 3)) ∧ Below w.heap.size w w' := by
  go_enter Tryz.func150, Tryz.ntmps150
  go_wp2_with (go_at_call 61; refine (isPlace_any _ _ _).mono ?_; rintro e w' ⟨rfl, rfl⟩)
  go_ret
  exact ⟨rfl, ((Below.refl _ _).alloc (Nat.le_refl _) _).alloc (by simp) _⟩

theorem noFits_any : Calls Tryz.prog 151 #[.int .i64 a, .agg #[.slice ap nm cp], .agg #[.int .i64 x, .int .i64 t, .slice ao no co]] w fun e w' => e = .returned (.bool (a == 0)) ∧ Below w.heap.size w w' := by
  go_enter Tryz.func151, Tryz.ntmps151
  go_wp2
  go_ret
  exact ⟨rfl, ((Below.refl _ _).alloc (Nat.le_refl _) _).alloc (by simp) _⟩

end

end Go.Proofs.YthkjgfhheejaoaaGreatDoor

/-
  OpTakes, the document's model and the program: both answer the plain function takesOf; they write to nothing that was there. The program reads its table opForms: where that table lies as its text lays it.
-/
namespace Go.Proofs.YthkjgfhheejaoaaGreatDoor
open Go.RowKit

/-- how many values an operation that is no call takes, and leaves -/
def tk (k : Int) : Int := if k = 3 ∨ k = 4 ∨ k = 8 ∨ k = 10 ∨ k = 16 ∨ k = 12 ∨ k = 13 ∨ k = 17 ∨ k = 18 then 1 else if k = 5 ∨ k = 6 ∨ k = 14 ∨ k = 15 then 2 else 0
def lv (k : Int) : Int := if k = 1 ∨ k = 2 ∨ k = 5 ∨ k = 6 ∨ k = 9 ∨ k = 11 ∨ k = 12 ∨ k = 13 ∨ k = 15 ∨ k = 17 ∨ k = 18 then 1 else 0

/-- what an operation takes, and leaves -/
def takesOf (ms : List (Int × Int × List (Int × Int))) (k a : Int) : Int × Int :=
  if k = 9 then (if inR a 0 ((ms.length : Int) - 1) then ((ms.getD a.toNat (0, 0, [])).1, 1) else (0, 0)) else (tk k, lv k)

theorem tk_none {k : Int} (h : ¬ (1 ≤ k ∧ k ≤ 18)) : tk k = 0 := by
  unfold tk
  have h1 : ¬ (k = 3 ∨ k = 4 ∨ k = 8 ∨ k = 10 ∨ k = 16 ∨ k = 12 ∨ k = 13 ∨ k = 17 ∨ k = 18) := by omega
  have h2 : ¬ (k = 5 ∨ k = 6 ∨ k = 14 ∨ k = 15) := by omega
  rw [if_neg h1, if_neg h2]
theorem lv_none {k : Int} (h : ¬ (1 ≤ k ∧ k ≤ 18)) : lv k = 0 := by
  unfold lv
  have h1 : ¬ (k = 1 ∨ k = 2 ∨ k = 5 ∨ k = 6 ∨ k = 9 ∨ k = 11 ∨ k = 12 ∨ k = 13 ∨ k = 15 ∨ k = 17 ∨ k = 18) := by omega
  rw [if_neg h1]

theorem takesOf_call {ms : List (Int × Int × List (Int × Int))} {a : Nat} (h : a < ms.length) : takesOf ms 9 a = (ms[a].1, 1) := by
  simp only [takesOf, if_true]
  rw [inR_true.2 (by omega)]
  simp [h]
theorem takesOf_no {ms : List (Int × Int × List (Int × Int))} {a : Int} (h : inR a 0 ((ms.length : Int) - 1) = false) : takesOf ms 9 a = (0, 0) := by
  simp [takesOf, h]

/-- the table as its text lays it: of each kind what is taken, and left (its words are not asked here) -/
def TabAt (w : World) : Prop := ∀ k : Nat, k < 19 → (∃ s, w.cell? ⟨0, k * 3, none⟩ = some (.string s)) ∧ w.cell? ⟨0, k * 3 + 1, none⟩ = some (.int .i64 (tk k)) ∧ w.cell? ⟨0, k * 3 + 2, none⟩ = some (.int .i64 (lv k))

theorem TabAt.below {w w' : World} (h : TabAt w) (hb : Below w.heap.size w w') : TabAt w' := fun k hk => by
  obtain ⟨⟨s, h0⟩, h1, h2⟩ := h k hk
  exact ⟨⟨s, cell_below hb h0⟩, cell_below hb h1, cell_below hb h2⟩

theorem below_drewN2 {B : Nat} {a w : World} (h : Below B a w) : ∀ n, Below B a (w.drewN n)
  | 0 => h
  | n + 1 => by
    have := below_drewN2 h n
    exact ⟨this.os, this.tape, this.output, this.size, this.block⟩

theorem ret_two {a b : Int} {q : Int × Int} (h : q = (a, b)) : Ending.returned (.tuple #[.int .i64 a, .int .i64 b]) = .returned (.tuple #[.int .i64 q.1, .int .i64 q.2]) := by rw [h]

theorem kinds_of {k : Int} (h1 : 1 ≤ k) (h2 : k ≤ 18) (h9 : ¬ k = 9) : k = 1 ∨ k = 2 ∨ k = 3 ∨ k = 4 ∨ k = 5 ∨ k = 6 ∨ k = 7 ∨ k = 8 ∨ k = 10 ∨ k = 11 ∨ k = 12 ∨ k = 13 ∨ k = 14 ∨ k = 15 ∨ k = 16 ∨ k = 17 ∨ k = 18 := by omega

set_option maxHeartbeats 4000000 in
theorem specTakes_any (v : Value) (ms : List (Int × Int × List (Int × Int))) (k a : Int) (w : World) (h : MethsAt w v ms) :
    Calls Tryz.prog 71 #[.agg #[v], .agg #[.int .i64 k, .int .i64 a]] w fun e w' => e = .returned (.tuple #[.int .i64 (takesOf ms k a).1, .int .i64 (takesOf ms k a).2]) ∧ Below w.heap.size w w' := by
  obtain ⟨ad, cap, rfl, hl, hc⟩ := h
  have hB : ∀ o1 o2, Below w.heap.size w ((w.alloc o1).alloc o2) := fun o1 o2 => ((Below.refl _ _).alloc (Nat.le_refl _) _).alloc (by simp) _
  unfold maxLen at hl
  by_cases h9 : k = 9
  · subst h9
    cases hin : inR a 0 ((ms.length : Int) - 1)
    · rw [takesOf_no hin]
      go_enter Tryz.func71, Tryz.ntmps71
      go_wp2_with (go_at_call 45; refine (l6In_any _ _ _ _).mono ?_; rintro e w' ⟨rfl, rfl⟩)
      go_ret2
      exact ⟨rfl, hB _ _⟩
    · have hr := inR_true.1 hin
      obtain ⟨n, rfl⟩ := Int.eq_ofNat_of_zero_le hr.1
      have hn : n < ms.length := by omega
      rw [takesOf_call hn]
      obtain ⟨b, o, vo, rfl, c0, c1, c2, c3⟩ := hc n hn
      have e0 : ∀ o1 o2, ((w.alloc o1).alloc o2).cell? ⟨b, o + n * 3, none⟩ = some (.int .i64 ms[n].1) := fun o1 o2 => cell_below (hB o1 o2) c0
      have hnz : (n : Int) < ms.length := by omega
      clear c0 c1 c2 c3 hc hr
      go_enter Tryz.func71, Tryz.ntmps71
      go_wp2_with (go_at_call 45; refine (l6In_any _ _ _ _).mono ?_; rintro e w' ⟨rfl, rfl⟩)
      go_ret2
      exact ⟨rfl, hB _ _⟩
  by_cases hk : 1 ≤ k ∧ k ≤ 18
  · have hT : takesOf ms k a = (tk k, lv k) := by simp [takesOf, h9]
    rw [hT]
    clear hc hT
    rcases kinds_of hk.1 hk.2 h9 with rfl | rfl | rfl | rfl | rfl | rfl | rfl | rfl | rfl | rfl | rfl | rfl | rfl | rfl | rfl | rfl | rfl
    all_goals
      clear hk h9
      go_enter Tryz.func71, Tryz.ntmps71
      go_wp2
      go_ret2
      exact ⟨rfl, hB _ _⟩
  · have hT : takesOf ms k a = (0, 0) := by
      simp only [takesOf, h9, if_false, tk_none hk, lv_none hk]
    rw [hT]
    clear hc hT
    have e1 : (k == 1) = false := beq_eq_false_iff_ne.2 (by omega)
    have e2 : (k == 2) = false := beq_eq_false_iff_ne.2 (by omega)
    have e3 : (k == 3) = false := beq_eq_false_iff_ne.2 (by omega)
    have e4 : (k == 4) = false := beq_eq_false_iff_ne.2 (by omega)
    have e5 : (k == 5) = false := beq_eq_false_iff_ne.2 (by omega)
    have e6 : (k == 6) = false := beq_eq_false_iff_ne.2 (by omega)
    have e7 : (k == 7) = false := beq_eq_false_iff_ne.2 (by omega)
    have e8 : (k == 8) = false := beq_eq_false_iff_ne.2 (by omega)
    have e9 : (k == 9) = false := beq_eq_false_iff_ne.2 (by omega)
    have e10 : (k == 10) = false := beq_eq_false_iff_ne.2 (by omega)
    have e11 : (k == 11) = false := beq_eq_false_iff_ne.2 (by omega)
    have e12 : (k == 12) = false := beq_eq_false_iff_ne.2 (by omega)
    have e13 : (k == 13) = false := beq_eq_false_iff_ne.2 (by omega)
    have e14 : (k == 14) = false := beq_eq_false_iff_ne.2 (by omega)
    have e15 : (k == 15) = false := beq_eq_false_iff_ne.2 (by omega)
    have e16 : (k == 16) = false := beq_eq_false_iff_ne.2 (by omega)
    have e17 : (k == 17) = false := beq_eq_false_iff_ne.2 (by omega)
    have e18 : (k == 18) = false := beq_eq_false_iff_ne.2 (by omega)
    clear hk h9
    go_enter Tryz.func71, Tryz.ntmps71
    go_wp2
    go_ret2
    exact ⟨rfl, hB _ _⟩

set_option maxHeartbeats 4000000 in
theorem implTakes_any (v : Value) (ms : List (Int × Int × List (Int × Int))) (k a : Int) (w : World) (h : MethsAt w v ms) (ht : TabAt w) :
    Calls Tryz.prog 90 #[.agg #[v], .agg #[.int .i64 k, .int .i64 a]] w fun e w' => e = .returned (.tuple #[.int .i64 (takesOf ms k a).1, .int .i64 (takesOf ms k a).2]) ∧ Below w.heap.size w w' := by
  obtain ⟨ad, cap, rfl, hl, hc⟩ := h
  have hB : ∀ o1 o2, Below w.heap.size w ((w.alloc o1).alloc o2) := fun o1 o2 => ((Below.refl _ _).alloc (Nat.le_refl _) _).alloc (by simp) _
  have hB3 : ∀ o1 o2 o3, Below w.heap.size w (((w.alloc o1).alloc o2).alloc o3) := fun o1 o2 o3 => (hB o1 o2).alloc (by simp; omega) _
  unfold maxLen at hl
  cases hk : inR k 1 18
  · have hk' := inR_false.1 hk
    have hT : takesOf ms k a = (0, 0) := by
      have h9 : ¬ k = 9 := by omega
      simp only [takesOf, h9, if_false, tk_none hk', lv_none hk']
    rw [hT]
    clear hc hT ht
    go_enter Tryz.func90, Tryz.ntmps90
    go_wp2_with (go_at_call 77; refine (isKind_any _ _).mono ?_; rintro e w' ⟨rfl, rfl⟩)
    go_ret2
    exact ⟨rfl, hB _ _⟩
  have hr := inR_true.1 hk
  obtain ⟨n, rfl⟩ := Int.eq_ofNat_of_zero_le (show 0 ≤ k by omega)
  obtain ⟨⟨s, t0⟩, t1, t2⟩ := ht n (by omega)
  have T0 : ∀ o1 o2, ((w.alloc o1).alloc o2).cell? ⟨0, n * 3, none⟩ = some (.string s) := fun o1 o2 => cell_below (hB o1 o2) t0
  have T1 : ∀ o1 o2, ((w.alloc o1).alloc o2).cell? ⟨0, n * 3 + 1, none⟩ = some (.int .i64 (tk n)) := fun o1 o2 => cell_below (hB o1 o2) t1
  have T2 : ∀ o1 o2, ((w.alloc o1).alloc o2).cell? ⟨0, n * 3 + 2, none⟩ = some (.int .i64 (lv n)) := fun o1 o2 => cell_below (hB o1 o2) t2
  have hn19 : (n : Int) < 19 := by omega
  clear t0 t1 t2 ht hr
  cases h9 : ((n : Int) == 9)
  · have hT : takesOf ms n a = (tk n, lv n) := by
      rw [beq_eq_false_iff_ne] at h9
      simp only [takesOf, h9, if_false]
    have h9' : ((n : Int) != 9) = true := by simp only [bne, h9]; rfl
    rw [hT]
    clear hc hT
    go_enter Tryz.func90, Tryz.ntmps90
    go_wp2_with (go_at_call 77; refine (isKind_any _ _).mono ?_; rintro e w' ⟨rfl, rfl⟩)
    go_quiet (fail)
    go_wp2
    go_ret2
    exact ⟨rfl, below_drewN2 (hB3 _ _ _) _⟩
  obtain rfl : n = 9 := by rw [beq_iff_eq] at h9; omega
  cases hin : inR a 0 ((ms.length : Int) - 1)
  · rw [show takesOf ms ((9 : Nat) : Int) a = (0, 0) from takesOf_no hin]
    go_enter Tryz.func90, Tryz.ntmps90
    go_wp2_with (first | (go_at_call 77; refine (isKind_any _ _).mono ?_; rintro e w' ⟨rfl, rfl⟩) | (go_at_call 61; refine (isPlace_any _ _ _).mono ?_; rintro e w' ⟨rfl, rfl⟩))
    go_ret2
    exact ⟨rfl, hB3 _ _ _⟩
  · have hra := inR_true.1 hin
    obtain ⟨m, rfl⟩ := Int.eq_ofNat_of_zero_le hra.1
    have hm : m < ms.length := by omega
    rw [show takesOf ms ((9 : Nat) : Int) m = (ms[m].1, 1) from takesOf_call hm]
    obtain ⟨b, o, vo, rfl, c0, c1, c2, c3⟩ := hc m hm
    have e0 : ∀ o1 o2 o3, (((w.alloc o1).alloc o2).alloc o3).cell? ⟨b, o + m * 3, none⟩ = some (.int .i64 ms[m].1) := fun o1 o2 o3 => cell_below (hB3 o1 o2 o3) c0
    have hmz : (m : Int) < ms.length := by omega
    clear c0 c1 c2 c3 hc hra
    go_enter Tryz.func90, Tryz.ntmps90
    go_wp2_with (first | (go_at_call 77; refine (isKind_any _ _).mono ?_; rintro e w' ⟨rfl, rfl⟩) | (go_at_call 61; refine (isPlace_any _ _ _).mono ?_; rintro e w' ⟨rfl, rfl⟩))
    go_quiet (fail)
    go_wp2
    go_ret2
    exact ⟨rfl, below_drewN2 (hB3 _ _ _) _⟩

end Go.Proofs.YthkjgfhheejaoaaGreatDoor
