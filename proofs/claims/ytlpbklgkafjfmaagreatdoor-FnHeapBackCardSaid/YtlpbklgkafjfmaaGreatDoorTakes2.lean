/-
  OpTakes, the document's model and the program: both answer the plain function takesOf; they write to nothing that was there. The program reads its table opForms: where that table lies as its text lays it.
-/
import Derived.Test.YtlpbklgkafjfmaaGreatDoorImplOk2
import Derived.Deep.RegionHeld3
import Derived.BigQuiet
import Derived.Deep.QuietTactic

namespace Go.Proofs.YtlpbklgkafjfmaaGreatDoor
open Go.RowKit
def tk (k : Int) : Int := if k = 3 ∨ k = 4 ∨ k = 8 ∨ k = 10 ∨ k = 16 ∨ k = 12 ∨ k = 13 ∨ k = 17 ∨ k = 18 then 1 else if k = 5 ∨ k = 6 ∨ k = 14 ∨ k = 15 then 2 else 0
def lv (k : Int) : Int := if k = 1 ∨ k = 2 ∨ k = 5 ∨ k = 6 ∨ k = 9 ∨ k = 11 ∨ k = 12 ∨ k = 13 ∨ k = 15 ∨ k = 17 ∨ k = 18 then 1 else 0
def takesOf (ms : List (Int × Int × List (Int × Int))) (k a : Int) : Int × Int :=
  if k = 9 then (if inR a 0 ((ms.length : Int) - 1) then ((ms.getD a.toNat (0, 0, [])).1, 1) else (0, 0)) else (tk k, lv k)
theorem tk_none {k : Int} (h : ¬ (1 ≤ k ∧ k ≤ 18)) : tk k = 0 := by
  unfold tk
  have h1 : ¬ (k = 3 ∨ k = 4 ∨ k = 8 ∨ k = 10 ∨ k = 16 ∨ k = 12 ∨ k = 13 ∨ k = 17 ∨ k = 18) := by omega
  have h2 : ¬ (k = 5 ∨ k = 6 ∨ k = 14 ∨ k = 15) := by omega
  rw [if_neg h1, if_neg h2]
theorem lv_none {k : Int} (h : ¬ (1 ≤ k ∧ k ≤ 18)) : lv k = 0 := by
  unfold lv
  have h1 : ¬ (k = 1 ∨ k = 2 ∨ k = 5 ∨ k = 6 ∨ k = 9 ∨ k = 11 ∨ k = 12 ∨ k = 13 ∨ k = 15 ∨ k = 17 ∨ k = 18) := by omega
  rw [if_neg h1]
theorem takesOf_call {ms : List (Int × Int × List (Int × Int))} {a : Nat} (h : a < ms.length) : takesOf ms 9 a = (ms[a].1, 1) := by
  simp only [takesOf, if_true]
  rw [inR_true.2 (by omega)]
  simp [h]
theorem takesOf_no {ms : List (Int × Int × List (Int × Int))} {a : Int} (h : inR a 0 ((ms.length : Int) - 1) = false) : takesOf ms 9 a = (0, 0) := by
  simp [takesOf, h]
def TabAt (w : World) : Prop := ∀ k : Nat, k < 19 → (∃ s, w.cell? ⟨0, k * 3, none⟩ = some (.string s)) ∧ w.cell? ⟨0, k * 3 + 1, none⟩ = some (.int .i64 (tk k)) ∧ w.cell? ⟨0, k * 3 + 2, none⟩ = some (.int .i64 (lv k))
theorem TabAt.below {w w' : World} (h : TabAt w) (hb : Below w.heap.size w w') : TabAt w' := fun k hk => by
  obtain ⟨⟨s, h0⟩, h1, h2⟩ := h k hk
  exact ⟨⟨s, cell_below hb h0⟩, cell_below hb h1, cell_below hb h2⟩
theorem below_drewN2 {B : Nat} {a w : World} (h : Below B a w) : ∀ n, Below B a (w.drewN n)
  | 0 => h
  | n + 1 => by
    have := below_drewN2 h n
    exact ⟨this.os, this.tape, this.output, this.size, this.block⟩
theorem kinds_of {k : Int} (h1 : 1 ≤ k) (h2 : k ≤ 18) (h9 : ¬ k = 9) : k = 1 ∨ k = 2 ∨ k = 3 ∨ k = 4 ∨ k = 5 ∨ k = 6 ∨ k = 7 ∨ k = 8 ∨ k = 10 ∨ k = 11 ∨ k = 12 ∨ k = 13 ∨ k = 14 ∨ k = 15 ∨ k = 16 ∨ k = 17 ∨ k = 18 := by omega
set_option maxHeartbeats 4000000 in
theorem specTakes_any (v : Value) (ms : List (Int × Int × List (Int × Int))) (k a : Int) (w : World) (h : MethsAt w v ms) :
    Calls Tryz.prog 59 #[.agg #[v], .agg #[.int .i64 k, .int .i64 a]] w fun e w' => e = .returned (.tuple #[.int .i64 (takesOf ms k a).1, .int .i64 (takesOf ms k a).2]) ∧ Below w.heap.size w w' := by
  obtain ⟨ad, cap, rfl, hl, hc⟩ := h
  have hB : ∀ o1 o2, Below w.heap.size w ((w.alloc o1).alloc o2) := fun o1 o2 => ((Below.refl _ _).alloc (Nat.le_refl _) _).alloc (by simp) _
  unfold maxLen at hl
  by_cases h9 : k = 9
  · subst h9
    cases hin : inR a 0 ((ms.length : Int) - 1)
    · rw [takesOf_no hin]
      go_enter Tryz.func59, Tryz.ntmps59
      go_wp2_with (go_at_call 17; refine (l6In_any _ _ _ _).mono ?_; rintro e w' ⟨rfl, rfl⟩)
      go_ret2
      exact ⟨rfl, hB _ _⟩
    · have hr := inR_true.1 hin
      obtain ⟨n, rfl⟩ := Int.eq_ofNat_of_zero_le hr.1
      have hn : n < ms.length := by omega
      rw [takesOf_call hn]
      obtain ⟨b, o, vo, rfl, c0, c1, c2, c3⟩ := hc n hn
      have e0 : ∀ o1 o2, ((w.alloc o1).alloc o2).cell? ⟨b, o + n * 3, none⟩ = some (.int .i64 ms[n].1) := fun o1 o2 => cell_below (hB o1 o2) c0
      have hnz : (n : Int) < ms.length := by omega
      clear c0 c1 c2 c3 hc hr
      go_enter Tryz.func59, Tryz.ntmps59
      go_wp2_with (go_at_call 17; refine (l6In_any _ _ _ _).mono ?_; rintro e w' ⟨rfl, rfl⟩)
      go_ret2
      exact ⟨rfl, hB _ _⟩
  by_cases hk : 1 ≤ k ∧ k ≤ 18
  · have hT : takesOf ms k a = (tk k, lv k) := by simp [takesOf, h9]
    rw [hT]
    clear hc hT
    rcases kinds_of hk.1 hk.2 h9 with rfl | rfl | rfl | rfl | rfl | rfl | rfl | rfl | rfl | rfl | rfl | rfl | rfl | rfl | rfl | rfl | rfl
    all_goals
      clear hk h9
      go_enter Tryz.func59, Tryz.ntmps59
      go_wp2
      go_ret2
      exact ⟨rfl, hB _ _⟩
  · have hT : takesOf ms k a = (0, 0) := by
      simp only [takesOf, h9, if_false, tk_none hk, lv_none hk]
    rw [hT]
    clear hc hT
    have e1 : (k == 1) = false := beq_eq_false_iff_ne.2 (by omega)
    have e2 : (k == 2) = false := beq_eq_false_iff_ne.2 (by omega)
    have e3 : (k == 3) = false := beq_eq_false_iff_ne.2 (by omega)
    have e4 : (k == 4) = false := beq_eq_false_iff_ne.2 (by omega)
    have e5 : (k == 5) = false := beq_eq_false_iff_ne.2 (by omega)
    have e6 : (k == 6) = false := beq_eq_false_iff_ne.2 (by omega)
    have e7 : (k == 7) = false := beq_eq_false_iff_ne.2 (by omega)
    have e8 : (k == 8) = false := beq_eq_false_iff_ne.2 (by omega)
    have e9 : (k == 9) = false := beq_eq_false_iff_ne.2 (by omega)
    have e10 : (k == 10) = false := beq_eq_false_iff_ne.2 (by omega)
    have e11 : (k == 11) = false := beq_eq_false_iff_ne.2 (by omega)
    have e12 : (k == 12) = false := beq_eq_false_iff_ne.2 (by omega)
    have e13 : (k == 13) = false := beq_eq_false_iff_ne.2 (by omega)
    have e14 : (k == 14) = false := beq_eq_false_iff_ne.2 (by omega)
    have e15 : (k == 15) = false := beq_eq_false_iff_ne.2 (by omega)
    have e16 : (k == 16) = false := beq_eq_false_iff_ne.2 (by omega)
    have e17 : (k == 17) = false := beq_eq_false_iff_ne.2 (by omega)
    have e18 : (k == 18) = false := beq_eq_false_iff_ne.2 (by omega)
    clear hk h9
    go_enter Tryz.func59, Tryz.ntmps59
    go_wp2
    go_ret2
    exact ⟨rfl, hB _ _⟩
set_option maxHeartbeats 4000000 in
theorem implTakes_any (v : Value) (ms : List (Int × Int × List (Int × Int))) (k a : Int) (w : World) (h : MethsAt w v ms) (ht : TabAt w) :
    Calls Tryz.prog 83 #[.agg #[v], .agg #[.int .i64 k, .int .i64 a]] w fun e w' => e = .returned (.tuple #[.int .i64 (takesOf ms k a).1, .int .i64 (takesOf ms k a).2]) ∧ Below w.heap.size w w' := by
  obtain ⟨ad, cap, rfl, hl, hc⟩ := h
  have hB : ∀ o1 o2, Below w.heap.size w ((w.alloc o1).alloc o2) := fun o1 o2 => ((Below.refl _ _).alloc (Nat.le_refl _) _).alloc (by simp) _
  have hB3 : ∀ o1 o2 o3, Below w.heap.size w (((w.alloc o1).alloc o2).alloc o3) := fun o1 o2 o3 => (hB o1 o2).alloc (by simp; omega) _
  unfold maxLen at hl
  cases hk : inR k 1 18
  · have hk' := inR_false.1 hk
    have hT : takesOf ms k a = (0, 0) := by
      have h9 : ¬ k = 9 := by omega
      simp only [takesOf, h9, if_false, tk_none hk', lv_none hk']
    rw [hT]
    clear hc hT ht
    go_enter Tryz.func83, Tryz.ntmps83
    go_wp2_with (go_at_call 80; refine (isKind_any _ _).mono ?_; rintro e w' ⟨rfl, rfl⟩)
    go_ret2
    exact ⟨rfl, hB _ _⟩
  have hr := inR_true.1 hk
  obtain ⟨n, rfl⟩ := Int.eq_ofNat_of_zero_le (show 0 ≤ k by omega)
  obtain ⟨⟨s, t0⟩, t1, t2⟩ := ht n (by omega)
  have T0 : ∀ o1 o2, ((w.alloc o1).alloc o2).cell? ⟨0, n * 3, none⟩ = some (.string s) := fun o1 o2 => cell_below (hB o1 o2) t0
  have T1 : ∀ o1 o2, ((w.alloc o1).alloc o2).cell? ⟨0, n * 3 + 1, none⟩ = some (.int .i64 (tk n)) := fun o1 o2 => cell_below (hB o1 o2) t1
  have T2 : ∀ o1 o2, ((w.alloc o1).alloc o2).cell? ⟨0, n * 3 + 2, none⟩ = some (.int .i64 (lv n)) := fun o1 o2 => cell_below (hB o1 o2) t2
  have hn19 : (n : Int) < 19 := by omega
  clear t0 t1 t2 ht hr
  cases h9 : ((n : Int) == 9)
  · have hT : takesOf ms n a = (tk n, lv n) := by
      rw [beq_eq_false_iff_ne] at h9
      simp only [takesOf, h9, if_false]
    have h9' : ((n : Int) != 9) = true := by simp only [bne, h9]; rfl
    rw [hT]
    clear hc hT
    go_enter Tryz.func83, Tryz.ntmps83
    go_wp2_with (go_at_call 80; refine (isKind_any _ _).mono ?_; rintro e w' ⟨rfl, rfl⟩)
    go_quiet (fail)
    go_wp2
    go_ret2
    exact ⟨rfl, below_drewN2 (hB3 _ _ _) _⟩
  obtain rfl : n = 9 := by rw [beq_iff_eq] at h9; omega
  cases hin : inR a 0 ((ms.length : Int) - 1)
  · rw [show takesOf ms ((9 : Nat) : Int) a = (0, 0) from takesOf_no hin]
    go_enter Tryz.func83, Tryz.ntmps83
    go_wp2_with (first | (go_at_call 80; refine (isKind_any _ _).mono ?_; rintro e w' ⟨rfl, rfl⟩) | (go_at_call 63; refine (isPlace_any _ _ _).mono ?_; rintro e w' ⟨rfl, rfl⟩))
    go_ret2
    exact ⟨rfl, hB3 _ _ _⟩
  · have hra := inR_true.1 hin
    obtain ⟨m, rfl⟩ := Int.eq_ofNat_of_zero_le hra.1
    have hm : m < ms.length := by omega
    rw [show takesOf ms ((9 : Nat) : Int) m = (ms[m].1, 1) from takesOf_call hm]
    obtain ⟨b, o, vo, rfl, c0, c1, c2, c3⟩ := hc m hm
    have e0 : ∀ o1 o2 o3, (((w.alloc o1).alloc o2).alloc o3).cell? ⟨b, o + m * 3, none⟩ = some (.int .i64 ms[m].1) := fun o1 o2 o3 => cell_below (hB3 o1 o2 o3) c0
    have hmz : (m : Int) < ms.length := by omega
    clear c0 c1 c2 c3 hc hra
    go_enter Tryz.func83, Tryz.ntmps83
    go_wp2_with (first | (go_at_call 80; refine (isKind_any _ _).mono ?_; rintro e w' ⟨rfl, rfl⟩) | (go_at_call 63; refine (isPlace_any _ _ _).mono ?_; rintro e w' ⟨rfl, rfl⟩))
    go_quiet (fail)
    go_wp2
    go_ret2
    exact ⟨rfl, below_drewN2 (hB3 _ _ _) _⟩
end Go.Proofs.YtlpbklgkafjfmaaGreatDoor
