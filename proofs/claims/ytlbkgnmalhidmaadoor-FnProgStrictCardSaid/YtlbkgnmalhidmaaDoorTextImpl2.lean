/-
  The program's operandText and methodText answer the plain text; they write to nothing that was there. The program reads the words of its table opForms: where that table lies as its text lays it.
-/
import Derived.Test.YtlbkgnmalhidmaaDoorTextImpl1
namespace Go.Proofs.YtlbkgnmalhidmaaDoor
open Go.RowKit

/-- the words of the table as its text lays it -/
def TabW (w : World) : Prop := ∀ k : Nat, k < 19 → w.cell? ⟨0, k * 3, none⟩ = some (.string (bs (wordOf k)))

theorem TabW.below {w w' : World} (h : TabW w) (hb : Below w.heap.size w w') : TabW w' := fun k hk => cell_below hb (h k hk)

theorem ret_str {x y : ByteArray} (h : x = y) : Ending.returned (.string x) = .returned (.string y) := by rw [h]

theorem Tryd.as_num (a : Int) (w : World) : (Instr.typeAssert (.iface 82 (.int .i64 a)) 67 87 true).run Tryd.prog w = .ok (.tuple #[.int .i64 0, .bool false]) w := by kernel_rfl
theorem Tryd.as_temp (a : Int) (w : World) : (Instr.typeAssert (.iface 83 (.int .i64 a)) 67 87 true).run Tryd.prog w = .ok (.tuple #[.int .i64 0, .bool false]) w := by kernel_rfl
theorem Tryd.as_place (a : Int) (w : World) : (Instr.typeAssert (.iface 84 (.int .i64 a)) 67 87 true).run Tryd.prog w = .ok (.tuple #[.int .i64 0, .bool false]) w := by kernel_rfl
theorem Tryd.as_method (a : Int) (w : World) : (Instr.typeAssert (.iface 85 (.int .i64 a)) 67 87 true).run Tryd.prog w = .ok (.tuple #[.int .i64 0, .bool false]) w := by kernel_rfl
theorem Tryd.as_peek (a : Int) (w : World) : (Instr.typeAssert (.iface 86 (.int .i64 a)) 67 87 true).run Tryd.prog w = .ok (.tuple #[.int .i64 0, .bool false]) w := by kernel_rfl
theorem Tryd.as_no (a : Int) (w : World) : (Instr.typeAssert (.iface 87 (.int .i64 a)) 67 87 true).run Tryd.prog w = .ok (.tuple #[.int .i64 a, .bool true]) w := by kernel_rfl

set_option maxRecDepth 100000 in
set_option maxHeartbeats 1000000 in
theorem operandText_any (k a : Int) (h0 : 0 ≤ a) (h1 : a < 100) (w : World) :
    Calls Tryd.prog 38 #[.agg #[.int .i64 k, .int .i64 a]] w fun e w' => e = .returned (.string (bs (tail k a))) ∧ Below w.heap.size w w' := by
  have hB : ∀ o1, Below w.heap.size w (w.alloc o1) := fun o1 => (Below.refl _ _).alloc (Nat.le_refl _) _
  have q1 : (w.alloc (.cells #[.int .i64 k, .int .i64 a] 47)).cell? ⟨w.heap.size, 1, none⟩ = some (.int .i64 a) := by simp [go_sem]
  have hop := fun w => operandOf_any k a w
  cases hk : hasA k
  · have hT := (opTy_has k).2 hk
    rw [hT] at hop
    have HP : Hid (∀ w, Calls _ _ _ w _) := hop
    have HE : Hid (tail k a = []) := by show tail k a = []; simp [tail, hk]
    clear hop hT hk q1
    have as0 := Tryd.as_no a
    go_enter Tryd.func38, Tryd.ntmps38
    go_wp2_with (go_at_call 36; refine (HP.out _).mono ?_; rintro e w1 ⟨rfl, hb1⟩)
    go_ret
    refine ⟨ret_str ?_, (hB _).trans (hb1.mono (by simp))⟩
    rw [HE.out]; rfl
  · have hT : ¬ opTy k = 87 := fun e => by rw [(opTy_has k).1 e] at hk; cases hk
    have HE : Hid (tail k a = 32 :: dec a) := by show tail k a = 32 :: dec a; simp [tail, hk]
    rcases opTy_six k with ⟨hT', hkk⟩ | ⟨hT', hkk⟩ | ⟨hT', hkk⟩ | ⟨hT', hkk⟩ | ⟨hT', hkk⟩ | ⟨hT', hkk⟩
    case inr.inr.inr.inr.inr => exact absurd hT' hT
    all_goals
      rw [hT'] at hop
      have HP : Hid (∀ w, Calls _ _ _ w _) := hop
      clear hop hT hk hT' hkk
      have as1 := Tryd.as_num a
      have as2 := Tryd.as_temp a
      have as3 := Tryd.as_place a
      have as4 := Tryd.as_method a
      have as5 := Tryd.as_peek a
      go_enter Tryd.func38, Tryd.ntmps38
      go_wp2_with (first | (go_at_call 36; refine (HP.out _).mono ?_; rintro e w1 ⟨rfl, hb1⟩; have q2 := cell_below hb1 q1) | (go_at_call 37; refine (numberText_any _ h0 h1 _).mono ?_; rintro e w2 ⟨rfl, rfl⟩))
      go_ret
      refine ⟨ret_str ?_, (hB _).trans (hb1.mono (by simp))⟩
      rw [HE.out]

end Go.Proofs.YtlbkgnmalhidmaaDoor
