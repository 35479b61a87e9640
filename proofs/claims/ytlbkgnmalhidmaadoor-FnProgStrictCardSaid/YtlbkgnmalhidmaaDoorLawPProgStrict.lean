/-
  The law FnProgStrict, walked: whatever bytes lie behind its argument, it answers true and writes to nothing that was there; where the table opForms lies as its text lays it.
-/
import Derived.Test.YtlbkgnmalhidmaaDoorLawRead
import Derived.Test.YtlbkgnmalhidmaaDoorLmProg
import Derived.Test.YtlbkgnmalhidmaaDoorDrawRead
import Derived.Test.YtlbkgnmalhidmaaDoorImplOk3
import Derived.Test.YtlbkgnmalhidmaaDoorTextImpl3
namespace Go.Proofs.YtlbkgnmalhidmaaDoor
open Go.RowKit

set_option maxRecDepth 100000 in
set_option maxHeartbeats 4000000 in
theorem lawProgStrict_any (w : World) (a : Option Addr) (len cap : Nat) (h : BytesAt w a len cap) (ht : TabW w) :
    Calls Tryd.prog 3 #[.slice a len cap] w fun e w' => e = .returned (.bool true) ∧ Below w.heap.size w w' := by
  have HB : Hid (BytesAt w a len cap) := h
  have HT : Hid (TabW w) := ht
  clear h ht
  by_cases h1 : (1048576 : Int) < len
  · go_enter Tryd.func3, Tryd.ntmps3
    go_wp2
    go_ret
    exact ⟨rfl, Below.refl _ _⟩
  go_enter Tryd.func3, Tryd.ntmps3
  go_wp2_with fail
  refine (drawProgRead_any _ a len cap HB.out).mono ?_
  rintro e w1 ⟨T, rfl, hT, B1⟩
  have z1 := B1.size
  go_wp2_with fail
  refine (specProgRead_any T hT w1).mono ?_
  rintro e w2 ⟨b2, u0, b0, rfl, hs0⟩
  obtain ⟨ms0, P0, hw0⟩ := hs0.saw
  have HS0 : Hid (Saw T b0 ms0) := hw0
  obtain ⟨a0, c0, hv0⟩ := P0.shape
  subst hv0
  have M0 := hw0.meths P0
  have B2 := B1.trans (b2.mono z1)
  have z2 := B2.size
  clear hs0 hw0 P0 b2 B1
  have A2 := (Below.refl w2.heap.size w2).alloc (Nat.le_refl _) (.cells #[.slice a0 ms0.length c0] 26)
  have x2 := pbox_new w2 (.slice a0 ms0.length c0)
  have M2 := M0.below A2
  have B3 := B2.trans (A2.mono z2)
  clear M0 B2 A2
  go_wp2_with fail
  generalize w2.alloc (.cells #[.slice a0 ms0.length c0] 26) = W2 at *
  have z3 := B3.size
  refine (progRead_any T W2 (HT.out.below B3)).mono ?_
  rintro e w3 ⟨b3, u1, b1, rfl, hs1⟩
  obtain ⟨ms1, P1, hw1⟩ := hs1.saw
  have HS1 : Hid (Saw T b1 ms1) := hw1
  obtain ⟨rfl, hpl⟩ := HS0.out.same hw1
  have HPL : Hid (plainOf ms1 = plainOf ms0) := hpl
  obtain ⟨a1, c1, hv1⟩ := P1.shape
  subst hv1
  have N3 := hw1.meths P1
  have B4 := B3.trans (b3.mono z3)
  have M3 := M2.below b3
  have x3 := row_below b3 x2
  have z4 := B4.size
  clear hs1 hw1 hpl P1 b3 M2 x2 B3
  have A3 := (Below.refl w3.heap.size w3).alloc (Nat.le_refl _) (.cells #[.slice a1 ms1.length c1] 26)
  have y4 := pbox_new w3 (.slice a1 ms1.length c1)
  have N4 := N3.below A3
  have M4 := M3.below A3
  have x4 := row_below A3 x3
  have B5 := B4.trans (A3.mono z4)
  have p4 := x4.cell (i := 0) (by decide)
  have q4 := y4.cell (i := 0) (by decide)
  have hbb : (b1 != b1) = false := by simp
  clear A3 N3 M3 x3 B4
  go_wp2_with fail
  generalize w3.alloc (.cells #[.slice a1 ms1.length c1] 26) = W3 at *
  refine (lmProg_any _ _ (plainOf ms1) (plainOf ms0) _ N4 M4).mono ?_
  rintro e w5 ⟨rfl, b5⟩
  have hd : decide (plainOf ms1 = plainOf ms0) = true := by simp [HPL.out]
  rw [hd]
  have z5 := B5.size
  have B6 := B5.trans (b5.mono z5)
  have y5 := row_below b5 y4
  have N5 := N4.below b5
  have q5 := y5.cell (i := 0) (by decide)
  have z6 := B6.size
  clear b5 y4 N4 M4 x4 p4 q4 B5 hd
  cases b1
  · have hl : ms1.length = 0 := by
      have := congrArg List.length (HS1.out.no rfl).1
      simpa [plainOf] using this
    have hl' : ((ms1.length : Int) == 0) = true := by rw [hl]; rfl
    go_wp2
    go_ret
    exact ⟨rfl, B6⟩
  · have HY : Hid (progOk (plainOf ms1) = true ∧ textProg (plainOf ms1) = T.toList) := HS1.out.yes rfl
    go_wp2_with fail
    refine (implProgOk_any _ (plainOf ms1) _ N5).mono ?_
    rintro e w7 ⟨rfl, b7⟩
    rw [HY.out.1]
    have B7 := B6.trans (b7.mono z6)
    have y7 := row_below b7 y5
    have N7 := N5.below b7
    have q7 := y7.cell (i := 0) (by decide)
    have z7 := B7.size
    clear b7 y5 N5 q5 B6 z6
    go_wp2_with fail
    refine (implProgText_any _ (plainOf ms1) _ N7 (HT.out.below B7)).mono ?_
    rintro e w8 ⟨rfl, b8⟩
    have hX : (bs (textProg (plainOf ms1))).toList = T.toList := by rw [bs_list, HY.out.2]
    have hX' : ((bs (textProg (plainOf ms1))).toList == T.toList) = true := by rw [hX]; simp
    generalize bs (textProg (plainOf ms1)) = X at *
    have B8 := B7.trans (b8.mono z7)
    clear b8 y7 N7 q7 B7 hX
    go_wp2
    go_ret
    exact ⟨rfl, B8⟩

end Go.Proofs.YtlbkgnmalhidmaaDoor
