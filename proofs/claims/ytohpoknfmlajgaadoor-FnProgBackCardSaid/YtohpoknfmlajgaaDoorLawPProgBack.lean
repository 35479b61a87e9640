/-
  The law FnProgBack, walked: whatever bytes are handed in, it answers true and writes to nothing that was there; where the table opForms lies as its text lays it.
-/
import Derived.Test.YtohpoknfmlajgaaDoorDrawText
import Derived.Test.YtohpoknfmlajgaaDoorTextSpec2
import Derived.Test.YtohpoknfmlajgaaDoorReadImpl8
import Derived.Test.YtohpoknfmlajgaaDoorLmProg
namespace Go.Proofs.YtohpoknfmlajgaaDoor
open Go.RowKit

theorem text_empty' (ms : List (Int × Int × List (Int × Int))) : ((bs (textProg ms)).toList == []) = !progOk ms := by
  rw [bs_list]
  cases h : progOk ms
  · rw [textProg_none h]; rfl
  · have := textProg_some h
    simp [this]

set_option maxRecDepth 100000 in
set_option maxHeartbeats 2000000 in
theorem lawProgBack_any (w : World) (a : Option Addr) (len cap : Nat) (h : BytesAt w a len cap) (ht : TabW w) :
    Calls Tryd.prog 3 #[.slice a len cap] w fun e w' => e = .returned (.bool true) ∧ Below w.heap.size w w' := by
  have HB : Hid (BytesAt w a len cap) := h
  have HT : Hid (TabW w) := ht
  clear h ht
  by_cases h1 : (1048576 : Int) < len
  · go_enter Tryd.func3, Tryd.ntmps3
    go_wp2
    go_ret
    exact ⟨rfl, Below.refl _ _⟩
  go_enter Tryd.func3, Tryd.ntmps3
  go_wp2_with fail
  refine (drawProgText_any _ a len cap HB.out).mono ?_
  rintro e w1 ⟨v1, ms1, rfl, D1, B1⟩
  obtain ⟨a1, c1, hv1⟩ := D1.row.shape
  subst hv1
  have M1 := D1.meths
  clear D1
  generalize plainOf ms1 = ps at *
  generalize ms1.length = n1 at *
  have A1 : Below w1.heap.size w1 (w1.alloc (.cells #[.slice a1 n1 c1] 25)) := (Below.refl _ _).alloc (Nat.le_refl _) _
  have x4 : (w1.alloc (.cells #[.slice a1 n1 c1] 25)).cell? ⟨w1.heap.size, 0, none⟩ = some (.slice a1 n1 c1) := by simp [go_sem]
  have M4 := M1.below A1
  have B5 := B1.trans (A1.mono B1.size)
  clear M1 A1
  go_wp2_with fail
  generalize w1.alloc (.cells #[.slice a1 n1 c1] 25) = W1 at *
  refine (implProgText_any _ ps _ M4 (HT.out.below B5)).mono ?_
  rintro e w3 ⟨rfl, b3⟩
  have x5 := cell_below b3 x4
  have M5 := M4.below b3
  have B6 := B5.trans (b3.mono B5.size)
  clear b3 x4 M4 B5
  go_wp2_with fail
  refine (specProgText_any _ ps _ M5).mono ?_
  rintro e w4 ⟨rfl, b4⟩
  have x6 := cell_below b4 x5
  have M6 := M5.below b4
  have B7 := B6.trans (b4.mono B6.size)
  clear b4 x5 M5 B6
  have HP : Hid (∀ w v, MethsAt w v ps → Calls Tryd.prog 10 #[.agg #[v]] w fun e w' => e = .returned (.string (bs (textProg ps))) ∧ Below w.heap.size w w') := fun w v h => specProgText_any v ps w h
  have HX : Hid ((bs (textProg ps)).toList = textProg ps) := bs_list _
  have hp0 := text_empty' ps
  generalize bs (textProg ps) = T1 at *
  cases hpk : progOk ps
  · rw [hpk] at hp0
    simp only [Bool.not_false] at hp0
    go_wp2_with fail
    refine (HP.out _ _ M6).mono ?_
    rintro e w7 ⟨rfl, b7⟩
    have B10 := B7.trans (b7.mono B7.size)
    clear b7 B7
    go_wp2
    go_ret
    exact ⟨rfl, B10⟩
  rw [hpk] at hp0
  simp only [Bool.not_true] at hp0
  go_wp2_with fail
  refine (progRead_any T1 w4 (HT.out.below B7)).mono ?_
  rintro e w5 ⟨b5, u, b, rfl, hyes, hno⟩
  cases b
  · exact absurd HX.out.symm ((hno rfl).2 ps hpk)
  obtain ⟨ms, hP, hl, ho, hok, htx⟩ := hyes rfl
  have hE : Hid (plainOf ms = ps) := textProg_inj hok hpk (by rw [htx, HX.out])
  obtain ⟨a2, c2, hv2⟩ := hP.shape
  subst hv2
  have N7 := hP.meths (by unfold maxLen; omega) (fun m hm => by have := ho m hm; unfold maxLen; omega)
  rw [hE.out] at N7
  have x7 := cell_below b5 x6
  have M7 := M6.below b5
  have B8 := B7.trans (b5.mono B7.size)
  clear hyes hno hP ho hok htx b5 x6 M6 B7
  generalize ms.length = n2 at *
  have A2 : Below w5.heap.size w5 (w5.alloc (.cells #[.slice a2 n2 c2] 25)) := (Below.refl _ _).alloc (Nat.le_refl _) _
  have x8 := cell_below A2 x7
  have y8 : (w5.alloc (.cells #[.slice a2 n2 c2] 25)).cell? ⟨w5.heap.size, 0, none⟩ = some (.slice a2 n2 c2) := by simp [go_sem]
  have M8 := M7.below A2
  have N8 := N7.below A2
  have B9 := B8.trans (A2.mono B8.size)
  have X8 : ∀ o1, (w5.alloc o1).cell? ⟨w1.heap.size, 0, none⟩ = some (.slice a1 n1 c1) := fun o1 => cell_below ((Below.refl _ _).alloc (Nat.le_refl _) _) x7
  clear A2 M7 N7 B8 x7
  go_wp2_with fail
  refine (lmProg_any _ _ ps ps _ N8 M8).mono ?_
  rintro e w7 ⟨rfl, b7⟩
  have B10 := B9.trans (b7.mono B9.size)
  clear b7 B9 x8 y8 X8
  have hd : decide (ps = ps) = true := by simp
  rw [hd]
  go_wp2
  go_ret
  exact ⟨rfl, B10⟩

end Go.Proofs.YtohpoknfmlajgaaDoor
