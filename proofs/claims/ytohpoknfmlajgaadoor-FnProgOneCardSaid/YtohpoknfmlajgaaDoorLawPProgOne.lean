/-
  The law FnProgOne, walked: whatever bytes are handed in, it answers true and writes to nothing that was there; where the table opForms lies as its text lays it.
-/
import Derived.Test.YtohpoknfmlajgaaDoorDrawText
import Derived.Test.YtohpoknfmlajgaaDoorTextSpec2
import Derived.Test.YtohpoknfmlajgaaDoorTextImpl3
import Derived.Test.YtohpoknfmlajgaaDoorTextInj
import Derived.Test.YtohpoknfmlajgaaDoorLmProg
namespace Go.Proofs.YtohpoknfmlajgaaDoor
open Go.RowKit

theorem text_same {ms ns : List (Int × Int × List (Int × Int))} (hm : progOk ms = true) (hn : progOk ns = true) : ((bs (textProg ms)).toList == (bs (textProg ns)).toList) = decide (ms = ns) := by
  rw [bs_list, bs_list, Bool.eq_iff_iff, beq_iff_eq, decide_eq_true_iff]
  exact ⟨textProg_inj hm hn, fun e => by rw [e]⟩

theorem text_empty (ms : List (Int × Int × List (Int × Int))) : ((bs (textProg ms)).toList == []) = !progOk ms := by
  rw [bs_list]
  cases h : progOk ms
  · rw [textProg_none h]; rfl
  · have := textProg_some h
    simp [this]

set_option maxRecDepth 100000 in
set_option maxHeartbeats 2000000 in
theorem lawProgOne_any (w : World) (a : Option Addr) (len cap : Nat) (h : BytesAt w a len cap) (a' : Option Addr) (len' cap' : Nat) (h' : BytesAt w a' len' cap') (ht : TabW w) :
    Calls Tryd.prog 5 #[.slice a len cap, .slice a' len' cap'] w fun e w' => e = .returned (.bool true) ∧ Below w.heap.size w w' := by
  have HB : Hid (BytesAt w a len cap) := h
  have HB' : Hid (BytesAt w a' len' cap') := h'
  have HT : Hid (TabW w) := ht
  clear h h' ht
  by_cases h1 : (1048576 : Int) < len
  · go_enter Tryd.func5, Tryd.ntmps5
    go_wp2
    go_ret
    exact ⟨rfl, Below.refl _ _⟩
  by_cases h2 : (1048576 : Int) < len'
  · go_enter Tryd.func5, Tryd.ntmps5
    go_wp2
    go_ret
    exact ⟨rfl, Below.refl _ _⟩
  go_enter Tryd.func5, Tryd.ntmps5
  go_wp2_with fail
  refine (drawProgText_any _ a len cap HB.out).mono ?_
  rintro e w1 ⟨v1, ms1, rfl, D1, B1⟩
  obtain ⟨a1, c1, hv1⟩ := D1.row.shape
  subst hv1
  have M1 := D1.meths
  have l1 : (plainOf ms1).length = ms1.length := by simp [plainOf]
  clear D1
  generalize plainOf ms1 = ps at *
  generalize ms1.length = n1 at *
  go_wp2_with fail
  have A1 : Below w1.heap.size w1 (w1.alloc (.cells #[.slice a1 n1 c1] 25)) := (Below.refl _ _).alloc (Nat.le_refl _) _
  have x1 : (w1.alloc (.cells #[.slice a1 n1 c1] 25)).cell? ⟨w1.heap.size, 0, none⟩ = some (.slice a1 n1 c1) := by simp [go_sem]
  have M2 := M1.below A1
  have B2 := B1.trans (A1.mono B1.size)
  clear M1 A1
  generalize w1.alloc (.cells #[.slice a1 n1 c1] 25) = W1 at *
  refine (drawProgText_any _ a' len' cap' (HB'.out.below B2)).mono ?_
  rintro e w2 ⟨v2, ms2, rfl, D2, B3⟩
  obtain ⟨a2, c2, hv2⟩ := D2.row.shape
  subst hv2
  have N3 := D2.meths
  have x3 := cell_below B3 x1
  have M3 := M2.below B3
  have B4 := B2.trans (B3.mono B2.size)
  clear D2 B3 x1 M2 B2 l1
  generalize plainOf ms2 = qs at *
  generalize ms2.length = n2 at *
  have A1 : Below w2.heap.size w2 (w2.alloc (.cells #[.slice a2 n2 c2] 25)) := (Below.refl _ _).alloc (Nat.le_refl _) _
  have y4 : (w2.alloc (.cells #[.slice a2 n2 c2] 25)).cell? ⟨w2.heap.size, 0, none⟩ = some (.slice a2 n2 c2) := by simp [go_sem]
  have x4 := cell_below A1 x3
  have N4 := N3.below A1
  have M4 := M3.below A1
  have B5 := B4.trans (A1.mono B4.size)
  have X4 : ∀ o1, (w2.alloc o1).cell? ⟨w1.heap.size, 0, none⟩ = some (.slice a1 n1 c1) := fun o1 => cell_below ((Below.refl _ _).alloc (Nat.le_refl _) _) x3
  have hne : ¬ w1.heap.size = w2.heap.size := by
    have := World.block_lt_of_cell? _ _ x3
    simp at this
    omega
  clear N3 M3 A1 x3 B4
  go_wp2_with fail
  generalize w2.alloc (.cells #[.slice a2 n2 c2] 25) = W2 at *
  clear X4
  refine (implProgText_any _ ps _ M4 (HT.out.below B5)).mono ?_
  rintro e w3 ⟨rfl, b3⟩
  have x5 := cell_below b3 x4
  have y5 := cell_below b3 y4
  have M5 := M4.below b3
  have N5 := N4.below b3
  have B6 := B5.trans (b3.mono B5.size)
  clear b3 x4 y4 M4 N4 B5
  go_wp2_with fail
  refine (implProgText_any _ qs _ N5 (HT.out.below B6)).mono ?_
  rintro e w4 ⟨rfl, b4⟩
  have x6 := cell_below b4 x5
  have y6 := cell_below b4 y5
  have M6 := M5.below b4
  have N6 := N5.below b4
  have B7 := B6.trans (b4.mono B6.size)
  clear b4 x5 y5 M5 N5 B6
  have HP : Hid (∀ w v, MethsAt w v ps → Calls Tryd.prog 10 #[.agg #[v]] w fun e w' => e = .returned (.string (bs (textProg ps))) ∧ Below w.heap.size w w') := fun w v h => specProgText_any v ps w h
  have HQ : Hid (∀ w v, MethsAt w v qs → Calls Tryd.prog 10 #[.agg #[v]] w fun e w' => e = .returned (.string (bs (textProg qs))) ∧ Below w.heap.size w w') := fun w v h => specProgText_any v qs w h
  have hS : progOk ps = true → progOk qs = true → ((bs (textProg ps)).toList == (bs (textProg qs)).toList) = decide (ps = qs) := text_same
  have hp0 := text_empty ps
  have hq0 := text_empty qs
  generalize bs (textProg ps) = T1 at *
  generalize bs (textProg qs) = T2 at *
  have HS : Hid (progOk ps = true → progOk qs = true → (T1.toList == T2.toList) = decide (ps = qs)) := hS
  clear hS
  go_wp2_with fail
  refine (HP.out _ _ M6).mono ?_
  rintro e w5 ⟨rfl, b5⟩
  have x7 := cell_below b5 x6
  have y7 := cell_below b5 y6
  have M7 := M6.below b5
  have N7 := N6.below b5
  have B8 := B7.trans (b5.mono B7.size)
  clear b5 x6 y6 M6 N6 B7
  go_wp2_with fail
  refine (HQ.out _ _ N7).mono ?_
  rintro e w6 ⟨rfl, b6⟩
  have x8 := cell_below b6 x7
  have y8 := cell_below b6 y7
  have M8 := M7.below b6
  have N8 := N7.below b6
  have B9 := B8.trans (b6.mono B8.size)
  clear b6 x7 y7 M7 N7 B8
  have HM8 : Hid (MethsAt w6 (.slice a1 n1 c1) ps) := M8
  have HN8 : Hid (MethsAt w6 (.slice a2 n2 c2) qs) := N8
  clear M8 N8
  cases hpk : progOk ps
  · rw [hpk] at hp0
    simp only [Bool.not_false] at hp0
    go_wp2_with fail
    refine (HP.out _ _ HM8.out).mono ?_
    rintro e w7 ⟨rfl, b7⟩
    have x9 := cell_below b7 x8
    have y9 := cell_below b7 y8
    have N9 := HN8.out.below b7
    have B10 := B9.trans (b7.mono B9.size)
    clear b7 B9 x8 y8
    go_wp2_with fail
    refine (HQ.out _ _ N9).mono ?_
    rintro e w8 ⟨rfl, b8⟩
    have B11 := B10.trans (b8.mono B10.size)
    clear b8 B10 x9 y9 N9
    go_wp2
    go_ret
    exact ⟨rfl, B11⟩
  rw [hpk] at hp0
  simp only [Bool.not_true] at hp0
  cases hqk : progOk qs
  · rw [hqk] at hq0
    simp only [Bool.not_false] at hq0
    go_wp2_with fail
    refine (HP.out _ _ HM8.out).mono ?_
    rintro e w7 ⟨rfl, b7⟩
    have x9 := cell_below b7 x8
    have y9 := cell_below b7 y8
    have N9 := HN8.out.below b7
    have B10 := B9.trans (b7.mono B9.size)
    clear b7 B9 x8 y8
    go_wp2_with fail
    refine (HQ.out _ _ N9).mono ?_
    rintro e w8 ⟨rfl, b8⟩
    have B11 := B10.trans (b8.mono B10.size)
    clear b8 B10 x9 y9 N9
    go_wp2
    go_ret
    exact ⟨rfl, B11⟩
  rw [hqk] at hq0
  simp only [Bool.not_true] at hq0
  have hE := HS.out hpk hqk
  go_wp2_with fail
  refine (lmProg_any _ _ ps qs _ HM8.out HN8.out).mono ?_
  rintro e w7 ⟨rfl, b7⟩
  have B10 := B9.trans (b7.mono B9.size)
  clear b7 B9 x8 y8
  generalize decide (ps = qs) = bb at *
  go_wp2
  go_ret
  exact ⟨rfl, B10⟩

end Go.Proofs.YtohpoknfmlajgaaDoor
