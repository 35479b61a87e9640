/-
  The law FnSaidText, walked: whatever bytes come in, it answers true and writes to nothing that was there.
-/
import Derived.Test.YtileneepajcbgaaDoorDrawSaid
import Derived.Test.YtileneepajcbgaaDoorVSpec
import Derived.Test.YtileneepajcbgaaDoorLmVals
import Derived.Test.YtileneepajcbgaaDoorSaidImpl
import Derived.Test.YtileneepajcbgaaDoorSaidSpec
namespace Go.Proofs.YtileneepajcbgaaDoor
open Go.RowKit

set_option maxRecDepth 100000 in
set_option maxHeartbeats 4000000 in
theorem lawSaidText_any (w : World) (a : Option Addr) (len cap : Nat) (a2 : Option Addr) (len2 cap2 : Nat) (h : BytesAt w a len cap) (h2 : BytesAt w a2 len2 cap2) (hp : PowAt w) :
    Calls Tryd.prog 3 #[.slice a len cap, .slice a2 len2 cap2] w fun e w' => e = .returned (.bool true) ∧ Below w.heap.size w w' := by
  have hm := h.2.1
  have hm2 := h2.2.1
  unfold maxLen at hm hm2
  have HB : Hid (BytesAt w a len cap) := h
  have HPW : Hid (PowAt w) := hp
  clear h h2 hp
  by_cases hl : 1048576 < len
  · have hlz : (1048576 : Int) < (len : Int) := by omega
    go_enter Tryd.func3, Tryd.ntmps3
    go_wp2
    go_ret
    exact ⟨rfl, Below.refl _ _⟩
  have hlz : (len : Int) ≤ 1048576 := by omega
  by_cases hl2 : 1048576 < len2
  · have hlz2 : (1048576 : Int) < (len2 : Int) := by omega
    go_enter Tryd.func3, Tryd.ntmps3
    go_wp2
    go_ret
    exact ⟨rfl, Below.refl _ _⟩
  have hlz2 : (len2 : Int) ≤ 1048576 := by omega
  go_enter Tryd.func3, Tryd.ntmps3
  go_wp2_with fail
  refine (drawSaidText_any _ a len cap HB.out).mono ?_
  rintro e w1 ⟨a1, c1, L, rfl, pr, hL, hF, hB1⟩
  have z1 := hB1.size
  have hp1 := HPW.out.on hB1 (Nat.le_refl _)
  obtain ⟨k, hk⟩ : ∃ k, k = len2 % (L.length + 1) := ⟨_, rfl⟩
  have hkl : k ≤ L.length := by
    have := Nat.mod_lt len2 (show 0 < L.length + 1 by omega)
    omega
  have hrem : ((len2 : Int)).tmod ((L.length : Int) + 1) = (k : Int) := by
    rw [Int.tmod_eq_emod_of_nonneg (by omega), hk, Int.natCast_emod]
    rfl
  have hnz : ¬ ((L.length : Int) + 1 = 0) := by omega
  obtain ⟨o1, hkc⟩ := pr.piece (l := 0) (k := k) (Nat.zero_le _) hkl
  obtain ⟨o2, _⟩ := pr.piece (l := k) (k := L.length) hkl (Nat.le_refl _)
  rw [List.drop_zero] at o1
  rw [List.take_length] at o2
  have o0 := pr.at
  have vto := fun W => val_to W a1 L.length c1 k hkc
  have vfr := fun W => val_from W a1 L.length c1 k hkl
  have fe1 : ∀ v ∈ L.take k, Few v := fun v hv => hF v (List.mem_of_mem_take hv)
  have fe2 : ∀ v ∈ L.drop k, Few v := fun v hv => hF v (List.mem_of_mem_drop hv)
  have HI : Hid (Calls Tryd.prog 6 #[.slice a1 L.length c1] w1 fun e w' => e = .returned (.string (bs (saidText L))) ∧ Below w1.heap.size w1 w') := implSaidText_any _ _ _ o0 (by omega) hF hp1
  have HS : Hid (∀ W, Below w1.heap.size w1 W → Calls Tryd.prog 7 #[.slice a1 L.length c1] W fun e w' => e = .returned (.string (bs (saidText L))) ∧ Below W.heap.size W w') := fun W hW => specSaidText_any _ _ _ (o0.below hW) (by omega) hF
  have HX1 : Hid (∀ W, Below w1.heap.size w1 W → Calls Tryd.prog 6 #[sliced a1 0 k c1 2] W fun e w' => e = .returned (.string (bs (saidText (L.take k)))) ∧ Below W.heap.size W w') := fun W hW => implSaidText_any _ _ _ (o1.below hW) (by rw [List.length_take]; omega) fe1 (hp1.below hW)
  have HX2 : Hid (∀ W, Below w1.heap.size w1 W → Calls Tryd.prog 6 #[sliced a1 k L.length c1 2] W fun e w' => e = .returned (.string (bs (saidText (L.drop k)))) ∧ Below W.heap.size W w') := fun W hW => implSaidText_any _ _ _ (o2.below hW) (by rw [List.length_drop]; omega) fe2 (hp1.below hW)
  have hsum : bs (saidText (L.take k)) ++ bs (saidText (L.drop k)) = bs (saidText L) := by rw [bs_add, ← saidText_app, List.take_append_drop]
  have s1 : (bs (saidText (L.take k))).size ≤ 1000 := by
    rw [bs_size]
    have := saidText_take_le (fun x hx => (hF x hx).2.2.2) k
    omega
  have s2 : (bs (saidText (L.drop k))).size ≤ 1000 := by
    rw [bs_size]
    have := saidText_le (L.drop k) fun x hx => (fe2 x hx).2.2.2
    rw [List.length_drop] at this
    omega
  have HZ : Hid ((decide ((0 : Int) < (L.length : Int)) == !((bs (saidText L)).toList == [])) = true) := by
    show _ = _
    rw [bs_list]
    by_cases e : L = []
    · subst e; rfl
    · have e1 : saidText L ≠ [] := fun x => e (saidText_some.1 x)
      have e2 : 0 < L.length := List.length_pos_iff.2 e
      rw [decide_eq_true (by omega), beq_eq_false_iff_ne.2 e1]
      rfl
  clear hk HPW HB fe1 fe2 hF o0 o1 o2 pr hp1 hm hm2
  generalize bs (saidText (L.take k)) = S1 at *
  generalize bs (saidText (L.drop k)) = S2 at *
  generalize bs (saidText L) = S at *
  generalize sliced a1 0 k c1 2 = V1 at *
  generalize sliced a1 k L.length c1 2 = V2 at *
  have z3 : ¬ (9223372036854775807 < S1.size + S2.size) := by omega
  clear s1 s2
  go_wp2_with fail
  refine HI.out.mono ?_
  rintro e w2 ⟨rfl, hb2⟩
  clear HI
  have B2d : Below w1.heap.size w1 w2.drew := hb2.drew
  go_wp2_with fail
  go_region_held3 (fun _ => True)
    (exact trivial)
    ((first
      | (have hh := hbB; clear hh; go_at_call 6; refine (HX2.out _ BB).mono ?_; rintro e wC ⟨rfl, hbC⟩; have BC := BB.trans (hbC.mono BB.size))
      | (have hh := hbA; clear hh; go_at_call 6; refine (HX1.out _ BA).mono ?_; rintro e wB ⟨rfl, hbB⟩; have BB := BA.trans (hbB.mono BA.size))
      | (go_at_call 7; refine (HS.out _ B2d).mono ?_; rintro e wA ⟨rfl, hbA⟩; have BA := B2d.trans (hbA.mono B2d.size))))
  go_wp2
  go_ret
  exact ⟨ret_b (by first | simpa using HZ.out | simp [HZ.out]), hB1.trans (BC.mono z1)⟩

end Go.Proofs.YtileneepajcbgaaDoor
