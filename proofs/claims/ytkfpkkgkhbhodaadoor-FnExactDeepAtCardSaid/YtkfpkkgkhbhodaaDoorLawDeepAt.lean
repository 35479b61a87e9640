/-
  The law FnExactDeepAt, walked: whatever methods lie behind its first argument, and whatever its second is, it answers true and writes to nothing that was there; where the table opForms lies as its text lays it.
-/
import Derived.Test.YtkfpkkgkhbhodaaDoorCopy2
import Derived.Test.YtkfpkkgkhbhodaaDoorSize
import Derived.Test.YtkfpkkgkhbhodaaDoorSame
import Derived.Test.YtkfpkkgkhbhodaaDoorDeepI
import Derived.Test.YtkfpkkgkhbhodaaDoorDeepJ
import Derived.Test.YtkfpkkgkhbhodaaDoorDeepL
import Derived.Test.YtkfpkkgkhbhodaaDoorDeepM
namespace Go.Proofs.YtkfpkkgkhbhodaaDoor
open Go.RowKit

theorem res_len {ms : List (Int × Int × List (Int × Int))} {m : Int} {r : Bool} {f : List Int} (h : DeepRes ms m r f) : f.length ≤ 14 := by
  cases r
  · rcases h with ⟨e, _⟩ | ⟨_, rfl, _⟩
    · cases e
    · simp
  · have hr := (res_right h).1
    have hr' := inR_true.1 hr.2.1
    obtain ⟨mn, rfl⟩ := Int.eq_ofNat_of_zero_le hr'.1
    have hmn : mn < ms.length := by omega
    rw [hr.2.2.len, opsOf_nat hmn]
    exact len_ok hr.1 hmn

theorem Mid.below {B C B0 : Nat} {w0 w w' : World} (h : Mid B C w w') (hb : Below B0 w0 w) (h0 : B0 ≤ w0.heap.size) (h1 : B0 ≤ B) : Below B0 w0 w' :=
  ⟨h.os.trans hb.os, h.tape.trans hb.tape, h.output.trans hb.output, Nat.le_trans hb.size h.size, fun k hk => (h.block k (by have := hb.size; omega) (.inl (by omega))).trans (hb.block k hk)⟩

theorem Mid.row_hi {B C D : Nat} {w w' : World} {v : Value} {xs : List Int} (h : Mid B C w w') (hr : IntRow D w v xs) (hD : C ≤ D) : IntRow D w' v xs :=
  hr.kept h.size fun g e => h.block g (hr.lt g e).2 (.inr (by have := (hr.lt g e).1; omega))
theorem Mid.row_lo {B C D : Nat} {w w' : World} {v : Value} {xs : List Int} (h : Mid B C w w') (hr : IntRow D w v xs) (hlt : ∀ g, v.ownBlock = some g → g < B) : IntRow D w' v xs :=
  hr.kept h.size fun g e => h.block g (hr.lt g e).2 (.inl (hlt g e))

set_option maxRecDepth 100000 in
set_option maxHeartbeats 2000000 in
theorem lawDeepAt_any (v : Value) (ms : List (Int × Int × List (Int × Int))) (m : Int) (w : World) (h : MethsAt w v ms) (ht : TabAt w) :
    Calls Tryd.prog 3 #[.agg #[v], .int .i64 m] w fun e w' => e = .returned (.bool true) ∧ Below w.heap.size w w' := by
  obtain ⟨a, cap, hv, _⟩ := id h
  subst hv
  have hA : Below w.heap.size w (w.alloc (.cells #[.slice a ms.length cap] 24)) := (Below.refl _ _).alloc (Nat.le_refl _) _
  have bx : (w.alloc (.cells #[.slice a ms.length cap] 24)).cell? ⟨w.heap.size, 0, none⟩ = some (.slice a ms.length cap) := by simp [go_sem]
  go_enter Tryd.func3, Tryd.ntmps3
  go_wp2_with fail
  generalize w.alloc (.cells #[.slice a ms.length cap] 24) = W0 at *
  have hA0 := hA.size
  refine (szProg_any _ ms _ _ (h.below hA) (by omega) (by omega)).mono ?_
  rintro e w1 ⟨r, rfl, hr1, hr0, hb1⟩
  have B1 : Below w.heap.size w w1 := hA.trans (hb1.mono hA0)
  have bx1 := cell_below hb1 bx
  have HR : Hid (0 ≤ r → ms.length ≤ 1048576 ∧ ∀ i, (hi : i < ms.length) → ms[i].2.2.length ≤ 1048576) := hr0
  clear hr0 hb1 bx hA hA0
  by_cases hr : r < 0
  · go_wp2
    go_ret
    exact ⟨rfl, B1⟩
  obtain ⟨hn, ho⟩ := HR.out (by omega)
  have HN : Hid (ms.length ≤ 1048576 ∧ ∀ i, (hi : i < ms.length) → ms[i].2.2.length ≤ 1048576) := ⟨hn, ho⟩
  clear HR hn ho
  have z1 := B1.size
  have hwl : w.heap.size < w1.heap.size := World.block_lt_of_cell? _ _ bx1
  go_wp2_with fail
  refine (toProg_any _ ms _ (h.below B1) HN.out.1 HN.out.2).mono ?_
  rintro e w2 ⟨v2, rfl, hm2, hb2, _⟩
  have M2 := hm2.at
  have B2 : Below w.heap.size w w2 := B1.trans (hb2.mono z1)
  have bx2 := cell_below hb2 bx1
  have z2 := B2.size
  have y2 := hb2.size
  clear hm2 hb2 bx1 B1 z1
  go_wp2_with fail
  refine (specDeepAt_any _ ms _ _ M2).mono ?_
  rintro e w3 ⟨hb3, v3, r3, rfl, f3, hres3, hrow3⟩
  have HR3 : Hid (DeepRes ms m r3 f3) := hres3
  have hf14 : f3.length ≤ 14 := res_len hres3
  have B3 : Below w.heap.size w w3 := B2.trans (hb3.mono z2)
  have bx3 := cell_below hb3 bx2
  have z3 := B3.size
  have y3 := hb3.size
  have hlt3 : ∀ g, v3.ownBlock = some g → g < w3.heap.size := fun g e => (hrow3.lt g e).2
  clear hb3 bx2 B2 z2 M2 hres3
  go_wp2_with fail
  refine (toProg_any _ ms _ (h.below B3) HN.out.1 HN.out.2).mono ?_
  rintro e w4 ⟨v4, rfl, hm4, hb4, hnf4, hhi4⟩
  have HM4 : Hid (MethsNew w3.heap.size w4 v4 ms ∧ NF w3.heap.size w4 ∧ MethsHi w4 v4 ms) := ⟨hm4, hnf4, hhi4⟩
  have M4 := hm4.at
  obtain ⟨g4, l4, c4, hv4, _⟩ := hm4.own
  subst hv4
  have B4 : Below w.heap.size w w4 := B3.trans (hb4.mono z3)
  have bx4 := cell_below hb4 bx3
  have row4 := hrow3.below hb4
  have z4 := B4.size
  have y4 := hb4.size
  clear hm4 hnf4 hhi4 hb4 bx3 B3 z3 hrow3
  go_wp2_with fail
  have bx5 := cell_below ((Below.refl _ _).alloc (Nat.le_refl _) (.cells #[.slice (some ⟨g4, 0, none⟩) l4 c4] 31)) bx4
  have M5 := M4.below ((Below.refl _ _).alloc (Nat.le_refl _) (.cells #[.slice (some ⟨g4, 0, none⟩) l4 c4] 31))
  have B5 := B4.alloc z4 (.cells #[.slice (some ⟨g4, 0, none⟩) l4 c4] 31)
  have L5 : Below w4.heap.size w4 (w4.alloc (.cells #[.slice (some ⟨g4, 0, none⟩) l4 c4] 31)) := (Below.refl _ _).alloc (Nat.le_refl _) _
  have row5 := row4.below L5
  have by5 : (w4.alloc (.cells #[.slice (some ⟨g4, 0, none⟩) l4 c4] 31)).cell? ⟨w4.heap.size, 0, none⟩ = some (.slice (some ⟨g4, 0, none⟩) l4 c4) := by simp [go_sem]
  generalize w4.alloc (.cells #[.slice (some ⟨g4, 0, none⟩) l4 c4] 31) = w5 at *
  clear bx4 M4 B4 row4
  have z5 := B5.size
  have y5 := L5.size
  refine (implDeepAt_any _ ms _ _ M5 (ht.below B5)).mono ?_
  rintro e w6 ⟨hb6, v6, r6, rfl, f6, hres6, hrow6⟩
  obtain ⟨rfl, rfl⟩ := hres6.one HR3.out
  have B6 : Below w.heap.size w w6 := B5.trans (hb6.mono z5)
  have L6 : Below w4.heap.size w4 w6 := L5.trans (hb6.mono y5)
  have row6 := row5.below hb6
  have bx6 := cell_below hb6 bx5
  have by6 := cell_below hb6 by5
  have M6 := M5.below hb6
  have z6 := B6.size
  have y6 := L6.size
  have hg6 : IntRow w4.heap.size w6 v6 f6 := hrow6.mono y5
  clear hb6 bx5 by5 M5 B5 z5 hres6 hrow6 L5 row5 y5
  go_wp2_with fail
  refine (eqIntS_same _ _ _ _ f6 _ hg6 row6).mono ?_
  rintro e w7 ⟨rfl, hb7⟩
  have B7 : Below w.heap.size w w7 := B6.trans (hb7.mono z6)
  have L7 : Below w4.heap.size w4 w7 := L6.trans (hb7.mono y6)
  have row7 := row6.below hb7
  have hg7 := hg6.below hb7
  have bx7 := cell_below hb7 bx6
  have by7 := cell_below hb7 by6
  have M7 := M6.below hb7
  have z7 := B7.size
  have y7 := L7.size
  clear hb7 row6 hg6 bx6 by6 M6 B6 L6 z6 y6
  go_wp2_with fail
  have h7 : MethsAt w7.drew _ ms := (h.below B7).below (Below.refl _ _).drew
  have M7d : MethsAt w7.drew _ ms := M7.below (Below.refl _ _).drew
  go_region_held3 (fun w' => w'.cell? ⟨w.heap.size, 0, none⟩ = some (.slice a ms.length cap) ∧ w'.cell? ⟨w4.heap.size, 0, none⟩ = some (.slice (some ⟨g4, 0, none⟩) l4 c4))
    (first | go_keep | (refine ⟨cell_below hR ?_, cell_below hR ?_⟩ <;> assumption))
    ((first | (go_at_call 8; refine (toProg_any _ ms _ h7 HN.out.1 HN.out.2).mono ?_; rintro e wP ⟨vP, rfl, hmP, hR, _⟩) | (go_at_call 11; refine (eqProg_same _ _ ms _ (M7d.below hR) hmP.at).mono ?_; rintro e w8 ⟨rfl, hbQ⟩; have hR := hR.trans (hbQ.mono hR.size))))
  have B8 : Below w.heap.size w w8 := B7.drew.trans (hR.mono z7)
  have L8 : Below w4.heap.size w4 w8 := L7.drew.trans (hR.mono y7)
  have row8 := IntRow.below (w := w7.drew) row7 hR
  have hg8 := IntRow.below (w := w7.drew) hg7 hR
  have bx8 := cell_below hR (show w7.drew.cell? _ = _ from bx7)
  have by8 := cell_below hR (show w7.drew.cell? _ = _ from by7)
  have z8 := B8.size
  clear hR hbQ hmP M7d h7 M7 row7 hg7 bx7 by7 B7 L7 z7 y7
  go_wp2_with fail
  refine (markProg_any w3.heap.size _ ms w4 _ HM4.out.1 HM4.out.2.1 HM4.out.2.2 L8 HN.out.1 HN.out.2).mono ?_
  rintro e w9 ⟨hmid, K, rfl, hK0⟩
  have B9 : Below w.heap.size w w9 := hmid.below B8 (Nat.le_refl _) (by omega)
  have row9 := hmid.row_lo row8 hlt3
  have hg9 := hmid.row_hi hg8 (Nat.le_refl _)
  have bx9 : w9.cell? ⟨w.heap.size, 0, none⟩ = some (.slice a ms.length cap) := by rw [World.cell?_of_block (a := ⟨w.heap.size, 0, none⟩) (hmid.block w.heap.size (World.block_lt_of_cell? _ _ bx8) (.inl (by omega)))]; exact bx8
  have z9 := B9.size
  have hKn : ¬ K < 0 := by omega
  clear hmid row8 hg8 bx8 by8 B8 L8 z8 HM4
  go_wp2_with fail
  refine (eqIntS_same _ _ _ _ f6 _ hg9 row9).mono ?_
  rintro e w10 ⟨rfl, hb10⟩
  have B10 : Below w.heap.size w w10 := B9.trans (hb10.mono z9)
  have row10 := row9.below hb10
  have hg10 := hg9.below hb10
  have bx10 := cell_below hb10 bx9
  have z10 := B10.size
  clear hb10 row9 hg9 bx9 B9 z9
  go_wp2_with fail
  refine (markIntS_any _ _ f6 _ hg10 (by omega)).mono ?_
  rintro e w11 ⟨rfl, hg11, hgr⟩
  have hne : ∀ g, v3.ownBlock = some g → v6.ownBlock ≠ some g := fun g e e2 => by have := hlt3 g e; have := (hg10.lt g e2).1; omega
  have row11 := row10.grown hgr hne
  have B11 : Below w.heap.size w w11 := below_grown B10 hgr (Nat.le_refl _) (fun g e => by have := (hg10.lt g e).1; omega)
  have bx11 := cell_grown hgr bx10 (fun e => by have := (hg10.lt _ e).1; have e2 : w.heap.size < w4.heap.size := (by omega); dsimp only at this; omega)
  have z11 := B11.size
  clear hgr row10 hg10 bx10 B10 z10
  go_wp2_with fail
  refine (heldIntS_any _ _ _ _ hg11 (by omega)).mono ?_
  rintro e w' ⟨rfl, hw⟩
  obtain rfl := hw.symm
  have hlz : ¬ (1 + (f6.length : Int) < 0) := by omega
  go_wp2_with fail
  refine (toProg_any _ ms _ (h.below B11) HN.out.1 HN.out.2).mono ?_
  rintro e w12 ⟨v12, rfl, hm12, hb12, _⟩
  have M12 := hm12.at
  have B12 : Below w.heap.size w w12 := B11.trans (hb12.mono z11)
  have row12 := row11.below hb12
  have hg12 := hg11.below hb12
  have z12 := B12.size
  clear hm12 hb12 row11 hg11 bx11 B11 z11
  go_wp2_with fail
  refine (implDeepAt_any _ ms _ _ M12 (ht.below B12)).mono ?_
  rintro e w13 ⟨hb13, v13, r13, rfl, f13, hres13, hrow13⟩
  obtain ⟨rfl, rfl⟩ := hres13.one HR3.out
  have B13 : Below w.heap.size w w13 := B12.trans (hb13.mono z12)
  have row13 := row12.below hb13
  have hg13 := hg12.below hb13
  have z13 := B13.size
  clear hb13 hres13 row12 hg12 M12 B12 z12
  go_wp2_with fail
  refine (eqIntS_same _ _ _ _ _ _ hrow13 row13).mono ?_
  rintro e w14 ⟨rfl, hb14⟩
  have B14 : Below w.heap.size w w14 := B13.trans (hb14.mono z13)
  have hg14 := hg13.below hb14
  clear hb14 hrow13 row13 hg13 B13 z13
  go_wp2_with fail
  refine (heldIntS_any _ _ _ _ hg14 (by omega)).mono ?_
  rintro e w' ⟨rfl, hw⟩
  obtain rfl := hw.symm
  go_wp2
  go_ret
  exact ⟨rfl, B14⟩

end Go.Proofs.YtkfpkkgkhbhodaaDoor
