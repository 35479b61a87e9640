/-
  The law FnExactHeapNew, walked: whatever methods lie behind its argument, it answers true and writes to nothing that was there.
-/
import Derived.Test.YtolonocebclocaaCopy2
import Derived.Test.YtolonocebclocaaSize
import Derived.Test.YtolonocebclocaaSame
import Derived.Test.YtolonocebclocaaHSame
import Derived.Test.YtolonocebclocaaHNew
import Derived.Test.YtolonocebclocaaMarks
import Derived.Test.YtolonocebclocaaDeepM
import Derived.Deep.RegionHeld3
namespace Go.Proofs.Ytolonocebclocaa
open Go.RowKit

theorem newHp_small (ms : List (Int × Int × List (Int × Int))) : (newHp ms).small := by
  by_cases hp : progOk ms = true
  · obtain ⟨_, _, _, _, ht⟩ := first_ok hp
    unfold newHp
    rw [if_pos hp]
    refine ⟨by simp, fun i hi => ?_, by simp⟩
    obtain rfl : i = 0 := by simpa using hi
    exact ⟨by simp; omega, by simp⟩
  · unfold newHp
    rw [if_neg hp]
    exact ⟨by simp, fun i hi => absurd hi (Nat.not_lt_zero _), by simp⟩

theorem Mid.below {B C B0 : Nat} {w0 w w' : World} (h : Mid B C w w') (hb : Below B0 w0 w) (h0 : B0 ≤ w0.heap.size) (h1 : B0 ≤ B) : Below B0 w0 w' :=
  ⟨h.os.trans hb.os, h.tape.trans hb.tape, h.output.trans hb.output, Nat.le_trans hb.size h.size, fun k hk => (h.block k (by have := hb.size; omega) (.inl (by omega))).trans (hb.block k hk)⟩

set_option maxRecDepth 100000 in
set_option maxHeartbeats 4000000 in
theorem law_any (v : Value) (ms : List (Int × Int × List (Int × Int))) (w : World) (h : MethsAt w v ms) :
    Calls Try.prog 4 #[.agg #[v]] w fun e w' => e = .returned (.bool true) ∧ Below w.heap.size w w' := by
  obtain ⟨a, cap, hv, hvx⟩ := id h
  clear hvx
  subst hv
  have hA : Below w.heap.size w (w.alloc (.cells #[.slice a ms.length cap] 24)) := (Below.refl _ _).alloc (Nat.le_refl _) _
  have bx : (w.alloc (.cells #[.slice a ms.length cap] 24)).cell? ⟨w.heap.size, 0, none⟩ = some (.slice a ms.length cap) := by simp [go_sem]
  go_enter Try.func4, Try.ntmps4
  go_wp2_with fail
  generalize w.alloc (.cells #[.slice a ms.length cap] 24) = W0 at *
  have hA0 := hA.size
  refine (szProg_any _ ms _ _ (h.below hA) (by omega) (by omega)).mono ?_
  rintro e w1 ⟨r, rfl, hr1, hr0, hb1⟩
  have B1 : Below w.heap.size w w1 := hA.trans (hb1.mono hA0)
  have bx1 := cell_below hb1 bx
  have HR : Hid (0 ≤ r → ms.length ≤ 1048576 ∧ ∀ i, (hi : i < ms.length) → ms[i].2.2.length ≤ 1048576) := hr0
  clear hr0 hb1 bx hA hA0
  by_cases hr : r < 0
  · go_wp2
    go_ret
    exact ⟨rfl, B1⟩
  obtain ⟨hn, ho⟩ := HR.out (by omega)
  have HN : Hid (ms.length ≤ 1048576 ∧ ∀ i, (hi : i < ms.length) → ms[i].2.2.length ≤ 1048576) := ⟨hn, ho⟩
  clear HR hn ho
  have z1 := B1.size
  have hwl : w.heap.size < w1.heap.size := World.block_lt_of_cell? _ _ bx1
  have HS : Hid (newHp ms).small := newHp_small ms
  generalize hpe : progOk ms = pk at *
  generalize hhe : newHp ms = nh at *
  have HE : Hid (progOk ms = pk ∧ newHp ms = nh) := ⟨hpe, hhe⟩
  clear hpe hhe
  go_wp2_with fail
  refine (toProg_any _ ms _ (h.below B1) HN.out.1 HN.out.2).mono ?_
  rintro e w2 ⟨v2, rfl, hm2, hb2, _⟩
  have M2 := hm2.at
  have B2 : Below w.heap.size w w2 := B1.trans (hb2.mono z1)
  have bx2 := cell_below hb2 bx1
  have z2 := B2.size
  have y2 := hb2.size
  clear hm2 hb2 bx1 B1 z1
  go_wp2_with fail
  refine (specHeapNew_any _ ms _ M2).mono ?_
  rintro e w3 ⟨hb3, vc3, vs3, rfl, hh3⟩
  rw [HE.out.2] at hh3
  rw [HE.out.1, HE.out.2]
  have B3 : Below w.heap.size w w3 := B2.trans (hb3.mono z2)
  have bx3 := cell_below hb3 bx2
  have z3 := B3.size
  have y3 := hb3.size
  clear hb3 bx2 B2 z2 M2
  obtain ⟨ac3, kc3, hvc3⟩ := hh3.c.shape
  obtain ⟨aD3, kD3, hvs3⟩ := hh3.s.shape
  subst hvc3 hvs3
  unfold hpCells
  go_upto_region 6 with fail
  have N3 := (Below.refl w3.heap.size w3).alloc (Nat.le_refl _) (.cells #[.slice ac3 nh.calls.length kc3, .int .i64 nh.now, .int .i64 nh.born, .slice aD3 nh.said.length kD3, .int .i64 nh.code] 39)
  have wz4 := five_new w3 39 (.slice ac3 nh.calls.length kc3) (.int .i64 nh.now) (.int .i64 nh.born) (.slice aD3 nh.said.length kD3) (.int .i64 nh.code)
  have bx4 := cell_below N3 bx3
  have hh4 := hh3.below N3
  have B4 := B3.trans (N3.mono z3)
  have y34 := N3.size
  generalize w3.alloc (.cells #[.slice ac3 nh.calls.length kc3, .int .i64 nh.now, .int .i64 nh.born, .slice aD3 nh.said.length kD3, .int .i64 nh.code] 39) = w4 at *
  have z4 := B4.size
  have y4 := wz4.lt
  clear N3 bx3 hh3 B3 z3
  have HH4 : Hid (HeapAt w4 (.slice ac3 nh.calls.length kc3) (.slice aD3 nh.said.length kD3) nh) := hh4
  have HX4 : Hid (w4.cell? ⟨w.heap.size, 0, none⟩ = some (.slice a ms.length cap)) := bx4
  have HW4 : Hid (w4.rowIs w3.heap.size 39 5 (five (.slice ac3 nh.calls.length kc3) (.int .i64 nh.now) (.int .i64 nh.born) (.slice aD3 nh.said.length kD3) (.int .i64 nh.code))) := wz4
  have HB4 : Hid (Below w.heap.size w w4) := B4
  clear hh4 wz4
  go_wp2_with fail
  refine (toProg_any _ ms _ (h.below B4) HN.out.1 HN.out.2).mono ?_
  rintro e w5 ⟨v5, rfl, hm5, hb5, hnf5, hhi5⟩
  have HM5 : Hid (MethsNew w4.heap.size w5 v5 ms ∧ NF w4.heap.size w5 ∧ MethsHi w5 v5 ms) := ⟨hm5, hnf5, hhi5⟩
  obtain ⟨g5, l5, c5, hv5, _⟩ := hm5.own
  subst hv5
  have L5 := hb5
  have y5 := hb5.size
  clear hm5 hnf5 hhi5 hb5 B4 bx4
  go_upto_region 7 with fail
  have N5 := (Below.refl w5.heap.size w5).alloc (Nat.le_refl _) (.cells #[.slice (some ⟨g5, 0, none⟩) l5 c5] 34)
  have by6 : (w5.alloc (.cells #[.slice (some ⟨g5, 0, none⟩) l5 c5] 34)).cell? ⟨w5.heap.size, 0, none⟩ = some (.slice (some ⟨g5, 0, none⟩) l5 c5) := by simp [go_sem]
  generalize w5.alloc (.cells #[.slice (some ⟨g5, 0, none⟩) l5 c5] 34) = w6 at *
  have y6 : w5.heap.size < w6.heap.size := World.block_lt_of_cell? _ _ by6
  go_wp2_with fail
  refine (implHeapNew_any _ ms _ (HM5.out.1.at.below N5)).mono ?_
  rintro e w7 ⟨hb7, vc7, vs7, V7, rfl, ho7⟩
  rw [HE.out.2] at ho7
  rw [HE.out.1, HE.out.2]
  obtain ⟨ac7, kc7, hvc7, _⟩ := ho7.c.shape
  obtain ⟨aD7, kD7, hvs7, _⟩ := ho7.s.slice
  subst hvc7 hvs7
  unfold hpCells
  have by7 := cell_below hb7 by6
  have U7 := N5.trans (hb7.mono (Nat.le_of_lt y6))
  have y7 := hb7.size
  have HLT : Hid (∀ g, HeapBlocks (.slice ac7 nh.calls.length kc7) (.slice aD7 nh.said.length kD7) nh.calls.length V7 g → w6.heap.size ≤ g ∧ g < w7.heap.size) := fun g hg => ho7.lt hg
  clear hb7 by6 N5
  go_upto_region 8 with fail
  have N7 := (Below.refl w7.heap.size w7).alloc (Nat.le_refl _) (.cells #[.slice ac7 nh.calls.length kc7, .int .i64 nh.now, .int .i64 nh.born, .slice aD7 nh.said.length kD7, .int .i64 nh.code] 39)
  have gz8 := five_new w7 39 (.slice ac7 nh.calls.length kc7) (.int .i64 nh.now) (.int .i64 nh.born) (.slice aD7 nh.said.length kD7) (.int .i64 nh.code)
  have by8 := cell_below N7 by7
  have ho8 := ho7.below N7
  have U8 := U7.trans (N7.mono (by omega))
  generalize w7.alloc (.cells #[.slice ac7 nh.calls.length kc7, .int .i64 nh.now, .int .i64 nh.born, .slice aD7 nh.said.length kD7, .int .i64 nh.code] 39) = w8 at *
  have y8 := gz8.lt
  clear N7 by7 ho7 U7
  have L8 : Below w4.heap.size w4 w8 := L5.trans (U8.mono y5)
  have B8 : Below w.heap.size w w8 := HB4.out.trans (L8.mono z4)
  obtain ⟨⟨x0, x1, x2, x3, x4⟩, xf⟩ := five_cells (row_below L8 HW4.out)
  obtain ⟨⟨g0, g1, g2, g3, g4⟩, gf⟩ := five_cells gz8
  clear xf gf
  go_wp2_with fail
  refine (eqHeap_same nh _ _ _ _ _ ho8.at (HH4.out.below L8)).mono ?_
  rintro e w9 ⟨rfl, hb9⟩
  have by9 := cell_below hb9 by8
  have gz9 := row_below hb9 gz8
  have ho9 := ho8.below hb9
  have U9 := U8.trans (hb9.mono (by omega))
  have L9 := L5.trans (U9.mono y5)
  have B9 : Below w.heap.size w w9 := HB4.out.trans (L9.mono z4)
  have y9 := hb9.size
  clear hb9 by8 gz8 ho8 U8 L8 B8 x0 x1 x2 x3 x4 g0 g1 g2 g3 g4
  go_wp2_with fail
  have h9 : MethsAt w9.drew _ ms := (h.below B9).below (Below.refl _ _).drew
  have M9 : MethsAt w9.drew _ ms := (HM5.out.1.at.below U9).below (Below.refl _ _).drew
  have bx9 : w9.drew.cell? ⟨w.heap.size, 0, none⟩ = some (.slice a ms.length cap) := cell_below L9 HX4.out
  have by9d : w9.drew.cell? ⟨w5.heap.size, 0, none⟩ = some (.slice (some ⟨g5, 0, none⟩) l5 c5) := by9
  go_region_held3 (fun w' => w'.cell? ⟨w.heap.size, 0, none⟩ = some (.slice a ms.length cap) ∧ w'.cell? ⟨w5.heap.size, 0, none⟩ = some (.slice (some ⟨g5, 0, none⟩) l5 c5))
    (first | exact ⟨bxQ, byQ⟩ | exact ⟨bxP, byP⟩ | go_keep)
    ((first
      | (have hx := hbP; clear hx; go_at_call 12; refine (eqProg_same _ _ ms _ (M9.below hbP) hmP.at).mono ?_; rintro e wQ ⟨rfl, hbQ⟩; have bxQ := cell_below hbQ bxP; have byQ := cell_below hbQ byP)
      | (go_at_call 9; refine (toProg_any _ ms _ h9 HN.out.1 HN.out.2).mono ?_; rintro e wP ⟨vP, rfl, hmP, hbP, hnfP, hhiP⟩; have bxP := cell_below hbP bx9; have byP := cell_below hbP by9d)))
  have hzP := hbP.size
  have b9Q : Below w9.drew.heap.size w9.drew wQ := hbP.trans (hbQ.mono hzP)
  have y9d : w9.drew.heap.size = w9.heap.size := rfl
  have UQ : Below w5.heap.size w5 wQ := U9.drew.trans (b9Q.mono (by omega))
  have gzQ := row_below b9Q (show w9.drew.rowIs w7.heap.size 39 5 _ from gz9)
  have hoQ := (ho9.below (Below.refl w9.heap.size w9).drew).below b9Q
  have yQ := b9Q.size
  clear hzP b9Q hbP hbQ hnfP hhiP hmP M9 h9 bx9 by9d bxP byP bxQ gz9 ho9 U9 L9 B9 by9
  go_wp2_with fail
  refine (markProg_any w4.heap.size _ ms w5 _ HM5.out.1 HM5.out.2.1 HM5.out.2.2 UQ HN.out.1 HN.out.2).mono ?_
  rintro e wR ⟨hmid, K, rfl, hK0⟩
  have hzR := hmid.size
  have LR : Below w4.heap.size w4 wR := hmid.below (L5.trans (UQ.mono y5)) (Nat.le_refl _) (Nat.le_refl _)
  have gzR := gzQ.of_block (hmid.block w7.heap.size gzQ.lt (.inr (by omega)))
  have hoR : OwnHeap w6.heap.size wR _ _ nh V7 := hoQ.kept hmid.size fun g hg => hmid.block g (hoQ.lt hg).2 (.inr (by have := (HLT.out g hg).1; omega))
  have hKn : ¬ K < 0 := by omega
  clear hmid gzQ hoQ UQ byQ
  obtain ⟨⟨x0, x1, x2, x3, x4⟩, xf⟩ := five_cells (row_below LR HW4.out)
  obtain ⟨⟨g0, g1, g2, g3, g4⟩, gf⟩ := five_cells gzR
  clear xf gf
  go_wp2_with fail
  refine (eqHeap_same nh _ _ _ _ _ hoR.at (HH4.out.below LR)).mono ?_
  rintro e wS ⟨rfl, hbS⟩
  have LS := LR.trans (hbS.mono (by omega))
  have gzS := row_below hbS gzR
  have hoS := hoR.below hbS
  have yS := hbS.size
  clear hbS gzR hoR LR x0 x1 x2 x3 x4 g0 g1 g2 g3 g4
  obtain ⟨⟨g0, g1, g2, g3, g4⟩, gf⟩ := five_cells gzS
  clear gf
  go_wp2_with fail
  refine (markHeap_any w6.heap.size _ _ nh V7 1 _ hoS HS.out (by omega) (by omega)).mono ?_
  rintro e wT ⟨rfl, hoT, hwT⟩
  have LT : Below w4.heap.size w4 wT := hwT.below LS (Nat.le_refl _) (fun g hg => by have := (HLT.out g hg).1; omega)
  have gzT := gzS.of_block (hwT.block w7.heap.size gzS.lt (fun hg => by have := (HLT.out _ hg).2; omega))
  have yT := hwT.size
  clear hwT LS gzS hoS g0 g1 g2 g3 g4
  have hE0 : 0 ≤ endH 1 nh := by
    have := (kAt_le 1 nh.calls HS.out.2.1 nh.calls.length (Nat.le_refl _)).1
    unfold endH
    omega
  have hEn : ¬ endH 1 nh < 0 := by omega
  obtain ⟨⟨g0, g1, g2, g3, g4⟩, gf⟩ := five_cells gzT
  clear gf
  go_wp2_with fail
  refine (heldHeap_any _ _ nh 1 _ hoT.at HS.out (by omega) (by omega)).mono ?_
  rintro e wU ⟨rfl, hbU⟩
  have LU := LT.trans (hbU.mono (by omega))
  have gzU := row_below hbU gzT
  have hoU := hoT.below hbU
  have BU : Below w.heap.size w wU := HB4.out.trans (LU.mono z4)
  have bxU := cell_below LU HX4.out
  have yU := hbU.size
  clear hbU LT gzT hoT g0 g1 g2 g3 g4
  go_wp2_with fail
  refine (toProg_any _ ms _ (h.below BU) HN.out.1 HN.out.2).mono ?_
  rintro e wV ⟨vV, rfl, hmV, hbV, _⟩
  have MV := hmV.at
  have LV := LU.trans (hbV.mono (by omega))
  have gzV := row_below hbV gzU
  have hoV := hoU.below hbV
  have yV := hbV.size
  clear hmV hbV LU gzU hoU BU bxU
  go_wp2_with fail
  refine (implHeapNew_any _ ms _ MV).mono ?_
  rintro e wX ⟨hbX, vcX, vsX, VX, rfl, hoX⟩
  rw [HE.out.2] at hoX
  rw [HE.out.1, HE.out.2]
  obtain ⟨acX, kcX, hvcX, _⟩ := hoX.c.shape
  obtain ⟨aDX, kDX, hvsX, _⟩ := hoX.s.slice
  subst hvcX hvsX
  unfold hpCells
  have LX := LV.trans (hbX.mono (by omega))
  have gzX := row_below hbX gzV
  have hogX := hoV.below hbX
  have yX := hbX.size
  clear hbX LV gzV hoV MV
  go_upto_region 25 with fail
  have NX := (Below.refl wX.heap.size wX).alloc (Nat.le_refl _) (.cells #[.slice acX nh.calls.length kcX, .int .i64 nh.now, .int .i64 nh.born, .slice aDX nh.said.length kDX, .int .i64 nh.code] 39)
  have hzY := five_new wX 39 (.slice acX nh.calls.length kcX) (.int .i64 nh.now) (.int .i64 nh.born) (.slice aDX nh.said.length kDX) (.int .i64 nh.code)
  have LY := LX.trans (NX.mono (by omega))
  have gzY := row_below NX gzX
  have hogY := hogX.below NX
  have hoY := hoX.below NX
  generalize wX.alloc (.cells #[.slice acX nh.calls.length kcX, .int .i64 nh.now, .int .i64 nh.born, .slice aDX nh.said.length kDX, .int .i64 nh.code] 39) = wY at *
  have yY := hzY.lt
  clear NX LX gzX hogX hoX
  obtain ⟨⟨x0, x1, x2, x3, x4⟩, xf⟩ := five_cells (row_below LY HW4.out)
  obtain ⟨⟨g0, g1, g2, g3, g4⟩, gf⟩ := five_cells hzY
  clear xf gf
  go_wp2_with fail
  refine (eqHeap_same nh _ _ _ _ _ hoY.at (HH4.out.below LY)).mono ?_
  rintro e wZ ⟨rfl, hbZ⟩
  have LZ := LY.trans (hbZ.mono (by omega))
  have gzZ := row_below hbZ gzY
  have hogZ := hogY.below hbZ
  have yZ := hbZ.size
  clear hbZ LY gzY hogY hoY hzY x0 x1 x2 x3 x4 g0 g1 g2 g3 g4
  obtain ⟨⟨g0, g1, g2, g3, g4⟩, gf⟩ := five_cells gzZ
  clear gf
  go_wp2_with fail
  refine (heldHeap_any _ _ nh 1 _ hogZ.at HS.out (by omega) (by omega)).mono ?_
  rintro e wL ⟨rfl, hbL⟩
  have BL : Below w.heap.size w wL := HB4.out.trans ((LZ.trans (hbL.mono (by omega))).mono z4)
  clear hbL LZ gzZ hogZ g0 g1 g2 g3 g4
  go_wp2
  go_ret
  exact ⟨rfl, BL⟩

end Go.Proofs.Ytolonocebclocaa
