/-
  The law FnExactHeapMethods, walked: whatever program and heap come in, it answers true and writes to nothing that was there.
-/
import Derived.Test.YtnffknlgaiehdaaSize
import Derived.Test.YtnffknlgaiehdaaSame
import Derived.Test.YtnffknlgaiehdaaHSize
import Derived.Test.YtnffknlgaiehdaaHSame
import Derived.Test.YtnffknlgaiehdaaExKit
import Derived.Test.YtnffknlgaiehdaaMarks
import Derived.Test.YtnffknlgaiehdaaDeepM
import Derived.Test.YtnffknlgaiehdaaIntS
import Derived.Test.YtnffknlgaiehdaaMethods
import Derived.Deep.RegionHeld3
namespace Go.Proofs.Ytnffknlgaiehdaa
open Go.RowKit

theorem Mid.belowX {B C B0 : Nat} {w0 w w' : World} (h : Mid B C w w') (hb : Below B0 w0 w) (h0 : B0 ≤ w0.heap.size) (h1 : B0 ≤ B) : Below B0 w0 w' :=
  ⟨h.os.trans hb.os, h.tape.trans hb.tape, h.output.trans hb.output, Nat.le_trans hb.size h.size, fun k hk => (h.block k (by have := hb.size; omega) (.inl (by omega))).trans (hb.block k hk)⟩

theorem meth_few (ms : Ms) (h : Hp) : (methodsL ms h).length ≤ 100 := by
  unfold methodsL
  split
  · rename_i e
    have := (good_walk (good_iff.1 e)).2
    unfold methL
    rw [List.length_map]
    omega
  · simp

set_option maxRecDepth 100000 in
set_option maxHeartbeats 8000000 in
theorem lawMeth_any (v vc vs : Value) (ms : List (Int × Int × List (Int × Int))) (h : Hp) (wI : World) (hm : MethsAt wI v ms) (hh : HeapAt wI vc vs h) :
    Calls Try.prog 5 #[.agg #[v], .agg (hpCells vc vs h)] wI fun e w' => e = .returned (.bool true) ∧ Below wI.heap.size wI w' := by
  obtain ⟨aS, cap, hv, hvx⟩ := id hm
  clear hvx
  obtain ⟨ac, kc, hvc⟩ := hh.c.shape
  obtain ⟨aD, kD, hvs⟩ := hh.s.shape
  subst hv hvc hvs
  unfold hpCells
  have hA : Below wI.heap.size wI ((wI.alloc (.cells #[.slice aS ms.length cap] 24)).alloc (.cells #[.slice ac h.calls.length kc, .int .i64 h.now, .int .i64 h.born, .slice aD h.said.length kD, .int .i64 h.code] 28)) := ((Below.refl _ _).alloc (Nat.le_refl _) _).alloc (by simp) _
  have bx : ((wI.alloc (.cells #[.slice aS ms.length cap] 24)).alloc (.cells #[.slice ac h.calls.length kc, .int .i64 h.now, .int .i64 h.born, .slice aD h.said.length kD, .int .i64 h.code] 28)).cell? ⟨wI.heap.size, 0, none⟩ = some (.slice aS ms.length cap) := by simp [go_sem]
  have bh := five_new (wI.alloc (.cells #[.slice aS ms.length cap] 24)) 28 (.slice ac h.calls.length kc) (.int .i64 h.now) (.int .i64 h.born) (.slice aD h.said.length kD) (.int .i64 h.code)
  simp only [World.size_alloc] at bh
  go_enter Try.func5, Try.ntmps5
  go_wp2_with fail
  generalize (wI.alloc (.cells #[.slice aS ms.length cap] 24)).alloc (.cells #[.slice ac h.calls.length kc, .int .i64 h.now, .int .i64 h.born, .slice aD h.said.length kD, .int .i64 h.code] 28) = W0 at *
  have z0 := hA.size
  refine (szProg_any _ ms _ _ (hm.below hA) (by omega) (by omega)).mono ?_
  rintro e w1 ⟨r, rfl, hr1, hr0, hb1⟩
  have B1 : Below wI.heap.size wI w1 := hA.trans (hb1.mono z0)
  have bx1 := cell_below hb1 bx
  have bh1 := row_below hb1 bh
  have HR : Hid (0 ≤ r → ms.length ≤ 1048576 ∧ ∀ i, (hi : i < ms.length) → ms[i].2.2.length ≤ 1048576) := hr0
  clear hr0 hb1 bx bh hA z0
  by_cases hr : r < 0
  · go_wp2
    go_ret
    exact ⟨rfl, B1⟩
  have hr' : 0 ≤ r := by omega
  have HN : Hid (ms.length ≤ 1048576 ∧ ∀ i, (hi : i < ms.length) → ms[i].2.2.length ≤ 1048576) := HR.out hr'
  clear HR
  have z1 := B1.size
  obtain ⟨⟨x0, x1, x2, x3, x4⟩, xf⟩ := five_cells bh1
  clear xf
  go_wp2_with fail
  refine (szHeap_any h _ _ _ _ (hh.below B1) hr' hr1).mono ?_
  rintro e w2 ⟨r2, rfl, hq1, hq0, hb2⟩
  have B2 : Below wI.heap.size wI w2 := B1.trans (hb2.mono z1)
  have bx2 := cell_below hb2 bx1
  have bh2 := row_below hb2 bh1
  have HS0 : Hid (0 ≤ r2 → h.small) := hq0
  clear hq0 hb2 bx1 bh1 B1 z1 x0 x1 x2 x3 x4
  by_cases hq : r2 < 0
  · go_wp2
    go_ret
    exact ⟨rfl, B2⟩
  have hq' : 0 ≤ r2 := by omega
  have HSM : Hid h.small := HS0.out hq'
  clear HS0
  have z2 := B2.size
  have B2d : Below wI.heap.size wI w2.drew := B2.drew
  have z2d := B2d.size
  have C2 : Hid (w2.cell? ⟨wI.heap.size, 0, none⟩ = some (.slice aS ms.length cap) ∧ w2.cell? ⟨wI.heap.size + 1, 0, none⟩ = some (.slice ac h.calls.length kc) ∧ w2.cell? ⟨wI.heap.size + 1, 1, none⟩ = some (.int .i64 h.now) ∧ w2.cell? ⟨wI.heap.size + 1, 2, none⟩ = some (.int .i64 h.born) ∧ w2.cell? ⟨wI.heap.size + 1, 3, none⟩ = some (.slice aD h.said.length kD) ∧ w2.cell? ⟨wI.heap.size + 1, 4, none⟩ = some (.int .i64 h.code)) := ⟨bx2, (five_cells bh2).1⟩
  have bh2d : w2.drew.rowIs (wI.heap.size + 1) 28 5 (five (.slice ac h.calls.length kc) (.int .i64 h.now) (.int .i64 h.born) (.slice aD h.said.length kD) (.int .i64 h.code)) := bh2
  have M2 := hm.below B2d
  have H2 := hh.below B2d
  obtain ⟨⟨x0, x1, x2, x3, x4⟩, xf⟩ := five_cells bh2
  clear xf
  clear x0 x1 x2 x3 x4 M2 H2 bh2d C2 z2d B2d
  have hlm : h.calls.length ≤ maxLen := by { have := HSM.out.1; unfold maxLen; omega }
  have hxl := meth_few ms h
  obtain ⟨X, hX⟩ : ∃ X : List Int, methodsL ms h = X := ⟨_, rfl⟩
  have HSR : ∀ (vp vc vs : Value) (W : World), MethsAt W vp ms → HeapAt W vc vs h → Calls Try.prog 20 #[.agg #[vp], .agg (hpCells vc vs h)] W fun e w' => (∃ a1 k1, e = .returned (.slice a1 X.length k1) ∧ IntRow W.heap.size w' (.slice a1 X.length k1) X) ∧ Below W.heap.size W w' := fun vp vc vs W h1 h2 => by
    refine (specHeapMethods_any vp vc vs ms h W h1 h2 HSM.out.1).mono ?_
    rintro e w' ⟨v', rfl, ho, hb⟩
    rw [hX] at ho
    obtain ⟨a1, k1, hv1, _⟩ := ho.slice
    subst hv1
    exact ⟨⟨a1, k1, rfl, ho⟩, hb⟩
  have HIR : ∀ (vp vc vs : Value) (W : World), MethsAt W vp ms → HeapAt W vc vs h → Calls Try.prog 21 #[.agg #[vp], .agg (hpCells vc vs h)] W fun e w' => (∃ a1 k1, e = .returned (.slice a1 X.length k1) ∧ IntRow W.heap.size w' (.slice a1 X.length k1) X) ∧ Below W.heap.size W w' := fun vp vc vs W h1 h2 => by
    refine (implHeapMethods_any vp vc vs ms h W h1 h2 HSM.out.1).mono ?_
    rintro e w' ⟨v', rfl, ho, hb⟩
    rw [hX] at ho
    obtain ⟨a1, k1, hv1, _⟩ := ho.slice
    subst hv1
    exact ⟨⟨a1, k1, rfl, ho⟩, hb⟩
  rw [hX] at hxl
  clear hX
  go_upto_region 8 with fail
  refine wp_region_fs [[], [0], [], [0, 1, 2], [0, 1, 2, 3], [0, 1, 2, 3, 4]] [[0], [1], [2], [3], [4], [5, 4]] [[], [], [], [], [], []] [fIs (.agg #[.slice aS ms.length cap]), fGh 1 (fun (x : Value) l => l = [.agg #[x]]) (fun x w1 => MethsAt w1 x ms), fIs (.agg #[.slice ac h.calls.length kc, .int .i64 h.now, .int .i64 h.born, .slice aD h.said.length kD, .int .i64 h.code]), fGh 3 (fun (x : Nat × Nat) l => l = [.agg (hpCells (full x.1 h.calls.length) (full x.2 h.said.length) h)]) (fun x w1 => HeapAt w1 (full x.1 h.calls.length) (full x.2 h.said.length) h), fGh 4 (fun (x : Option Addr × Nat) l => l = [.slice x.1 X.length x.2]) (fun x w1 => IntRow 0 w1 (.slice x.1 X.length x.2) X), fOf fun l => l.getD 0 undef = l.getD 1 undef] 6 rfl (by kernel_rfl) (by kernel_rfl) ?_ ?_
  · refine all_lt_succ (all_lt_succ (all_lt_succ (all_lt_succ (all_lt_succ (all_lt_succ (all_lt_zero) ?_) ?_) ?_) ?_) ?_) ?_
    · intro a w val own hB hf hown hk
      have s2 := hf.at (d := 2) (v := .pointer (some ⟨wI.heap.size, 0, none⟩)) (by kernel_rfl) rfl
      have c0 := cell_below hB bx2
      exact rf_pure (v := .agg #[.slice aS ms.length cap]) hB rfl rfl (by unfold execOp; go_simp) rfl
    · intro a w val own hB hf hown hk
      obtain ⟨k0, f0⟩ := hk 0 (show 0 ∈ [0] by decide)
      have s24 := k0 24 rfl
      rw [fIs_out f0] at s24
      clear k0 f0
      exact rf_call hB rfl rfl (by unfold execOp; go_simp) ((toProg_any _ ms w (hm.below (B2.trans (hB.mono z2))) HN.out.1 HN.out.2).mono fun e w' ⟨v', he, hn, hb, _, _⟩ => ⟨_, he, hb, v', rfl, Made.new fun w1 _ _ hr => hn.kept hr⟩)
    · intro a w val own hB hf hown hk
      have s3 := hf.at (d := 3) (v := .pointer (some ⟨wI.heap.size + 1, 0, none⟩)) (by kernel_rfl) rfl
      obtain ⟨⟨c0, c1, c2, c3, c4⟩, _⟩ := five_cells (row_below hB bh2)
      exact rf_pure (v := .agg #[.slice ac h.calls.length kc, .int .i64 h.now, .int .i64 h.born, .slice aD h.said.length kD, .int .i64 h.code]) hB rfl rfl (by unfold execOp; go_simp) rfl
    · intro a w val own hB hf hown hk
      obtain ⟨k2, f2⟩ := hk 2 (show 2 ∈ [0, 1, 2] by decide)
      have s26 := k2 26 rfl
      rw [fIs_out f2] at s26
      clear k2 f2
      exact rf_call hB rfl rfl (by unfold execOp hpCells; go_simp) ((toHeap_any h (.slice ac h.calls.length kc) (.slice aD h.said.length kD) w (hh.below (B2.trans (hB.mono z2))) HSM.out).mono fun e w' ⟨g, s, G, he, hg, hN, hb, hnf⟩ => ⟨_, he, hb, (g, s), rfl, Made.new fun w1 hs _ hr => hN.kept hg hnf hlm hs hr⟩)
    · intro a w val own hB hf hown hk
      obtain ⟨k1, vp1, e1, m1⟩ := hk 1 (show 1 ∈ [0, 1, 2, 3] by decide)
      have v1 := one_eq e1
      have s25 := k1 25 rfl
      rw [v1] at s25
      clear k1 e1
      obtain ⟨k3, vh3, e3, m3⟩ := hk 3 (show 3 ∈ [0, 1, 2, 3] by decide)
      have v3 := one_eq e3
      have s27 := k3 27 rfl
      rw [v3] at s27
      clear k3 e3
      exact rf_call hB rfl rfl (by unfold execOp; go_simp) ((HSR vp1 _ _ w (m1.here hB) (m3.here hB)).mono fun e w' ⟨⟨a1, k1, he, ho⟩, hb⟩ => ⟨_, he, hb, (a1, k1), rfl, Made.new fun _ hs _ hr => (ho.kept hs fun q hq => hr q (ho.lt q hq).1 (ho.lt q hq).2).mono (Nat.zero_le _)⟩)
    · intro a w val own hB hf hown hk
      have s28 := (hk 4 (show 4 ∈ [0, 1, 2, 3, 4] by decide)).1 28 rfl
      exact rf_pure (v := val 4) hB rfl rfl (by unfold execOp; go_simp) rfl
  intro a w4 val own hB hf hown hk
  obtain ⟨k4, xh, e4, m4⟩ := hk 4 (by decide)
  have v4 := one_eq e4
  have s28 := k4 28 rfl
  rw [v4] at s28
  clear k4 e4
  obtain ⟨k5, f5⟩ := hk 5 (by decide)
  have v5 : val 5 = _ := Eq.trans f5 v4
  have s6 := k5 6 rfl
  rw [v5] at s6
  clear k5 f5
  have hh4 := m4.here hB
  clear m4
  have s2 := hf.at (d := 2) (v := .pointer (some ⟨wI.heap.size, 0, none⟩)) (by kernel_rfl) rfl
  have s3 := hf.at (d := 3) (v := .pointer (some ⟨wI.heap.size + 1, 0, none⟩)) (by kernel_rfl) rfl
  obtain ⟨u, hu0, hv⟩ := frame_any a.tmps (n := 92) hf.size
  have hu : a.tmps = (u 0 :: u 1 :: u 2 :: u 3 :: u 4 :: u 5 :: u 6 :: u 7 :: u 8 :: u 9 :: u 10 :: u 11 :: u 12 :: u 13 :: u 14 :: u 15 :: u 16 :: u 17 :: u 18 :: u 19 :: u 20 :: u 21 :: u 22 :: u 23 :: u 24 :: u 25 :: u 26 :: u 27 :: u 28 :: u 29 :: u 30 :: u 31 :: u 32 :: u 33 :: u 34 :: u 35 :: u 36 :: u 37 :: u 38 :: u 39 :: u 40 :: u 41 :: u 42 :: u 43 :: u 44 :: u 45 :: u 46 :: u 47 :: u 48 :: u 49 :: u 50 :: u 51 :: u 52 :: u 53 :: u 54 :: u 55 :: u 56 :: u 57 :: u 58 :: u 59 :: u 60 :: u 61 :: u 62 :: u 63 :: u 64 :: u 65 :: u 66 :: u 67 :: u 68 :: u 69 :: u 70 :: u 71 :: u 72 :: u 73 :: u 74 :: u 75 :: u 76 :: u 77 :: u 78 :: u 79 :: u 80 :: u 81 :: u 82 :: u 83 :: u 84 :: u 85 :: u 86 :: u 87 :: u 88 :: u 89 :: u 90 :: u 91 :: []).toArray := hu0
  rw [(hv 2).trans s2, (hv 3).trans s3, (hv 6).trans s6] at hu
  obtain rfl := act_eq hu (show a.defers = [] from hf.defers)
  clear hu hu0 hv hk hown hf s2 s3 s6
  obtain ⟨acW, kcW⟩ := xh
  dsimp only at hh4
  have B4 : Below wI.heap.size wI w4 := B2.trans (hB.mono z2)
  have bx4 := cell_below hB bx2
  have bh4 := row_below hB bh2
  clear bx2 bh2 B2 z2 hB
  have HH4 : Hid (IntRow 0 w4 (.slice acW X.length kcW) X) := hh4
  have HX4 : Hid (w4.cell? ⟨wI.heap.size, 0, none⟩ = some (.slice aS ms.length cap)) := bx4
  have HY4 : Hid (w4.rowIs (wI.heap.size + 1) 28 5 (five (.slice ac h.calls.length kc) (.int .i64 h.now) (.int .i64 h.born) (.slice aD h.said.length kD) (.int .i64 h.code))) := bh4
  have HB4 : Hid (Below wI.heap.size wI w4) := B4
  have z4 := B4.size
  clear hh4 bh4
  go_wp2_with fail
  refine (toProg_any _ ms _ (hm.below B4) HN.out.1 HN.out.2).mono ?_
  rintro e w5 ⟨v5, rfl, hm5, hb5, hnf5, hhi5⟩
  have HM5 : Hid (MethsNew w4.heap.size w5 v5 ms ∧ NF w4.heap.size w5 ∧ MethsHi w5 v5 ms) := ⟨hm5, hnf5, hhi5⟩
  obtain ⟨g5, l5, c5, hv5, _⟩ := hm5.own
  subst hv5
  have L5 := hb5
  have y5 := hb5.size
  clear hm5 hnf5 hhi5 hb5 B4 bx4
  go_upto_region 10 with fail
  have N5 := (Below.refl w5.heap.size w5).alloc (Nat.le_refl _) (.cells #[.slice (some ⟨g5, 0, none⟩) l5 c5] 39)
  have by6 : (w5.alloc (.cells #[.slice (some ⟨g5, 0, none⟩) l5 c5] 39)).cell? ⟨w5.heap.size, 0, none⟩ = some (.slice (some ⟨g5, 0, none⟩) l5 c5) := by simp [go_sem]
  generalize w5.alloc (.cells #[.slice (some ⟨g5, 0, none⟩) l5 c5] 39) = w6 at *
  have y6 : w5.heap.size < w6.heap.size := World.block_lt_of_cell? _ _ by6
  have L6 := L5.trans (N5.mono y5)
  obtain ⟨⟨x0, x1, x2, x3, x4⟩, xf⟩ := five_cells (row_below L6 HY4.out)
  clear xf
  go_wp2_with fail
  refine (toHeap_any h _ _ _ (hh.below (HB4.out.trans (L6.mono z4))) HSM.out).mono ?_
  rintro e w7 ⟨g7, s7, G7, rfl, hg7, hN7, hb7, hnf7⟩
  obtain ⟨V7, hx7⟩ : ∃ V, OwnHeap w6.heap.size w7 (full g7 h.calls.length) (full s7 h.said.length) h V := ⟨_, hN7.own hg7 hnf7 hlm⟩
  have by7 := cell_below hb7 by6
  have U7 := N5.trans (hb7.mono (Nat.le_of_lt y6))
  have y7 := hb7.size
  clear hN7 hb7 hnf7 hg7 by6 N5 L6 x0 x1 x2 x3 x4
  unfold hpCells full
  unfold full at hx7
  have HX7 : Hid (∀ g, HeapBlocks (.slice (some ⟨g7, 0, none⟩) h.calls.length h.calls.length) (.slice (some ⟨s7, 0, none⟩) h.said.length h.said.length) h.calls.length V7 g → w6.heap.size ≤ g ∧ g < w7.heap.size) := fun g hg => hx7.lt hg
  go_upto_region 11 with fail
  have N7 := (Below.refl w7.heap.size w7).alloc (Nat.le_refl _) (.cells #[.slice (some ⟨g7, 0, none⟩) h.calls.length h.calls.length, .int .i64 h.now, .int .i64 h.born, .slice (some ⟨s7, 0, none⟩) h.said.length h.said.length, .int .i64 h.code] 34)
  have yr8 := five_new w7 34 (.slice (some ⟨g7, 0, none⟩) h.calls.length h.calls.length) (.int .i64 h.now) (.int .i64 h.born) (.slice (some ⟨s7, 0, none⟩) h.said.length h.said.length) (.int .i64 h.code)
  have by8 := cell_below N7 by7
  have hx8 := hx7.below N7
  have U8 := U7.trans (N7.mono (by omega))
  generalize w7.alloc (.cells #[.slice (some ⟨g7, 0, none⟩) h.calls.length h.calls.length, .int .i64 h.now, .int .i64 h.born, .slice (some ⟨s7, 0, none⟩) h.said.length h.said.length, .int .i64 h.code] 34) = w8 at *
  have y8 := yr8.lt
  have L8 := L5.trans (U8.mono y5)
  clear N7 by7 hx7 U7
  obtain ⟨⟨x0, x1, x2, x3, x4⟩, xf⟩ := five_cells yr8
  clear xf
  have HC := HIR _ _ _ w8 (HM5.out.1.at.below U8) hx8.at
  unfold hpCells at HC
  go_wp2_with fail
  refine HC.mono ?_
  rintro e w9 ⟨⟨a9, k9, rfl, ho9⟩, hb9⟩
  have by9 := cell_below hb9 by8
  have hx9 := hx8.below hb9
  have yr9 := row_below hb9 yr8
  have U9 := U8.trans (hb9.mono (by omega))
  have y9 := hb9.size
  have HLT : Hid (∀ g, (Value.slice a9 X.length k9).ownBlock = some g → w8.heap.size ≤ g ∧ g < w9.heap.size) := fun g hg => ho9.lt g hg
  clear HC x0 x1 x2 x3 x4 hb9 by8 hx8 yr8 U8 L8
  have byA := by9
  have hoA := ho9
  have hxA := hx9
  have yrA := yr9
  have UA := U9
  have yA : w8.heap.size ≤ w9.heap.size := y9
  clear by9 ho9 hx9 yr9 U9
  have LA : Below w4.heap.size w4 w9 := L5.trans (UA.mono y5)
  go_wp2_with fail
  refine (eqIntS_same _ _ _ _ X _ hoA (HH4.out.below LA)).mono ?_
  rintro e wB ⟨rfl, hbB⟩
  have LB := LA.trans (hbB.mono (by omega))
  have BB := HB4.out.trans (LB.mono z4)
  have UB := UA.trans (hbB.mono (by omega))
  have byB := cell_below hbB byA
  have bxB : wB.cell? ⟨wI.heap.size, 0, none⟩ = some (.slice aS ms.length cap) := cell_below LB HX4.out
  have hMBd : MethsAt wB.drew _ ms := (HM5.out.1.at.below UB).below (Below.refl _ _).drew
  have hmBd : MethsAt wB.drew _ ms := (hm.below BB).below (Below.refl _ _).drew
  have bxBd : wB.drew.cell? ⟨wI.heap.size, 0, none⟩ = some (.slice aS ms.length cap) := bxB
  have byBd : wB.drew.cell? ⟨w5.heap.size, 0, none⟩ = some (.slice (some ⟨g5, 0, none⟩) l5 c5) := byB
  go_wp2_with fail
  go_region_held3 (fun w' => w'.cell? ⟨wI.heap.size, 0, none⟩ = some (.slice aS ms.length cap) ∧ w'.cell? ⟨w5.heap.size, 0, none⟩ = some (.slice (some ⟨g5, 0, none⟩) l5 c5))
    (first | exact ⟨bxQ, byQ⟩ | exact ⟨bxP, byP⟩ | go_keep)
    ((first
      | (have hx := hbP; clear hx; go_at_call 13; refine (eqProg_same _ _ ms _ (hMBd.below hbP) hmP.at).mono ?_; rintro e wQ ⟨rfl, hbQ⟩; have bxQ := cell_below hbQ bxP; have byQ := cell_below hbQ byP)
      | (go_at_call 9; refine (toProg_any _ ms _ hmBd HN.out.1 HN.out.2).mono ?_; rintro e wP ⟨vP, rfl, hmP, hbP, hnfP, hhiP⟩; have bxP := cell_below hbP bxBd; have byP := cell_below hbP byBd)))
  have hzP := hbP.size
  have yBd : wB.drew.heap.size = wB.heap.size := rfl
  have KQ : Below w9.heap.size w9 wQ := hbB.drew.trans ((hbP.trans (hbQ.mono hzP)).mono (by have := hbB.size; omega))
  clear hzP hbP hbQ hnfP hhiP hmP hMBd hmBd bxBd byBd bxP byP bxQ byQ yBd bxB byB LB BB UB hbB
  have LQ := LA.trans (KQ.mono (by omega))
  have BQ := HB4.out.trans (LQ.mono z4)
  have hxQd : HeapAt wQ.drew _ _ h := (hxA.at.below KQ).below (Below.refl _ _).drew
  have hhQd : HeapAt wQ.drew _ _ h := (hh.below BQ).below (Below.refl _ _).drew
  have yrQd : wQ.drew.rowIs w7.heap.size 34 5 (five (.slice (some ⟨g7, 0, none⟩) h.calls.length h.calls.length) (.int .i64 h.now) (.int .i64 h.born) (.slice (some ⟨s7, 0, none⟩) h.said.length h.said.length) (.int .i64 h.code)) := row_below KQ yrA
  have bhQd : wQ.drew.rowIs (wI.heap.size + 1) 28 5 (five (.slice ac h.calls.length kc) (.int .i64 h.now) (.int .i64 h.born) (.slice aD h.said.length kD) (.int .i64 h.code)) := row_below LQ HY4.out
  obtain ⟨⟨x0, x1, x2, x3, x4⟩, xf⟩ := five_cells bhQd
  obtain ⟨⟨t0, t1, t2, t3, t4⟩, yf⟩ := five_cells yrQd
  clear xf yf
  go_wp2_with fail
  go_region_held3 (fun w' => (w'.cell? ⟨wI.heap.size + 1, 0, none⟩ = some (.slice ac h.calls.length kc) ∧ w'.cell? ⟨wI.heap.size + 1, 1, none⟩ = some (.int .i64 h.now) ∧ w'.cell? ⟨wI.heap.size + 1, 2, none⟩ = some (.int .i64 h.born) ∧ w'.cell? ⟨wI.heap.size + 1, 3, none⟩ = some (.slice aD h.said.length kD) ∧ w'.cell? ⟨wI.heap.size + 1, 4, none⟩ = some (.int .i64 h.code)) ∧ (w'.cell? ⟨w7.heap.size, 0, none⟩ = some (.slice (some ⟨g7, 0, none⟩) h.calls.length h.calls.length) ∧ w'.cell? ⟨w7.heap.size, 1, none⟩ = some (.int .i64 h.now) ∧ w'.cell? ⟨w7.heap.size, 2, none⟩ = some (.int .i64 h.born) ∧ w'.cell? ⟨w7.heap.size, 3, none⟩ = some (.slice (some ⟨s7, 0, none⟩) h.said.length h.said.length) ∧ w'.cell? ⟨w7.heap.size, 4, none⟩ = some (.int .i64 h.code)))
    (first | exact ⟨XE.out, YE.out⟩ | exact ⟨XD.out, YD.out⟩ | go_keep)
    ((first
      | (have hq := hbD; clear hq; go_at_call 12; refine (eqHeap_same h _ _ _ _ _ (hxQd.below hbD) HD).mono ?_; rintro e wE ⟨rfl, hbE⟩; have XE : Hid _ := (five_cells (row_below hbE xD)).1; have YE : Hid _ := (five_cells (row_below hbE yD)).1)
      | (go_at_call 10; refine (toHeap_any h _ _ _ hhQd HSM.out).mono ?_; rintro e wD ⟨gD, sD, GD, rfl, hgD, hND, hbD, hnfD⟩; have HD := hND.at hlm; have xD := row_below hbD bhQd; have yD := row_below hbD yrQd; have XD : Hid _ := (five_cells xD).1; have YD : Hid _ := (five_cells yD).1)))
  have hzD := hbD.size
  have yQd : wQ.drew.heap.size = wQ.heap.size := rfl
  have KE : Below w9.heap.size w9 wE := KQ.drew.trans ((hbD.trans (hbE.mono hzD)).mono (by have := KQ.size; omega))
  clear hzD yQd hbD hbE hnfD hgD hND HD xD yD XD YD XE YE hxQd hhQd yrQd bhQd x0 x1 x2 x3 x4 t0 t1 t2 t3 t4 KQ LQ BQ
  have UE := UA.trans (KE.mono (by omega))
  have byE := cell_below KE byA
  have hoE := hoA.below KE
  have hxE := hxA.below KE
  have yrE := row_below KE yrA
  have LE := LA.trans (KE.mono (by omega))
  have yE := KE.size
  clear KE UA byA hoA hxA yrA LA
  go_wp2_with fail
  refine (markProg_any w4.heap.size _ ms w5 _ HM5.out.1 HM5.out.2.1 HM5.out.2.2 UE HN.out.1 HN.out.2).mono ?_
  rintro e wF ⟨hmid, K, rfl, hK0, hK1⟩
  have yF := hmid.size
  have LF : Below w4.heap.size w4 wF := hmid.belowX LE (Nat.le_refl _) (Nat.le_refl _)
  have yrF := yrE.of_block (hmid.block w7.heap.size yrE.lt (.inr (by omega)))
  have hoF : IntRow w8.heap.size wF (.slice a9 X.length k9) X := hoE.kept hmid.size fun g hg => hmid.block g (hoE.lt g hg).2 (.inr (by have := (HLT.out g hg).1; omega))
  have hxF : OwnHeap w6.heap.size wF _ _ h V7 := hxE.kept hmid.size fun g hg => hmid.block g (hxE.lt hg).2 (.inr (by have := (HX7.out g hg).1; omega))
  clear hmid yrE hoE hxE UE byE LE
  obtain ⟨⟨x0, x1, x2, x3, x4⟩, xf⟩ := five_cells yrF
  clear xf
  go_wp2_with fail
  refine (markHeap_any w6.heap.size _ _ h V7 K _ hxF HSM.out.fits hK0 (by omega)).mono ?_
  rintro e wG ⟨rfl, hxG, hwG⟩
  have yG := hwG.size
  have LG : Below w4.heap.size w4 wG := hwG.below LF (Nat.le_refl _) (fun g hg => by have := (HX7.out g hg).1; omega)
  have hoG : IntRow w8.heap.size wG (.slice a9 X.length k9) X := hoF.kept hwG.size fun g hg => hwG.block g (hoF.lt g hg).2 (fun hg2 => by have := (HX7.out _ hg2).2; have := (HLT.out g hg).1; omega)
  clear hwG hxG hxF yrF hoF LF x0 x1 x2 x3 x4
  have hKe : 0 ≤ endH K h := by
    have := (kAt_le K h.calls HSM.out.2.1 h.calls.length (Nat.le_refl _)).1
    unfold endH
    omega
  have hKn : ¬ endH K h < 0 := by omega
  go_wp2_with fail
  refine (eqIntS_same _ _ _ _ X _ hoG (HH4.out.below LG)).mono ?_
  rintro e wS ⟨rfl, hbS⟩
  have LS := LG.trans (hbS.mono (by omega))
  have hoS := hoG.below hbS
  have yS := hbS.size
  clear hbS hoG LG
  go_wp2_with fail
  refine (markIntS_any w8.heap.size _ X _ hoS hxl).mono ?_
  rintro e wT ⟨rfl, hoT, hgT⟩
  have LT : Below w4.heap.size w4 wT := LS.grown hgT (by have := LS.size; omega) (fun q e => by have := (HLT.out q e).1; omega)
  have yT := hgT.size
  clear hgT LS hoS
  have hE0 : ¬ (1 + (X.length : Int)) < 0 := by omega
  go_wp2_with fail
  refine (heldIntS_any w8.heap.size _ X.length _ hoT hxl).mono ?_
  rintro e wU ⟨rfl, hwU⟩
  obtain rfl := hwU.symm
  have BU : Below wI.heap.size wI wT := HB4.out.trans (LT.mono z4)
  have zU := BU.size
  have bxU := cell_below LT HX4.out
  have bhU := row_below LT HY4.out
  go_upto_region 31 with fail
  refine wp_region_fs [[], [0], [], [0, 1, 2], [0, 1, 2, 3], [0, 1, 2, 3, 4]] [[0], [1], [2], [3], [4], [5, 4]] [[], [], [], [], [], []] [fIs (.agg #[.slice aS ms.length cap]), fGh 1 (fun (x : Value) l => l = [.agg #[x]]) (fun x w1 => MethsAt w1 x ms), fIs (.agg #[.slice ac h.calls.length kc, .int .i64 h.now, .int .i64 h.born, .slice aD h.said.length kD, .int .i64 h.code]), fGh 3 (fun (x : Nat × Nat) l => l = [.agg (hpCells (full x.1 h.calls.length) (full x.2 h.said.length) h)]) (fun x w1 => HeapAt w1 (full x.1 h.calls.length) (full x.2 h.said.length) h), fGh 4 (fun (x : Option Addr × Nat) l => l = [.slice x.1 X.length x.2]) (fun x w1 => IntRow 0 w1 (.slice x.1 X.length x.2) X), fOf fun l => l.getD 0 undef = l.getD 1 undef] 6 rfl (by kernel_rfl) (by kernel_rfl) ?_ ?_
  · refine all_lt_succ (all_lt_succ (all_lt_succ (all_lt_succ (all_lt_succ (all_lt_succ (all_lt_zero) ?_) ?_) ?_) ?_) ?_) ?_
    · intro a w val own hB hf hown hk
      have s2 := hf.at (d := 2) (v := .pointer (some ⟨wI.heap.size, 0, none⟩)) (by kernel_rfl) rfl
      have c0 := cell_below hB bxU
      exact rf_pure (v := .agg #[.slice aS ms.length cap]) hB rfl rfl (by unfold execOp; go_simp) rfl
    · intro a w val own hB hf hown hk
      obtain ⟨k0, f0⟩ := hk 0 (show 0 ∈ [0] by decide)
      have s75 := k0 75 rfl
      rw [fIs_out f0] at s75
      clear k0 f0
      exact rf_call hB rfl rfl (by unfold execOp; go_simp) ((toProg_any _ ms w (hm.below (BU.trans (hB.mono zU))) HN.out.1 HN.out.2).mono fun e w' ⟨v', he, hn, hb, _, _⟩ => ⟨_, he, hb, v', rfl, Made.new fun w1 _ _ hr => hn.kept hr⟩)
    · intro a w val own hB hf hown hk
      have s3 := hf.at (d := 3) (v := .pointer (some ⟨wI.heap.size + 1, 0, none⟩)) (by kernel_rfl) rfl
      obtain ⟨⟨c0, c1, c2, c3, c4⟩, _⟩ := five_cells (row_below hB bhU)
      exact rf_pure (v := .agg #[.slice ac h.calls.length kc, .int .i64 h.now, .int .i64 h.born, .slice aD h.said.length kD, .int .i64 h.code]) hB rfl rfl (by unfold execOp; go_simp) rfl
    · intro a w val own hB hf hown hk
      obtain ⟨k2, f2⟩ := hk 2 (show 2 ∈ [0, 1, 2] by decide)
      have s77 := k2 77 rfl
      rw [fIs_out f2] at s77
      clear k2 f2
      exact rf_call hB rfl rfl (by unfold execOp hpCells; go_simp) ((toHeap_any h (.slice ac h.calls.length kc) (.slice aD h.said.length kD) w (hh.below (BU.trans (hB.mono zU))) HSM.out).mono fun e w' ⟨g, s, G, he, hg, hN, hb, hnf⟩ => ⟨_, he, hb, (g, s), rfl, Made.new fun w1 hs _ hr => hN.kept hg hnf hlm hs hr⟩)
    · intro a w val own hB hf hown hk
      obtain ⟨k1, vp1, e1, m1⟩ := hk 1 (show 1 ∈ [0, 1, 2, 3] by decide)
      have v1 := one_eq e1
      have s76 := k1 76 rfl
      rw [v1] at s76
      clear k1 e1
      obtain ⟨k3, vh3, e3, m3⟩ := hk 3 (show 3 ∈ [0, 1, 2, 3] by decide)
      have v3 := one_eq e3
      have s78 := k3 78 rfl
      rw [v3] at s78
      clear k3 e3
      exact rf_call hB rfl rfl (by unfold execOp; go_simp) ((HIR vp1 _ _ w (m1.here hB) (m3.here hB)).mono fun e w' ⟨⟨a1, k1, he, ho⟩, hb⟩ => ⟨_, he, hb, (a1, k1), rfl, Made.new fun _ hs _ hr => (ho.kept hs fun q hq => hr q (ho.lt q hq).1 (ho.lt q hq).2).mono (Nat.zero_le _)⟩)
    · intro a w val own hB hf hown hk
      have s79 := (hk 4 (show 4 ∈ [0, 1, 2, 3, 4] by decide)).1 79 rfl
      exact rf_pure (v := val 4) hB rfl rfl (by unfold execOp; go_simp) rfl
  intro a wY val own hB hf hown hk
  obtain ⟨k4, xh, e4, m4⟩ := hk 4 (by decide)
  have v4 := one_eq e4
  have s79 := k4 79 rfl
  rw [v4] at s79
  clear k4 e4
  obtain ⟨k5, f5⟩ := hk 5 (by decide)
  have v5 : val 5 = _ := Eq.trans f5 v4
  have s13 := k5 13 rfl
  rw [v5] at s13
  clear k5 f5
  have hhY := m4.here hB
  clear m4
  have s2 := hf.at (d := 2) (v := .pointer (some ⟨wI.heap.size, 0, none⟩)) (by kernel_rfl) rfl
  have s3 := hf.at (d := 3) (v := .pointer (some ⟨wI.heap.size + 1, 0, none⟩)) (by kernel_rfl) rfl
  have s6 := hf.at (d := 6) (v := .slice acW X.length kcW) (by kernel_rfl) rfl
  have s9 := hf.at (d := 9) (v := .slice a9 X.length k9) (by kernel_rfl) rfl
  have s11 := hf.at (d := 11) (v := .int .i64 (1 + (X.length : Int))) (by kernel_rfl) rfl
  obtain ⟨u', hu0, hv⟩ := frame_any a.tmps (n := 92) hf.size
  have hu : a.tmps = (u' 0 :: u' 1 :: u' 2 :: u' 3 :: u' 4 :: u' 5 :: u' 6 :: u' 7 :: u' 8 :: u' 9 :: u' 10 :: u' 11 :: u' 12 :: u' 13 :: u' 14 :: u' 15 :: u' 16 :: u' 17 :: u' 18 :: u' 19 :: u' 20 :: u' 21 :: u' 22 :: u' 23 :: u' 24 :: u' 25 :: u' 26 :: u' 27 :: u' 28 :: u' 29 :: u' 30 :: u' 31 :: u' 32 :: u' 33 :: u' 34 :: u' 35 :: u' 36 :: u' 37 :: u' 38 :: u' 39 :: u' 40 :: u' 41 :: u' 42 :: u' 43 :: u' 44 :: u' 45 :: u' 46 :: u' 47 :: u' 48 :: u' 49 :: u' 50 :: u' 51 :: u' 52 :: u' 53 :: u' 54 :: u' 55 :: u' 56 :: u' 57 :: u' 58 :: u' 59 :: u' 60 :: u' 61 :: u' 62 :: u' 63 :: u' 64 :: u' 65 :: u' 66 :: u' 67 :: u' 68 :: u' 69 :: u' 70 :: u' 71 :: u' 72 :: u' 73 :: u' 74 :: u' 75 :: u' 76 :: u' 77 :: u' 78 :: u' 79 :: u' 80 :: u' 81 :: u' 82 :: u' 83 :: u' 84 :: u' 85 :: u' 86 :: u' 87 :: u' 88 :: u' 89 :: u' 90 :: u' 91 :: []).toArray := hu0
  rw [(hv 2).trans s2, (hv 3).trans s3, (hv 6).trans s6, (hv 9).trans s9, (hv 11).trans s11, (hv 13).trans s13] at hu
  obtain rfl := act_eq hu (show a.defers = [] from hf.defers)
  clear hu hu0 hv hk hown hf s2 s3 s6 s9 s11 s13
  obtain ⟨acY, kcY⟩ := xh
  dsimp only at hhY
  have LY := LT.trans (hB.mono (by omega))
  have hogY := hoT.below hB
  have yY := hB.size
  clear LT hoT BU bxU bhU hB
  go_wp2_with fail
  refine (eqIntS_same _ _ _ _ X _ hhY (HH4.out.below LY)).mono ?_
  rintro e wZ ⟨rfl, hbZ⟩
  have LZ := LY.trans (hbZ.mono (by omega))
  have hogZ := hogY.below hbZ
  clear hbZ LY hogY hhY
  go_wp2_with fail
  refine (heldIntS_any w8.heap.size _ X.length _ hogZ hxl).mono ?_
  rintro e wL ⟨rfl, hwL⟩
  obtain rfl := hwL.symm
  have BL : Below wI.heap.size wI wZ := HB4.out.trans (LZ.mono z4)
  clear LZ hogZ
  go_wp2
  go_ret
  exact ⟨rfl, BL⟩

end Go.Proofs.Ytnffknlgaiehdaa
