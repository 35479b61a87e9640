/-
  The law FnExactHeapOk, walked: whatever methods and calls lie behind its arguments, it answers true and writes to nothing that was there.
-/
import Derived.Test.YtolonocebclocaaCopy2
import Derived.Test.YtolonocebclocaaSize
import Derived.Test.YtolonocebclocaaSame
import Derived.Test.YtolonocebclocaaHSize
import Derived.Test.YtolonocebclocaaHSame
import Derived.Test.YtolonocebclocaaHHeapOk
import Derived.Test.YtolonocebclocaaHImpl6
namespace Go.Proofs.Ytolonocebclocaa
open Go.RowKit

set_option maxRecDepth 100000 in
set_option maxHeartbeats 4000000 in
theorem law_any (v vc vs : Value) (ms : List (Int × Int × List (Int × Int))) (h : Hp) (w : World) (hm : MethsAt w v ms) (hh : HeapAt w vc vs h) :
    Calls Try.prog 3 #[.agg #[v], .agg (hpCells vc vs h)] w fun e w' => e = .returned (.bool true) ∧ Below w.heap.size w w' := by
  obtain ⟨a, cap, hv, hvx⟩ := id hm
  clear hvx
  obtain ⟨ac, kc, hvc⟩ := hh.c.shape
  obtain ⟨aD, kD, hvs⟩ := hh.s.shape
  subst hv hvc hvs
  unfold hpCells
  have hA : Below w.heap.size w ((w.alloc (.cells #[.slice a ms.length cap] 24)).alloc (.cells #[.slice ac h.calls.length kc, .int .i64 h.now, .int .i64 h.born, .slice aD h.said.length kD, .int .i64 h.code] 28)) := ((Below.refl _ _).alloc (Nat.le_refl _) _).alloc (by simp) _
  have bx : ((w.alloc (.cells #[.slice a ms.length cap] 24)).alloc (.cells #[.slice ac h.calls.length kc, .int .i64 h.now, .int .i64 h.born, .slice aD h.said.length kD, .int .i64 h.code] 28)).cell? ⟨w.heap.size, 0, none⟩ = some (.slice a ms.length cap) := by simp [go_sem]
  have bh := five_new (w.alloc (.cells #[.slice a ms.length cap] 24)) 28 (.slice ac h.calls.length kc) (.int .i64 h.now) (.int .i64 h.born) (.slice aD h.said.length kD) (.int .i64 h.code)
  simp only [World.size_alloc] at bh
  go_enter Try.func3, Try.ntmps3
  go_wp2_with fail
  generalize (w.alloc (.cells #[.slice a ms.length cap] 24)).alloc (.cells #[.slice ac h.calls.length kc, .int .i64 h.now, .int .i64 h.born, .slice aD h.said.length kD, .int .i64 h.code] 28) = W0 at *
  have z0 := hA.size
  refine (szProg_any _ ms _ _ (hm.below hA) (by omega) (by omega)).mono ?_
  rintro e w1 ⟨r, rfl, hr1, hr0, hb1⟩
  have B1 : Below w.heap.size w w1 := hA.trans (hb1.mono z0)
  have bx1 := cell_below hb1 bx
  have bh1 := row_below hb1 bh
  have HR : Hid (0 ≤ r → ms.length ≤ 1048576 ∧ ∀ i, (hi : i < ms.length) → ms[i].2.2.length ≤ 1048576) := hr0
  clear hr0 hb1 bx bh hA z0
  by_cases hr : r < 0
  · go_wp2
    go_ret
    exact ⟨rfl, B1⟩
  have hr' : 0 ≤ r := by omega
  have HN : Hid (ms.length ≤ 1048576 ∧ ∀ i, (hi : i < ms.length) → ms[i].2.2.length ≤ 1048576) := HR.out hr'
  clear HR
  have z1 := B1.size
  obtain ⟨⟨x0, x1, x2, x3, x4⟩, xf⟩ := five_cells bh1
  clear xf
  go_wp2_with fail
  refine (szHeap_any h _ _ _ _ (hh.below B1) hr' hr1).mono ?_
  rintro e w2 ⟨r2, rfl, hq1, hq0, hb2⟩
  have B2 : Below w.heap.size w w2 := B1.trans (hb2.mono z1)
  have bx2 := cell_below hb2 bx1
  have bh2 := row_below hb2 bh1
  have HS0 : Hid (0 ≤ r2 → h.small) := hq0
  clear hq0 hb2 bx1 bh1 B1 z1 x0 x1 x2 x3 x4
  by_cases hq : r2 < 0
  · go_wp2
    go_ret
    exact ⟨rfl, B2⟩
  have hq' : 0 ≤ r2 := by omega
  have HSM : Hid h.small := HS0.out hq'
  clear HS0
  have z2 := B2.size
  have B2d : Below w.heap.size w w2.drew := B2.drew
  have z2d := B2d.size
  have C2 : Hid (w2.cell? ⟨w.heap.size, 0, none⟩ = some (.slice a ms.length cap) ∧ w2.cell? ⟨w.heap.size + 1, 0, none⟩ = some (.slice ac h.calls.length kc) ∧ w2.cell? ⟨w.heap.size + 1, 1, none⟩ = some (.int .i64 h.now) ∧ w2.cell? ⟨w.heap.size + 1, 2, none⟩ = some (.int .i64 h.born) ∧ w2.cell? ⟨w.heap.size + 1, 3, none⟩ = some (.slice aD h.said.length kD) ∧ w2.cell? ⟨w.heap.size + 1, 4, none⟩ = some (.int .i64 h.code)) := ⟨bx2, (five_cells bh2).1⟩
  have bh2d : w2.drew.rowIs (w.heap.size + 1) 28 5 (five (.slice ac h.calls.length kc) (.int .i64 h.now) (.int .i64 h.born) (.slice aD h.said.length kD) (.int .i64 h.code)) := bh2
  have M2 := hm.below B2d
  have H2 := hh.below B2d
  obtain ⟨⟨x0, x1, x2, x3, x4⟩, xf⟩ := five_cells bh2
  clear xf
  go_wp2_with fail
  go_region_held3 (fun w' => w'.cell? ⟨w.heap.size, 0, none⟩ = some (.slice a ms.length cap) ∧ w'.cell? ⟨w.heap.size + 1, 0, none⟩ = some (.slice ac h.calls.length kc) ∧ w'.cell? ⟨w.heap.size + 1, 1, none⟩ = some (.int .i64 h.now) ∧ w'.cell? ⟨w.heap.size + 1, 2, none⟩ = some (.int .i64 h.born) ∧ w'.cell? ⟨w.heap.size + 1, 3, none⟩ = some (.slice aD h.said.length kD) ∧ w'.cell? ⟨w.heap.size + 1, 4, none⟩ = some (.int .i64 h.code))
    (first | exact ⟨bx5, C5.out⟩ | exact ⟨bx4, C4.out⟩ | exact ⟨bx3, C3.out⟩ | go_keep)
    ((first
      | (have hh := hb4; clear hh; go_at_call 8; refine (specHeapOk_any _ _ _ ms h _ M4 H4 HSM.out.1).mono ?_; rintro e w5 ⟨rfl, hb5⟩; have bx5 := cell_below hb5 bx4; have bh5 := row_below hb5 bh4; have C5 : Hid _ := (five_cells bh5).1)
      | (have hh := hb3; clear hh; go_at_call 10; refine (toHeap_any h _ _ _ (H2.below hb3) HSM.out).mono ?_; rintro e w4 ⟨g4, s4, G4, rfl, hg4, hN4, hb4, hnf4⟩; have hl4 : h.calls.length ≤ maxLen := by { have := HSM.out.1; unfold maxLen; omega }; have H4 := hN4.at hl4; have M4 := hm3.at.below hb4; have bx4 := cell_below hb4 bx3; have bh4 := row_below hb4 bh3; have C4 : Hid _ := (five_cells bh4).1)
      | (go_at_call 9; refine (toProg_any _ ms _ M2 HN.out.1 HN.out.2).mono ?_; rintro e w3 ⟨v3, rfl, hm3, hb3, hnf3, hhi3⟩; have bx3 := cell_below hb3 (show w2.drew.cell? ⟨w.heap.size, 0, none⟩ = some (.slice a ms.length cap) from bx2); have bh3 := row_below hb3 bh2d; have C3 : Hid _ := (five_cells bh3).1)))
  have hz3 := hb3.size
  have hz4 := hb4.size
  have B5 : Below w.heap.size w w5 := B2d.trans ((hb3.mono z2d).trans ((hb4.mono (by omega)).trans (hb5.mono (by omega))))
  clear hz3 hz4 hb3 hb4 hb5 hnf3 hhi3 hnf4 hl4 H4 M4 bx4 bh4 C4 bx3 bh3 C3 hm3 hN4 hg4 C5 M2 H2 x0 x1 x2 x3 x4 bh2d C2 z2d B2d bh2 bx2 B2 z2
  have z5 := B5.size
  obtain ⟨⟨x0, x1, x2, x3, x4⟩, xf⟩ := five_cells bh5
  clear xf
  go_wp2_with fail
  refine (toProg_any _ ms _ (hm.below B5) HN.out.1 HN.out.2).mono ?_
  rintro e w6 ⟨v6, rfl, hm6, hb6, hnf6, hhi6⟩
  have M6 := hm6.at
  obtain ⟨g6, l6, c6, hv6, hg6⟩ := hm6.own
  rw [hv6] at M6 ⊢
  have B6 : Below w.heap.size w w6 := B5.trans (hb6.mono z5)
  have bx6 := cell_below hb6 bx5
  have bh6 := row_below hb6 bh5
  have z6 := B6.size
  clear hm6 hb6 hnf6 hhi6 hv6 bx5 bh5 B5 x0 x1 x2 x3 x4
  obtain ⟨⟨x0, x1, x2, x3, x4⟩, xf⟩ := five_cells bh6
  clear xf
  go_upto_region 10 with fail
  have N6 := (Below.refl w6.heap.size w6).alloc (Nat.le_refl _) (.cells #[.slice (some ⟨g6, 0, none⟩) l6 c6] 34)
  have bx7 := cell_below N6 bx6
  have bh7 := row_below N6 bh6
  have M7 := M6.below N6
  have B7 := B6.trans (N6.mono z6)
  have p7 : (w6.alloc (.cells #[.slice (some ⟨g6, 0, none⟩) l6 c6] 34)).cell? ⟨w6.heap.size, 0, none⟩ = some (.slice (some ⟨g6, 0, none⟩) l6 c6) := by simp [go_sem]
  generalize w6.alloc (.cells #[.slice (some ⟨g6, 0, none⟩) l6 c6] 34) = w7 at *
  clear bx6 bh6 M6 B6 N6 x0 x1 x2 x3 x4
  have z7 := B7.size
  obtain ⟨⟨x0, x1, x2, x3, x4⟩, xf⟩ := five_cells bh7
  clear xf
  go_wp2_with fail
  refine (toHeap_any h _ _ _ (hh.below B7) HSM.out).mono ?_
  rintro e w8 ⟨g8, s8, G8, rfl, hg8, hN8, hb8, hnf8⟩
  have hl8 : h.calls.length ≤ maxLen := by { have := HSM.out.1; unfold maxLen; omega }
  have H8 := hN8.at hl8
  have M8 := M7.below hb8
  have bx8 := cell_below hb8 bx7
  have bh8 := row_below hb8 bh7
  have p8 := cell_below hb8 p7
  have B8 := B7.trans (hb8.mono z7)
  have z8 := B8.size
  clear hN8 hb8 hnf8 hl8 M7 bx7 bh7 p7 B7 x0 x1 x2 x3 x4 hg8 hg6 z7 z6 z5
  unfold hpCells full
  unfold full at H8
  go_upto_region 11 with fail
  have N8 := (Below.refl w8.heap.size w8).alloc (Nat.le_refl _) (.cells #[.slice (some ⟨g8, 0, none⟩) h.calls.length h.calls.length, .int .i64 h.now, .int .i64 h.born, .slice (some ⟨s8, 0, none⟩) h.said.length h.said.length, .int .i64 h.code] 39)
  have y9 := five_new w8 39 (.slice (some ⟨g8, 0, none⟩) h.calls.length h.calls.length) (.int .i64 h.now) (.int .i64 h.born) (.slice (some ⟨s8, 0, none⟩) h.said.length h.said.length) (.int .i64 h.code)
  have bx9 := cell_below N8 bx8
  have bh9 := row_below N8 bh8
  have p9 := cell_below N8 p8
  have M9 := M8.below N8
  have H9 := H8.below N8
  have B9 := B8.trans (N8.mono z8)
  generalize w8.alloc (.cells #[.slice (some ⟨g8, 0, none⟩) h.calls.length h.calls.length, .int .i64 h.now, .int .i64 h.born, .slice (some ⟨s8, 0, none⟩) h.said.length h.said.length, .int .i64 h.code] 39) = w9 at *
  clear bx8 bh8 p8 M8 H8 B8 N8
  have z9 := B9.size
  obtain ⟨⟨y0, y1, y2, y3, y4⟩, yf⟩ := five_cells y9
  clear yf
  go_wp2_with fail
  refine (implHeapOk_any _ _ _ ms h _ M9 H9 HSM.out.1).mono ?_
  rintro e wA ⟨rfl, hbA⟩
  have bxA := cell_below hbA bx9
  have bhA := row_below hbA bh9
  have pA := cell_below hbA p9
  have yA := row_below hbA y9
  have MA := M9.below hbA
  have HA := H9.below hbA
  have BA := B9.trans (hbA.mono z9)
  have zA := BA.size
  clear hbA bx9 bh9 p9 y9 M9 H9 B9 z9 y0 y1 y2 y3 y4
  go_upto_region 14 with fail
  have MAd : MethsAt wA.drew _ ms := MA.below (Below.refl _ _).drew
  have mAd : MethsAt wA.drew _ ms := (hm.below BA).below (Below.refl _ _).drew
  have bxAd : wA.drew.cell? ⟨w.heap.size, 0, none⟩ = some (.slice a ms.length cap) := bxA
  have pAd : wA.drew.cell? ⟨w6.heap.size, 0, none⟩ = some (.slice (some ⟨g6, 0, none⟩) l6 c6) := pA
  go_wp2_with fail
  go_region_held3 (fun w' => w'.cell? ⟨w.heap.size, 0, none⟩ = some (.slice a ms.length cap) ∧ w'.cell? ⟨w6.heap.size, 0, none⟩ = some (.slice (some ⟨g6, 0, none⟩) l6 c6))
    (first | exact ⟨bxC, pC⟩ | exact ⟨bxB, pB⟩ | go_keep)
    ((first
      | (have hh := hbB; clear hh; go_at_call 12; refine (eqProg_same _ _ ms _ (MAd.below hbB) hmB.at).mono ?_; rintro e wC ⟨rfl, hbC⟩; have bxC := cell_below hbC bxB; have pC := cell_below hbC pB)
      | (go_at_call 9; refine (toProg_any _ ms _ mAd HN.out.1 HN.out.2).mono ?_; rintro e wB ⟨vB, rfl, hmB, hbB, hnfB, hhiB⟩; have bxB := cell_below hbB bxAd; have pB := cell_below hbB pAd)))
  have hzB := hbB.size
  have zAd : w.heap.size ≤ wA.drew.heap.size := zA
  have bAC : Below wA.drew.heap.size wA.drew wC := hbB.trans (hbC.mono hzB)
  have BC : Below w.heap.size w wC := BA.drew.trans (bAC.mono zAd)
  have HC : HeapAt wC _ _ h := (HA.below (Below.refl _ _).drew).below bAC
  have yC := row_below bAC (show wA.drew.rowIs w8.heap.size 39 5 _ from yA)
  have bhC := row_below bAC (show wA.drew.rowIs (w.heap.size + 1) 28 5 _ from bhA)
  clear hzB zAd bAC hbB hbC hnfB hhiB hmB MAd mAd bxAd pAd bxB pB bxC pC bxA pA yA bhA MA HA BA zA
  have zC := BC.size
  go_upto_region 16 with fail
  have HCd : HeapAt wC.drew _ _ h := HC.below (Below.refl _ _).drew
  have hCd : HeapAt wC.drew _ _ h := (hh.below BC).below (Below.refl _ _).drew
  have yCd : wC.drew.rowIs w8.heap.size 39 5 (five (.slice (some ⟨g8, 0, none⟩) h.calls.length h.calls.length) (.int .i64 h.now) (.int .i64 h.born) (.slice (some ⟨s8, 0, none⟩) h.said.length h.said.length) (.int .i64 h.code)) := yC
  have bhCd : wC.drew.rowIs (w.heap.size + 1) 28 5 (five (.slice ac h.calls.length kc) (.int .i64 h.now) (.int .i64 h.born) (.slice aD h.said.length kD) (.int .i64 h.code)) := bhC
  obtain ⟨⟨x0, x1, x2, x3, x4⟩, xf⟩ := five_cells bhC
  obtain ⟨⟨y0, y1, y2, y3, y4⟩, yf⟩ := five_cells yC
  clear xf yf
  go_wp2_with fail
  go_region_held3 (fun w' => (w'.cell? ⟨w.heap.size + 1, 0, none⟩ = some (.slice ac h.calls.length kc) ∧ w'.cell? ⟨w.heap.size + 1, 1, none⟩ = some (.int .i64 h.now) ∧ w'.cell? ⟨w.heap.size + 1, 2, none⟩ = some (.int .i64 h.born) ∧ w'.cell? ⟨w.heap.size + 1, 3, none⟩ = some (.slice aD h.said.length kD) ∧ w'.cell? ⟨w.heap.size + 1, 4, none⟩ = some (.int .i64 h.code)) ∧ (w'.cell? ⟨w8.heap.size, 0, none⟩ = some (.slice (some ⟨g8, 0, none⟩) h.calls.length h.calls.length) ∧ w'.cell? ⟨w8.heap.size, 1, none⟩ = some (.int .i64 h.now) ∧ w'.cell? ⟨w8.heap.size, 2, none⟩ = some (.int .i64 h.born) ∧ w'.cell? ⟨w8.heap.size, 3, none⟩ = some (.slice (some ⟨s8, 0, none⟩) h.said.length h.said.length) ∧ w'.cell? ⟨w8.heap.size, 4, none⟩ = some (.int .i64 h.code)))
    (first | exact ⟨XE.out, YE.out⟩ | exact ⟨XD.out, YD.out⟩ | go_keep)
    ((first
      | (have hh := hbD; clear hh; go_at_call 13; refine (eqHeap_same h _ _ _ _ _ (HCd.below hbD) HD).mono ?_; rintro e wE ⟨rfl, hbE⟩; have XE : Hid _ := (five_cells (row_below hbE xD)).1; have YE : Hid _ := (five_cells (row_below hbE yD)).1)
      | (go_at_call 10; refine (toHeap_any h _ _ _ hCd HSM.out).mono ?_; rintro e wD ⟨gD, sD, GD, rfl, hgD, hND, hbD, hnfD⟩; have HD := hND.at (show h.calls.length ≤ maxLen by { have := HSM.out.1; unfold maxLen; omega }); have xD := row_below hbD bhCd; have yD := row_below hbD yCd; have XD : Hid _ := (five_cells xD).1; have YD : Hid _ := (five_cells yD).1)))
  have hzD := hbD.size
  have zCd : w.heap.size ≤ wC.drew.heap.size := zC
  have BE : Below w.heap.size w wE := BC.drew.trans ((hbD.trans (hbE.mono hzD)).mono zCd)
  clear hzD zCd hbD hbE hnfD hgD hND HD xD yD XD YD XE YE HCd hCd yCd bhCd x0 x1 x2 x3 x4 y0 y1 y2 y3 y4 bhC yC HC BC zC
  go_wp2
  go_ret
  exact ⟨rfl, BE⟩

end Go.Proofs.Ytolonocebclocaa
