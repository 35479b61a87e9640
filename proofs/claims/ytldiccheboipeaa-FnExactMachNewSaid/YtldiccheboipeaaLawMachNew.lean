/-
  The law FnExactMachNew, walked: whatever methods lie behind its first argument, whatever the numbers, it answers true and writes to nothing that was there. (Written by mkxm.py.)
-/
import Derived.Test.YtldiccheboipeaaCopy2
import Derived.Test.YtldiccheboipeaaSize
import Derived.Test.YtldiccheboipeaaSame
import Derived.Test.YtldiccheboipeaaMAns
import Derived.Test.YtldiccheboipeaaDeepM
import Derived.Deep.RegionHeld3
namespace Go.Proofs.Ytldiccheboipeaa
open Go.RowKit

theorem Mid.below {B C B0 : Nat} {w0 w w' : World} (h : Mid B C w w') (hb : Below B0 w0 w) (h0 : B0 ≤ w0.heap.size) (h1 : B0 ≤ B) : Below B0 w0 w' :=
  ⟨h.os.trans hb.os, h.tape.trans hb.tape, h.output.trans hb.output, Nat.le_trans hb.size h.size, fun k hk => (h.block k (by have := hb.size; omega) (.inl (by omega))).trans (hb.block k hk)⟩

set_option maxRecDepth 100000 in
set_option maxHeartbeats 4000000 in
theorem law_any (v : Value) (ms : List (Int × Int × List (Int × Int))) (r c : Int) (w : World) (h : MethsAt w v ms) :
    Calls Try.prog 5 #[.agg #[v], .int .i64 r, .int .i64 c] w fun e w' => e = .returned (.bool true) ∧ Below w.heap.size w w' := by
  obtain ⟨a, cap, hv, hvx⟩ := id h
  clear hvx
  subst hv
  obtain ⟨M, hM⟩ : ∃ M, newAns ms r c = M := ⟨_, rfl⟩
  obtain ⟨ok, hok⟩ : ∃ ok, (progOk ms && roomsB r c) = ok := ⟨_, rfl⟩
  obtain ⟨K, hK⟩ : ∃ K, newK ms r c = K := ⟨_, rfl⟩
  have HS := fun (v : Value) (W : World) (hm : MethsAt W v ms) => specMachNew_ans v ms r c W hm
  have HI := fun (v : Value) (W : World) (hm : MethsAt W v ms) => implMachNew_ans v ms r c W hm
  rw [hM, hok] at HS
  rw [hM, hok, hK] at HI
  clear hM hok hK
  go_enter Try.func5, Try.ntmps5
  go_upto_region 1 with fail
  refine wp_gen (fun W => Below w.heap.size w W ∧ Bx W w.heap.size 56 [.slice a ms.length cap]) ⟨(Below.refl _ _).alloc (Nat.le_refl _) _, Bx.new w _ _⟩ ?_
  rintro W0 ⟨B0, x0⟩
  have p0 := x0.cell 0 rfl
  have z0 := B0.size
  go_wp2_with fail
  refine (szProg_any _ ms _ _ (h.below B0) (by omega) (by omega)).mono ?_
  rintro e w1 ⟨q, rfl, hr1, hr0, t1⟩
  have B1 := B0.trans (t1.mono z0)
  have x1 := x0.below t1
  have HR : Hid (0 ≤ q → ms.length ≤ 1048576 ∧ ∀ i, (hi : i < ms.length) → ms[i].2.2.length ≤ 1048576) := hr0
  clear hr0 t1 x0 p0 B0 z0
  by_cases hr : q < 0
  · go_wp2
    go_ret
    exact ⟨rfl, B1⟩
  have HN : Hid (ms.length ≤ 1048576 ∧ ∀ i, (hi : i < ms.length) → ms[i].2.2.length ≤ 1048576) := HR.out (by omega)
  clear HR
  have z1 := B1.size
  have p0 := x1.cell 0 rfl
  go_wp2_with fail
  refine (toProg_any _ ms _ (h.below B1) HN.out.1 HN.out.2).mono ?_
  rintro e w2 ⟨v2, rfl, hm2, t2, _⟩
  have M2 := hm2.at
  have B2 := B1.trans (t2.mono z1)
  have x2 := x1.below t2
  have z2 := B2.size
  clear hm2 t2 x1 B1 z1 p0
  go_wp2_with fail
  refine (HS _ _ M2).mono ?_
  rintro e w3 ⟨s1, s2, s3, s4, rfl, hF3, t3⟩
  have hS3 := hF3.here
  have B3 := B2.trans (t3.mono z2)
  have x3 := x2.below t3
  have z3 := B3.size
  clear t3 x2 B2 z2 M2 hF3
  obtain ⟨aS1, cS1, eS1⟩ := (hS3).p.shape
  obtain ⟨aS2, cS2, eS2⟩ := (hS3).o.shape
  obtain ⟨aS3, cS3, eS3⟩ := (hS3).t.shape
  obtain ⟨aS4, cS4, eS4⟩ := (hS3).s.shape
  subst eS1 eS2 eS3 eS4
  unfold mcCells
  go_upto_region 6 with fail
  refine wp_gen (fun W => Below w3.heap.size w3 W ∧ Bx W w3.heap.size 33 [.int .i64 M.cells, .slice aS1 M.pages.length cS1, .slice aS2 M.order.length cS2, .int .i64 M.now, .slice aS3 M.twins.length cS3, .int .i64 M.born, .slice aS4 M.said.length cS4, .int .i64 M.code]) ⟨(Below.refl _ _).alloc (Nat.le_refl _) _, Bx.new _ _ _⟩ ?_
  rintro w4 ⟨N3, y4⟩
  have HX4 : Hid (Bx w4 w.heap.size 56 [.slice a ms.length cap]) := x3.below N3
  have HS4 : Hid (MachAt w4 (.slice aS1 M.pages.length cS1) (.slice aS2 M.order.length cS2) (.slice aS3 M.twins.length cS3) (.slice aS4 M.said.length cS4) M) := hS3.below N3
  have HY4 : Hid (Bx w4 w3.heap.size 33 [.int .i64 M.cells, .slice aS1 M.pages.length cS1, .slice aS2 M.order.length cS2, .int .i64 M.now, .slice aS3 M.twins.length cS3, .int .i64 M.born, .slice aS4 M.said.length cS4, .int .i64 M.code]) := y4
  have HB4 : Hid (Below w.heap.size w w4) := B3.trans (N3.mono z3)
  have z4 := HB4.out.size
  have y34 := y4.lt
  clear N3 y4 x3 hS3 B3 z3
  have p0 := HX4.out.cell 0 rfl
  go_wp2_with fail
  refine (toProg_any _ ms _ (h.below HB4.out) HN.out.1 HN.out.2).mono ?_
  rintro e w5 ⟨v5, rfl, hm5, L5, hnf5, hhi5⟩
  have HM5 : Hid (MethsNew w4.heap.size w5 v5 ms ∧ NF w4.heap.size w5 ∧ MethsHi w5 v5 ms) := ⟨hm5, hnf5, hhi5⟩
  obtain ⟨g5, l5, c5, hv5, _⟩ := hm5.own
  subst hv5
  have y5 := L5.size
  clear hm5 hnf5 hhi5 p0
  go_upto_region 7 with fail
  refine wp_gen (fun W => Below w5.heap.size w5 W ∧ Bx W w5.heap.size 25 [.slice (some ⟨g5, 0, none⟩) l5 c5]) ⟨(Below.refl _ _).alloc (Nat.le_refl _) _, Bx.new _ _ _⟩ ?_
  rintro w6 ⟨N5, q6⟩
  have y6 : w5.heap.size < w6.heap.size := q6.lt
  have p0 := q6.cell 0 rfl
  go_wp2_with fail
  refine (HI _ _ (HM5.out.1.at.below N5)).mono ?_
  rintro e w7 ⟨i1, i2, i3, i4, Blk, Mk, rfl, hA7, t7⟩
  have q7 := q6.below t7
  have U7 := N5.trans (t7.mono (Nat.le_of_lt y6))
  have y7 := t7.size
  have hI7 := (hA7.stay w7 (Nat.le_refl _) fun _ _ => rfl).1
  have HA : Hid (IAns w6.heap.size w7 M i1 i2 i3 i4 Blk K Mk) := hA7
  have HLT : Hid (∀ g, Blk g → w6.heap.size ≤ g ∧ g < w7.heap.size) := hA7.lt
  clear t7 q6 N5 hA7 p0
  obtain ⟨aI1, cI1, eI1⟩ := (hI7).p.shape
  obtain ⟨aI2, cI2, eI2⟩ := (hI7).o.shape
  obtain ⟨aI3, cI3, eI3⟩ := (hI7).t.shape
  obtain ⟨aI4, cI4, eI4⟩ := (hI7).s.shape
  subst eI1 eI2 eI3 eI4
  clear hI7
  unfold mcCells
  go_upto_region 8 with fail
  refine wp_gen (fun W => Below w7.heap.size w7 W ∧ Bx W w7.heap.size 33 [.int .i64 M.cells, .slice aI1 M.pages.length cI1, .slice aI2 M.order.length cI2, .int .i64 M.now, .slice aI3 M.twins.length cI3, .int .i64 M.born, .slice aI4 M.said.length cI4, .int .i64 M.code]) ⟨(Below.refl _ _).alloc (Nat.le_refl _) _, Bx.new _ _ _⟩ ?_
  rintro w8 ⟨N7, y8⟩
  have q8 := q7.below N7
  have U8 := U7.trans (N7.mono (by omega))
  have y78 := y8.lt
  have k8 : ∀ g, Blk g → w8.heap[g]? = w7.heap[g]? := fun g hg => N7.block g (HLT.out g hg).2
  clear N7 q7 U7
  have L8 : Below w4.heap.size w4 w8 := L5.trans (U8.mono y5)
  have hI8 := (HA.out.stay w8 (by omega) k8).1
  have hS8 := HS4.out.below L8
  obtain ⟨⟨u0, u1, u2, u3, u4, u5, u6, u7⟩, _⟩ := bx8 y8
  obtain ⟨⟨s0, s1, s2, s3, s4, s5, s6, s7⟩, _⟩ := bx8 (HY4.out.below L8)
  go_wp2_with fail
  refine (eqMach_same M _ _ _ _ _ _ _ _ _ hI8.p hI8.o hI8.t hI8.s hS8.p hS8.o hS8.t hS8.s).mono ?_
  rintro e w9 ⟨rfl, t9⟩
  have q9 := q8.below t9
  have y9 := y8.below t9
  have U9 := U8.trans (t9.mono (by omega))
  have L9 := L5.trans (U9.mono y5)
  have B9 : Below w.heap.size w w9 := HB4.out.trans (L9.mono z4)
  have k9 : ∀ g, Blk g → w9.heap[g]? = w7.heap[g]? := fun g hg => (t9.block g (by have := (HLT.out g hg).2; omega)).trans (k8 g hg)
  have y9z := t9.size
  clear t9 q8 y8 U8 L8 hI8 hS8 k8 u0 u1 u2 u3 u4 u5 u6 u7 s0 s1 s2 s3 s4 s5 s6 s7
  go_wp2_with fail
  have h9 : MethsAt w9.drew _ ms := (h.below B9).below (Below.refl _ _).drew
  have M9 : MethsAt w9.drew _ ms := (HM5.out.1.at.below U9).below (Below.refl _ _).drew
  have bx9 : w9.drew.cell? ⟨w.heap.size, 0, none⟩ = some (.slice a ms.length cap) := (HX4.out.below L9).cell 0 rfl
  have by9d : w9.drew.cell? ⟨w5.heap.size, 0, none⟩ = some (.slice (some ⟨g5, 0, none⟩) l5 c5) := q9.cell 0 rfl
  go_region_held3 (fun w' => w'.cell? ⟨w.heap.size, 0, none⟩ = some (.slice a ms.length cap) ∧ w'.cell? ⟨w5.heap.size, 0, none⟩ = some (.slice (some ⟨g5, 0, none⟩) l5 c5))
    (first | exact ⟨bxQ, byQ⟩ | exact ⟨bxP, byP⟩ | go_keep)
    ((first
      | (have hx := hbP; clear hx; go_at_call 23; refine (eqProg_same _ _ ms _ (M9.below hbP) hmP.at).mono ?_; rintro e wQ ⟨rfl, hbQ⟩; have bxQ := cell_below hbQ bxP; have byQ := cell_below hbQ byP)
      | (go_at_call 21; refine (toProg_any _ ms _ h9 HN.out.1 HN.out.2).mono ?_; rintro e wP ⟨vP, rfl, hmP, hbP, hnfP, hhiP⟩; have bxP := cell_below hbP bx9; have byP := cell_below hbP by9d)))
  have hzP := hbP.size
  have b9Q : Below w9.drew.heap.size w9.drew wQ := hbP.trans (hbQ.mono hzP)
  have y9d : w9.drew.heap.size = w9.heap.size := rfl
  have UQ : Below w5.heap.size w5 wQ := U9.drew.trans (b9Q.mono (by omega))
  have yQ : Bx wQ w7.heap.size 33 [.int .i64 M.cells, .slice aI1 M.pages.length cI1, .slice aI2 M.order.length cI2, .int .i64 M.now, .slice aI3 M.twins.length cI3, .int .i64 M.born, .slice aI4 M.said.length cI4, .int .i64 M.code] := (show Bx w9.drew w7.heap.size 33 [.int .i64 M.cells, .slice aI1 M.pages.length cI1, .slice aI2 M.order.length cI2, .int .i64 M.now, .slice aI3 M.twins.length cI3, .int .i64 M.born, .slice aI4 M.said.length cI4, .int .i64 M.code] from y9).below b9Q
  have kQ : ∀ g, Blk g → wQ.heap[g]? = w7.heap[g]? := fun g hg => (b9Q.block g (by have := (HLT.out g hg).2; omega)).trans (k9 g hg)
  have yQz := b9Q.size
  clear hzP b9Q hbP hbQ hnfP hhiP hmP M9 h9 bx9 by9d bxP byP bxQ y9 U9 L9 B9 q9 k9
  go_wp2_with fail
  refine (markProg_any w4.heap.size _ ms w5 _ HM5.out.1 HM5.out.2.1 HM5.out.2.2 UQ HN.out.1 HN.out.2).mono ?_
  rintro e wR ⟨hmid, K0, rfl, hK0⟩
  have hzR := hmid.size
  have LR : Below w4.heap.size w4 wR := hmid.below (L5.trans (UQ.mono y5)) (Nat.le_refl _) (Nat.le_refl _)
  have yR := yQ.kept (hmid.block w7.heap.size yQ.lt (.inr (by omega)))
  have kR : ∀ g, Blk g → wR.heap[g]? = w7.heap[g]? := fun g hg => (hmid.block g (by have := (HLT.out g hg).2; omega) (.inr (by have := (HLT.out g hg).1; omega))).trans (kQ g hg)
  have hKn : ¬ K0 < 0 := by omega
  clear hmid yQ UQ byQ kQ
  have hIR := (HA.out.stay wR (by omega) kR).1
  have hSR := HS4.out.below LR
  obtain ⟨⟨u0, u1, u2, u3, u4, u5, u6, u7⟩, _⟩ := bx8 yR
  obtain ⟨⟨s0, s1, s2, s3, s4, s5, s6, s7⟩, _⟩ := bx8 (HY4.out.below LR)
  go_wp2_with fail
  refine (eqMach_same M _ _ _ _ _ _ _ _ _ hIR.p hIR.o hIR.t hIR.s hSR.p hSR.o hSR.t hSR.s).mono ?_
  rintro e wS ⟨rfl, tS⟩
  have LS := LR.trans (tS.mono (by omega))
  have yS := yR.below tS
  have kS : ∀ g, Blk g → wS.heap[g]? = w7.heap[g]? := fun g hg => (tS.block g (by have := (HLT.out g hg).2; omega)).trans (kR g hg)
  have ySz := tS.size
  clear tS yR LR hIR hSR kR u0 u1 u2 u3 u4 u5 u6 u7 s0 s1 s2 s3 s4 s5 s6 s7
  obtain ⟨⟨u0, u1, u2, u3, u4, u5, u6, u7⟩, _⟩ := bx8 yS
  have HMK := (HA.out.stay wS (by omega) kS).2
  unfold mcCells at HMK
  go_wp2_with fail
  refine HMK.mono ?_
  rintro e wT ⟨rfl, hmT, hwT⟩
  have HMT : Hid (Mk wT) := hmT
  have LT : Below w4.heap.size w4 wT := hwT.below LS (Nat.le_refl _) (fun g hg => by have := (HLT.out g hg).1; omega)
  have yT := hwT.bx yS (fun hg => by have := (HLT.out _ hg).2; omega)
  have yTz := hwT.size
  clear hwT LS yS HMK kS hmT u0 u1 u2 u3 u4 u5 u6 u7
  have hK0' : 0 ≤ K := HA.out.k0
  have hEn : ¬ K < 0 := by omega
  obtain ⟨⟨u0, u1, u2, u3, u4, u5, u6, u7⟩, _⟩ := bx8 yT
  have HHD := HA.out.held wT HMT.out
  unfold mcCells at HHD
  go_wp2_with fail
  refine HHD.mono ?_
  rintro e wU ⟨rfl, tU⟩
  have LU := LT.trans (tU.mono (by omega))
  have yU := yT.below tU
  have HMU : Hid (Mk wU) := HA.out.go _ _ HMT.out tU
  have BU : Below w.heap.size w wU := HB4.out.trans (LU.mono z4)
  have pU := (HX4.out.below LU).cell 0 rfl
  have yUz := tU.size
  clear tU LT yT HHD HMT u0 u1 u2 u3 u4 u5 u6 u7
  go_wp2_with fail
  refine (toProg_any _ ms _ (h.below BU) HN.out.1 HN.out.2).mono ?_
  rintro e wV ⟨vV, rfl, hmV, tV, _⟩
  have MV := hmV.at
  have LV := LU.trans (tV.mono (by omega))
  have yV := yU.below tV
  have HMV : Hid (Mk wV) := HA.out.go _ _ HMU.out tV
  have yVz := tV.size
  clear hmV tV LU yU BU pU HMU
  go_wp2_with fail
  refine (HI _ _ MV).mono ?_
  rintro e wX ⟨j1, j2, j3, j4, BlkX, MkX, rfl, hAX, tX⟩
  have hIX := (hAX.stay wX (Nat.le_refl _) fun _ _ => rfl).1
  have LX := LV.trans (tX.mono (by omega))
  have yX := yV.below tX
  have HMX : Hid (Mk wX) := HA.out.go _ _ HMV.out tX
  have yXz := tX.size
  clear tX LV yV MV HMV hAX
  obtain ⟨aX1, cX1, eX1⟩ := (hIX).p.shape
  obtain ⟨aX2, cX2, eX2⟩ := (hIX).o.shape
  obtain ⟨aX3, cX3, eX3⟩ := (hIX).t.shape
  obtain ⟨aX4, cX4, eX4⟩ := (hIX).s.shape
  subst eX1 eX2 eX3 eX4
  unfold mcCells
  go_upto_region 25 with fail
  refine wp_gen (fun W => Below wX.heap.size wX W ∧ Bx W wX.heap.size 33 [.int .i64 M.cells, .slice aX1 M.pages.length cX1, .slice aX2 M.order.length cX2, .int .i64 M.now, .slice aX3 M.twins.length cX3, .int .i64 M.born, .slice aX4 M.said.length cX4, .int .i64 M.code]) ⟨(Below.refl _ _).alloc (Nat.le_refl _) _, Bx.new _ _ _⟩ ?_
  rintro wY ⟨NX, hY⟩
  have LY := LX.trans (NX.mono (by omega))
  have yY := yX.below NX
  have HMY : Hid (Mk wY) := HA.out.go _ _ HMX.out NX
  have hIY := hIX.below NX
  have hSY := HS4.out.below LY
  have yYz := NX.size
  clear NX LX yX HMX hIX
  obtain ⟨⟨s0, s1, s2, s3, s4, s5, s6, s7⟩, _⟩ := bx8 (HY4.out.below LY)
  obtain ⟨⟨u0, u1, u2, u3, u4, u5, u6, u7⟩, _⟩ := bx8 hY
  go_wp2_with fail
  refine (eqMach_same M _ _ _ _ _ _ _ _ _ hIY.p hIY.o hIY.t hIY.s hSY.p hSY.o hSY.t hSY.s).mono ?_
  rintro e wZ ⟨rfl, tZ⟩
  have LZ := LY.trans (tZ.mono (by omega))
  have yZ := yY.below tZ
  have HMZ : Hid (Mk wZ) := HA.out.go _ _ HMY.out tZ
  have yZz := tZ.size
  clear tZ LY yY hY HMY hIY hSY u0 u1 u2 u3 u4 u5 u6 u7 s0 s1 s2 s3 s4 s5 s6 s7
  obtain ⟨⟨u0, u1, u2, u3, u4, u5, u6, u7⟩, _⟩ := bx8 yZ
  have HHD := HA.out.held wZ HMZ.out
  unfold mcCells at HHD
  go_wp2_with fail
  refine HHD.mono ?_
  rintro e wL ⟨rfl, tL⟩
  have BL : Below w.heap.size w wL := HB4.out.trans ((LZ.trans (tL.mono (by omega))).mono z4)
  clear tL LZ yZ HHD HMZ u0 u1 u2 u3 u4 u5 u6 u7
  go_wp2
  go_ret
  exact ⟨rfl, BL⟩

end Go.Proofs.Ytldiccheboipeaa
