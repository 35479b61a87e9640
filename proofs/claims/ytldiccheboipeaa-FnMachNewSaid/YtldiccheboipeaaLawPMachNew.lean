/-
  The law FnMachNew, walked: whatever bytes come in, it answers true and writes to nothing that was there. (Written by mklpmn.py.)
-/
import Derived.Test.YtldiccheboipeaaDraw13
import Derived.Test.YtldiccheboipeaaNewMFacts
import Derived.Test.YtldiccheboipeaaHHeapOk
import Derived.Deep.RegionHeld3

namespace Go.Proofs.Ytldiccheboipeaa
open Go.RowKit
set_option maxRecDepth 100000 in
set_option maxHeartbeats 4000000 in
theorem lawMachNew_drawn (w : World) (a : Option Addr) (len cap : Nat) (h : BytesAt w a len cap) :
    Calls Try.prog 3 #[.slice a len cap] w fun e w' => e = .returned (.bool true) ∧ Below w.heap.size w w' := by
  have hc := h.1
  have hm := h.2.1
  unfold maxLen at hm
  have HB : Hid (BytesAt w a len cap) := h
  clear h
  by_cases hl : 1048576 < len
  · have hlz : (1048576 : Int) < (len : Int) := by omega
    go_enter Try.func3, Try.ntmps3
    go_wp2
    go_ret
    exact ⟨rfl, Below.refl _ _⟩
  have hlz : (len : Int) ≤ 1048576 := by omega
  go_enter Try.func3, Try.ntmps3
  go_wp2_with fail
  refine (drawMachNew_any _ a len cap HB.out).mono ?_
  rintro e w1 ⟨v, MS, r, c, rfl, hR, hC, hD1, B1⟩
  have hM1 := hD1.meths
  obtain ⟨aV, cV, hvV⟩ := hD1.row.shape
  subst hvV
  obtain ⟨ms, hms⟩ : ∃ ms, plainOf MS = ms := ⟨_, rfl⟩
  have hlen : MS.length = ms.length := by rw [← hms]; simp [plainOf]
  rw [hms] at hM1
  rw [hlen] at hM1 ⊢
  clear HB hD1 hms hlen
  go_upto_region 4 with fail
  have z1 := B1.size
  refine wp_gen (fun W => Below w.heap.size w W ∧ Bx W w1.heap.size 25 [.slice aV ms.length cV] ∧ MethsAt W (.slice aV ms.length cV) ms) ⟨B1.alloc z1 _, Bx.new _ _ _, hM1.below ((Below.refl _ _).alloc (Nat.le_refl _) _)⟩ ?_
  rintro w2 ⟨B2, x2, M2⟩
  have p0 := x2.cell 0 rfl
  have z2 := B2.size
  obtain ⟨M, hM⟩ : ∃ M, newAns ms r c = M := ⟨_, rfl⟩
  obtain ⟨ok, hok⟩ : ∃ ok, (progOk ms && roomsB r c) = ok := ⟨_, rfl⟩
  have HS := specMachNew_ans _ ms r c w2 M2
  rw [hM, hok] at HS
  go_wp2_with fail
  refine HS.mono ?_
  rintro e w3 ⟨s1, s2, s3, s4, rfl, hF3, t3⟩
  have hS3 := hF3.here
  have B3 := B2.trans (t3.mono z2)
  have x3 := x2.below t3
  have M3 := M2.below t3
  have z3 := B3.size
  clear HS t3 x2 B2 M2 hF3 p0 z2 B1 hM1
  obtain ⟨aS1, cS1, eS1⟩ := (hS3).p.shape
  obtain ⟨aS2, cS2, eS2⟩ := (hS3).o.shape
  obtain ⟨aS3, cS3, eS3⟩ := (hS3).t.shape
  obtain ⟨aS4, cS4, eS4⟩ := (hS3).s.shape
  subst eS1 eS2 eS3 eS4
  unfold mcCells
  go_upto_region 5 with fail
  refine wp_gen (fun W => Below w.heap.size w W ∧ Bx W w1.heap.size 25 [.slice aV ms.length cV] ∧ MethsAt W (.slice aV ms.length cV) ms ∧ Bx W w3.heap.size 33 [.int .i64 M.cells, .slice aS1 M.pages.length cS1, .slice aS2 M.order.length cS2, .int .i64 M.now, .slice aS3 M.twins.length cS3, .int .i64 M.born, .slice aS4 M.said.length cS4, .int .i64 M.code] ∧ MachAt W (.slice aS1 M.pages.length cS1) (.slice aS2 M.order.length cS2) (.slice aS3 M.twins.length cS3) (.slice aS4 M.said.length cS4) M) ⟨B3.alloc z3 _, x3.alloc _, M3.below ((Below.refl _ _).alloc (Nat.le_refl _) _), Bx.new _ _ _, hS3.below ((Below.refl _ _).alloc (Nat.le_refl _) _)⟩ ?_
  rintro w4 ⟨B4, x4, M4, y4, S4⟩
  have p0 := x4.cell 0 rfl
  have z4 := B4.size
  have HI := implMachNew_here _ ms r c w4 M4
  rw [hM, hok] at HI
  clear x3 B3 M3 hS3
  go_wp2_with fail
  refine HI.mono ?_
  rintro e w5 ⟨i1, i2, i3, i4, rfl, hI5, t5⟩
  have B5 := B4.trans (t5.mono z4)
  have x5 := x4.below t5
  have M5 := M4.below t5
  have y5 := y4.below t5
  have S5 := S4.below t5
  have z5 := B5.size
  clear HI t5 x4 B4 M4 y4 S4 p0 z4
  obtain ⟨aI1, cI1, eI1⟩ := (hI5).p.shape
  obtain ⟨aI2, cI2, eI2⟩ := (hI5).o.shape
  obtain ⟨aI3, cI3, eI3⟩ := (hI5).t.shape
  obtain ⟨aI4, cI4, eI4⟩ := (hI5).s.shape
  subst eI1 eI2 eI3 eI4
  unfold mcCells
  go_upto_region 6 with fail
  refine wp_gen (fun W => Below w.heap.size w W ∧ Bx W w1.heap.size 25 [.slice aV ms.length cV] ∧ MethsAt W (.slice aV ms.length cV) ms ∧ Bx W w3.heap.size 33 [.int .i64 M.cells, .slice aS1 M.pages.length cS1, .slice aS2 M.order.length cS2, .int .i64 M.now, .slice aS3 M.twins.length cS3, .int .i64 M.born, .slice aS4 M.said.length cS4, .int .i64 M.code] ∧ MachAt W (.slice aS1 M.pages.length cS1) (.slice aS2 M.order.length cS2) (.slice aS3 M.twins.length cS3) (.slice aS4 M.said.length cS4) M ∧ Bx W w5.heap.size 33 [.int .i64 M.cells, .slice aI1 M.pages.length cI1, .slice aI2 M.order.length cI2, .int .i64 M.now, .slice aI3 M.twins.length cI3, .int .i64 M.born, .slice aI4 M.said.length cI4, .int .i64 M.code] ∧ MachAt W (.slice aI1 M.pages.length cI1) (.slice aI2 M.order.length cI2) (.slice aI3 M.twins.length cI3) (.slice aI4 M.said.length cI4) M) ⟨B5.alloc z5 _, x5.alloc _, M5.below ((Below.refl _ _).alloc (Nat.le_refl _) _), y5.alloc _, S5.below ((Below.refl _ _).alloc (Nat.le_refl _) _), Bx.new _ _ _, hI5.below ((Below.refl _ _).alloc (Nat.le_refl _) _)⟩ ?_
  rintro w6 ⟨B6, x6, M6, y6, S6, q6, I6⟩
  have z6 := B6.size
  obtain ⟨⟨u0, u1, u2, u3, u4, u5, u6, u7⟩, _⟩ := bx8 y6
  obtain ⟨⟨v0, v1, v2, v3, v4, v5, v6, v7⟩, _⟩ := bx8 q6
  clear x5 B5 M5 y5 S5 hI5
  have HL := lmMach_same _ _ _ _ _ _ _ _ M w6 I6 S6
  unfold mcCells at HL
  go_wp2_with fail
  refine HL.mono ?_
  rintro e w7 ⟨rfl, t7⟩
  have B7 := B6.trans (t7.mono z6)
  have x7 := x6.below t7
  have M7 := M6.below t7
  have y7 := y6.below t7
  have S7 := S6.below t7
  have q7 := q6.below t7
  have I7 := I6.below t7
  have z7 := B7.size
  clear HL t7 x6 B6 M6 y6 S6 q6 I6 u0 u1 u2 u3 u4 u5 u6 u7 v0 v1 v2 v3 v4 v5 v6 v7
  obtain ⟨⟨u0, u1, u2, u3, u4, u5, u6, u7⟩, _⟩ := bx8 y7
  obtain ⟨⟨v0, v1, v2, v3, v4, v5, v6, v7⟩, _⟩ := bx8 q7
  cases ok
  · have HL := lmMach_same _ _ _ _ _ _ _ _ M w7 I7 S7
    unfold mcCells at HL
    go_wp2_with fail
    refine HL.mono ?_
    rintro e w8 ⟨rfl, t8⟩
    have B8 := B7.trans (t8.mono z7)
    go_wp2
    go_ret
    exact ⟨rfl, B8⟩
  obtain ⟨hp, hr⟩ := Bool.and_eq_true_iff.1 hok
  obtain ⟨hr1, hr4, hc1, hc4⟩ := roomsB_true hr
  obtain ⟨n, rfl⟩ := Int.eq_ofNat_of_zero_le (show 0 ≤ r by omega)
  have hn : 1 ≤ n ∧ n ≤ 4 := by omega
  have hMe : M = newMc n (temps0 ms) c := by rw [← hM]; unfold newAns; rw [hok]; rfl
  have hpl : M.pages.length = n := by rw [hMe]; exact newPages_length n _
  have hok2 : machB ms M = true := by rw [hMe]; exact newMc_ok hp hr
  have htl : Tells M := by rw [hMe]; exact newMc_tells _ _ _
  have htd : Told M := by rw [hMe]; exact newMc_told hp hr
  have hvw : viewL (thingsM M) = viewL (newHp ms) := by rw [hMe]; exact newMc_view hp hn.1
  have htw : M.twins.length = 0 := by rw [hMe]; rfl
  have hfr : framesN M.pages = 1 := by rw [hMe]; show framesTo (newPages n (temps0 ms)) (newPages n (temps0 ms)).length = 1; rw [newPages_length, newFrames_to _ _ _ (Nat.le_refl _), if_neg (by omega)]
  have hon : onTo M M.twins.length = 0 := by have := onTo_le M M.twins.length; omega
  have hsh : (thingsM M).short := by
    rw [hMe, newMc_things hn.1]
    obtain ⟨_, _, _, _, h5⟩ := first_ok hp
    exact ⟨by simp, fun i hi => by
      have : i = 0 := by simp at hi; omega
      subst this
      simp
      omega⟩
  have hsm : M.small := by
    obtain ⟨_, _, _, _, h5⟩ := first_ok hp
    have hf : ∀ i, (hi : i < M.pages.length) → M.pages[i].frames.length ≤ 1 ∧ ∀ j, (hj : j < M.pages[i].frames.length) → M.pages[i].frames[j].temps.length ≤ temps0 ms ∧ M.pages[i].frames[j].stack.length = 0 := by
      rw [hMe]
      exact newMc_few n (temps0 ms) c
    have ho : M.order.length = n := by rw [hMe]; exact ordTo_length n n
    have hsd : M.said.length = 0 := by rw [hMe]; rfl
    exact ⟨by omega, fun i hi => by have := (hf i hi).1; omega, by omega, by omega, by omega, fun i hi j hj => by have := (hf i hi).2 j hj; omega, fun i hi => absurd hi (by omega)⟩
  clear hM hMe hok
  obtain ⟨NH, hNH⟩ : ∃ NH, newHp ms = NH := ⟨_, rfl⟩
  have hns : NH.short ∧ NH.calls.length ≤ 1 := by rw [← hNH]; exact newHp_short ms
  have p0 := x7.cell 0 rfl
  have HH := implHeapNew_any _ ms w7 M7
  rw [hNH, hp] at HH
  rw [hNH] at hvw
  clear hNH
  go_wp2_with fail
  refine HH.mono ?_
  rintro e w8 ⟨t8, vc, vs, V, rfl, hO⟩
  have hh8 := hO.at
  have B8 := B7.trans (t8.mono z7)
  have x8 := x7.below t8
  have M8 := M7.below t8
  have q8 := q7.below t8
  have I8 := I7.below t8
  have z8 := B8.size
  clear HH t8 hO x7 B7 M7 y7 S7 q7 I7 z7 p0 u0 u1 u2 u3 u4 u5 u6 u7 v0 v1 v2 v3 v4 v5 v6 v7
  obtain ⟨ah, ch, hvc⟩ := hh8.c.shape
  obtain ⟨sh, cs, hvs⟩ := hh8.s.shape
  subst hvc hvs
  unfold hpCells
  go_upto_region 9 with fail
  refine wp_gen (fun W => Below w.heap.size w W ∧ Bx W w1.heap.size 25 [.slice aV ms.length cV] ∧ MethsAt W (.slice aV ms.length cV) ms ∧ Bx W w5.heap.size 33 [.int .i64 M.cells, .slice aI1 M.pages.length cI1, .slice aI2 M.order.length cI2, .int .i64 M.now, .slice aI3 M.twins.length cI3, .int .i64 M.born, .slice aI4 M.said.length cI4, .int .i64 M.code] ∧ MachAt W (.slice aI1 M.pages.length cI1) (.slice aI2 M.order.length cI2) (.slice aI3 M.twins.length cI3) (.slice aI4 M.said.length cI4) M ∧ Bx W w8.heap.size 39 [.slice ah NH.calls.length ch, .int .i64 NH.now, .int .i64 NH.born, .slice sh NH.said.length cs, .int .i64 NH.code] ∧ HeapAt W (.slice ah NH.calls.length ch) (.slice sh NH.said.length cs) NH) ⟨B8.alloc z8 _, x8.alloc _, M8.below ((Below.refl _ _).alloc (Nat.le_refl _) _), q8.alloc _, I8.below ((Below.refl _ _).alloc (Nat.le_refl _) _), Bx.new _ _ _, hh8.below ((Below.refl _ _).alloc (Nat.le_refl _) _)⟩ ?_
  rintro w9 ⟨B9, x9, M9, q9, I9, h9, H9⟩
  clear B8 x8 M8 q8 I8 hh8
  have z9 := B9.size
  have N9 : Below w9.heap.size w9 w9.drew := (Below.refl _ _).drew
  have BD : Below w.heap.size w w9.drew := B9.drew
  have zV : w.heap.size ≤ w9.drew.heap.size := z9
  have xV := x9.below N9
  have MV := M9.below N9
  have qV := q9.below N9
  have IV := I9.below N9
  have hV9 := h9.below N9
  have HV := H9.below N9
  have HB : Hid (Below w.heap.size w w9.drew) := BD
  clear B9 x9 M9 q9 I9 h9 H9 N9 BD
  have KC : ∀ X, Below w9.drew.heap.size w9.drew X → Hid (X.cell? ⟨w1.heap.size, 0, none⟩ = some (.slice aV ms.length cV) ∧ X.cell? ⟨w5.heap.size, 0, none⟩ = some (.int .i64 M.cells) ∧ X.cell? ⟨w5.heap.size, 1, none⟩ = some (.slice aI1 M.pages.length cI1) ∧ X.cell? ⟨w5.heap.size, 2, none⟩ = some (.slice aI2 M.order.length cI2) ∧ X.cell? ⟨w5.heap.size, 3, none⟩ = some (.int .i64 M.now) ∧ X.cell? ⟨w5.heap.size, 4, none⟩ = some (.slice aI3 M.twins.length cI3) ∧ X.cell? ⟨w5.heap.size, 5, none⟩ = some (.int .i64 M.born) ∧ X.cell? ⟨w5.heap.size, 6, none⟩ = some (.slice aI4 M.said.length cI4) ∧ X.cell? ⟨w5.heap.size, 7, none⟩ = some (.int .i64 M.code) ∧ X.cell? ⟨w8.heap.size, 0, none⟩ = some (.slice ah NH.calls.length ch) ∧ X.cell? ⟨w8.heap.size, 1, none⟩ = some (.int .i64 NH.now) ∧ X.cell? ⟨w8.heap.size, 2, none⟩ = some (.int .i64 NH.born) ∧ X.cell? ⟨w8.heap.size, 3, none⟩ = some (.slice sh NH.said.length cs) ∧ X.cell? ⟨w8.heap.size, 4, none⟩ = some (.int .i64 NH.code)) := fun X hX => ⟨(xV.below hX).cell 0 rfl, (qV.below hX).cell 0 rfl, (qV.below hX).cell 1 rfl, (qV.below hX).cell 2 rfl, (qV.below hX).cell 3 rfl, (qV.below hX).cell 4 rfl, (qV.below hX).cell 5 rfl, (qV.below hX).cell 6 rfl, (qV.below hX).cell 7 rfl, (hV9.below hX).cell 0 rfl, (hV9.below hX).cell 1 rfl, (hV9.below hX).cell 2 rfl, (hV9.below hX).cell 3 rfl, (hV9.below hX).cell 4 rfl⟩
  have C1 : ∀ X, Below w9.drew.heap.size w9.drew X → Calls Try.prog 12 #[.agg #[.slice aV ms.length cV], .agg #[.int .i64 M.cells, .slice aI1 M.pages.length cI1, .slice aI2 M.order.length cI2, .int .i64 M.now, .slice aI3 M.twins.length cI3, .int .i64 M.born, .slice aI4 M.said.length cI4, .int .i64 M.code]] X fun e w' => e = .returned (.bool true) ∧ Below X.heap.size X w' := fun X hX => by
    have := implMachOk_any _ ms _ _ _ _ M X (MV.below hX) (IV.below hX) hsm (by omega)
    rw [hok2] at this
    exact this
  have C2 : ∀ X, Below w9.drew.heap.size w9.drew X → Calls Try.prog 14 #[.agg #[.int .i64 M.cells, .slice aI1 M.pages.length cI1, .slice aI2 M.order.length cI2, .int .i64 M.now, .slice aI3 M.twins.length cI3, .int .i64 M.born, .slice aI4 M.said.length cI4, .int .i64 M.code]] X fun e w' => ∃ aM kM, e = .returned (.slice aM (viewL NH).length kM) ∧ CallsAt w' (.slice aM (viewL NH).length kM) (viewL NH) ∧ Below X.heap.size X w' := fun X hX => by
    have := implMachView_any _ _ _ _ M X (IV.below hX) htl htd (by omega) (by omega) hsh
    rw [hvw] at this
    refine this.mono ?_
    rintro e wM ⟨⟨vM, VM, rfl, hOM⟩, hbM⟩
    have hAM := hOM.at
    obtain ⟨aM, kM, hvM⟩ := hAM.shape
    subst hvM
    exact ⟨aM, kM, rfl, hAM, hbM⟩
  have C3 : ∀ X, Below w9.drew.heap.size w9.drew X → Calls Try.prog 15 #[.agg #[.slice ah NH.calls.length ch, .int .i64 NH.now, .int .i64 NH.born, .slice sh NH.said.length cs, .int .i64 NH.code]] X fun e w' => ∃ aM kM, e = .returned (.slice aM (viewL NH).length kM) ∧ CallsAt w' (.slice aM (viewL NH).length kM) (viewL NH) ∧ Below X.heap.size X w' := fun X hX => by
    have := implHeapView_any _ _ NH X (HV.below hX) hns.1 (by omega)
    unfold hpCells at this
    refine this.mono ?_
    rintro e wM ⟨⟨vM, VM, rfl, hOM⟩, hbM⟩
    have hAM := hOM.at
    obtain ⟨aM, kM, hvM⟩ := hAM.shape
    subst hvM
    exact ⟨aM, kM, rfl, hAM, hbM⟩
  have C5 : ∀ X, Below w9.drew.heap.size w9.drew X → Calls Try.prog 16 #[.agg #[.int .i64 M.cells, .slice aI1 M.pages.length cI1, .slice aI2 M.order.length cI2, .int .i64 M.now, .slice aI3 M.twins.length cI3, .int .i64 M.born, .slice aI4 M.said.length cI4, .int .i64 M.code]] X fun e w' => e = .returned (.int .i64 1) ∧ Below X.heap.size X w' := fun X hX => by
    have := implMachFrames_any _ _ _ _ M X (IV.below hX) (by omega) (by omega)
    rw [hfr] at this
    exact this
  have C6 : ∀ X, Below w9.drew.heap.size w9.drew X → Calls Try.prog 17 #[.agg #[.int .i64 M.cells, .slice aI1 M.pages.length cI1, .slice aI2 M.order.length cI2, .int .i64 M.now, .slice aI3 M.twins.length cI3, .int .i64 M.born, .slice aI4 M.said.length cI4, .int .i64 M.code]] X fun e w' => e = .returned (.int .i64 0) ∧ Below X.heap.size X w' := fun X hX => by
    have := implMachTwins_any _ _ _ _ M X (IV.below hX) (by omega)
    rw [hon] at this
    exact this
  have D0 := KC w9.drew (Below.refl _ _)
  clear hok2 htl htd hvw htw hfr hon hsh hsm hns xV qV hV9 MV IV HV
  have hpe : ((M.pages.length : Int) == (n : Int)) = true := by rw [hpl]; simp
  clear hpl
  go_wp2_with fail
  go_region_held3 (fun w' => w'.cell? ⟨w1.heap.size, 0, none⟩ = some (.slice aV ms.length cV) ∧ w'.cell? ⟨w5.heap.size, 0, none⟩ = some (.int .i64 M.cells) ∧ w'.cell? ⟨w5.heap.size, 1, none⟩ = some (.slice aI1 M.pages.length cI1) ∧ w'.cell? ⟨w5.heap.size, 2, none⟩ = some (.slice aI2 M.order.length cI2) ∧ w'.cell? ⟨w5.heap.size, 3, none⟩ = some (.int .i64 M.now) ∧ w'.cell? ⟨w5.heap.size, 4, none⟩ = some (.slice aI3 M.twins.length cI3) ∧ w'.cell? ⟨w5.heap.size, 5, none⟩ = some (.int .i64 M.born) ∧ w'.cell? ⟨w5.heap.size, 6, none⟩ = some (.slice aI4 M.said.length cI4) ∧ w'.cell? ⟨w5.heap.size, 7, none⟩ = some (.int .i64 M.code) ∧ w'.cell? ⟨w8.heap.size, 0, none⟩ = some (.slice ah NH.calls.length ch) ∧ w'.cell? ⟨w8.heap.size, 1, none⟩ = some (.int .i64 NH.now) ∧ w'.cell? ⟨w8.heap.size, 2, none⟩ = some (.int .i64 NH.born) ∧ w'.cell? ⟨w8.heap.size, 3, none⟩ = some (.slice sh NH.said.length cs) ∧ w'.cell? ⟨w8.heap.size, 4, none⟩ = some (.int .i64 NH.code))
    (first | exact D6.out | exact D5.out | exact D4.out | exact D3.out | exact D2.out | exact D1.out | exact D0.out | go_keep)
    ((first
      | (have hx := h5; clear hx; go_at_call 17; refine (C6 _ h5).mono ?_; rintro e k6 ⟨rfl, t6⟩; have h6 := h5.trans (t6.mono h5.size); have D6 := KC _ h6)
      | (have hx := h4; clear hx; go_at_call 16; refine (C5 _ h4).mono ?_; rintro e k5 ⟨rfl, t5⟩; have h5 := h4.trans (t5.mono h4.size); have D5 := KC _ h5)
      | (have hx := h3; clear hx; go_at_call 13; refine (lmCalls_same _ _ (viewL NH) _ (hA2.below t3) hA3).mono ?_; rintro e k4 ⟨rfl, t4⟩; have h4 := h3.trans (t4.mono h3.size); have D4 := KC _ h4)
      | (have hx := h2; clear hx; go_at_call 15; refine (C3 _ h2).mono ?_; rintro e k3 ⟨aM3, kM3, rfl, hA3, t3⟩; have h3 := h2.trans (t3.mono h2.size); have D3 := KC _ h3)
      | (have hx := h1; clear hx; go_at_call 14; refine (C2 _ h1).mono ?_; rintro e k2 ⟨aM2, kM2, rfl, hA2, t2⟩; have h2 := h1.trans (t2.mono h1.size); have D2 := KC _ h2)
      | (go_at_call 12; refine (C1 _ (Below.refl _ _)).mono ?_; rintro e k1 ⟨rfl, t1⟩; have h1 := t1; have D1 := KC _ h1)))
  all_goals
    have hB := HB.out.trans (h6.mono zV)
    go_wp2
    go_ret
    exact ⟨rfl, hB⟩
end Go.Proofs.Ytldiccheboipeaa
