/-
  The law FnExactMoveIn, walked: whatever program and heap, and whatever two numbers come in, it answers true and writes to nothing that was there. (Written by mkexmv.py.)
-/
import Derived.Test.YtmifhlkcceafkaaGreatSize
import Derived.Test.YtmifhlkcceafkaaGreatHSame
import Derived.Test.YtmifhlkcceafkaaGreatHPlain
import Derived.Test.YtmifhlkcceafkaaGreatMSame
import Derived.Test.YtmifhlkcceafkaaGreatDeepM
import Derived.Test.YtmifhlkcceafkaaGreatMarks
import Derived.Test.YtmifhlkcceafkaaGreatMvAns
import Derived.Deep.RegionHeld3

namespace Go.Proofs.YtmifhlkcceafkaaGreat
open Go.RowKit
theorem Mid.belowX {B C B0 : Nat} {w0 w w' : World} (h : Mid B C w w') (hb : Below B0 w0 w) (h0 : B0 ≤ w0.heap.size) (h1 : B0 ≤ B) : Below B0 w0 w' :=
  ⟨h.os.trans hb.os, h.tape.trans hb.tape, h.output.trans hb.output, Nat.le_trans hb.size h.size, fun k hk => (h.block k (by have := hb.size; omega) (.inl (by omega))).trans (hb.block k hk)⟩
set_option maxRecDepth 100000 in
set_option maxHeartbeats 8000000 in
theorem lawMoveInX_any (v vc vs : Value) (ms : List (Int × Int × List (Int × Int))) (h : Hp) (rr cc : Int) (wI : World) (hm : MethsAt wI v ms) (hh : HeapAt wI vc vs h) :
    Calls Tryz.prog 3 #[.agg #[v], .agg (hpCells vc vs h), .int .i64 rr, .int .i64 cc] wI fun e w' => e = .returned (.bool true) ∧ Below wI.heap.size wI w' := by
  obtain ⟨aS, cap, hv, hvx⟩ := id hm
  clear hvx
  obtain ⟨ac, kc, hvc⟩ := hh.c.shape
  obtain ⟨aD, kD, hvs⟩ := hh.s.shape
  subst hv hvc hvs
  unfold hpCells
  have hA : Below wI.heap.size wI ((wI.alloc (.cells #[.slice aS ms.length cap] 24)).alloc (.cells #[.slice ac h.calls.length kc, .int .i64 h.now, .int .i64 h.born, .slice aD h.said.length kD, .int .i64 h.code] 28)) := ((Below.refl _ _).alloc (Nat.le_refl _) _).alloc (by simp) _
  have bx : ((wI.alloc (.cells #[.slice aS ms.length cap] 24)).alloc (.cells #[.slice ac h.calls.length kc, .int .i64 h.now, .int .i64 h.born, .slice aD h.said.length kD, .int .i64 h.code] 28)).cell? ⟨wI.heap.size, 0, none⟩ = some (.slice aS ms.length cap) := by simp [go_sem]
  have bh := five_new (wI.alloc (.cells #[.slice aS ms.length cap] 24)) 28 (.slice ac h.calls.length kc) (.int .i64 h.now) (.int .i64 h.born) (.slice aD h.said.length kD) (.int .i64 h.code)
  simp only [World.size_alloc] at bh
  go_enter Tryz.func3, Tryz.ntmps3
  go_wp2_with fail
  generalize (wI.alloc (.cells #[.slice aS ms.length cap] 24)).alloc (.cells #[.slice ac h.calls.length kc, .int .i64 h.now, .int .i64 h.born, .slice aD h.said.length kD, .int .i64 h.code] 28) = W0 at *
  have z0 := hA.size
  refine (szProg_any _ ms _ _ (hm.below hA) (by omega) (by omega)).mono ?_
  rintro e w1 ⟨r, rfl, hr1, hr0, hb1⟩
  have B1 : Below wI.heap.size wI w1 := hA.trans (hb1.mono z0)
  have bx1 := cell_below hb1 bx
  have bh1 := row_below hb1 bh
  have HR : Hid (0 ≤ r → ms.length ≤ 1048576 ∧ ∀ i, (hi : i < ms.length) → ms[i].2.2.length ≤ 1048576) := hr0
  clear hr0 hb1 bx bh hA z0
  by_cases hr : r < 0
  · go_wp2
    go_ret
    exact ⟨rfl, B1⟩
  have hr' : 0 ≤ r := by omega
  have HN : Hid (ms.length ≤ 1048576 ∧ ∀ i, (hi : i < ms.length) → ms[i].2.2.length ≤ 1048576) := HR.out hr'
  clear HR
  have z1 := B1.size
  obtain ⟨⟨x0, x1, x2, x3, x4⟩, xf⟩ := five_cells bh1
  clear xf
  go_wp2_with fail
  refine (szHeap_any h _ _ _ _ (hh.below B1) hr' hr1).mono ?_
  rintro e w2 ⟨r2, rfl, hq1, hq0, hb2⟩
  have B2 : Below wI.heap.size wI w2 := B1.trans (hb2.mono z1)
  have bx2 := cell_below hb2 bx1
  have bh2 := row_below hb2 bh1
  have HS0 : Hid (0 ≤ r2 → h.small) := hq0
  clear hq0 hb2 bx1 bh1 B1 z1 x0 x1 x2 x3 x4
  by_cases hq : r2 < 0
  · go_wp2
    go_ret
    exact ⟨rfl, B2⟩
  have hq' : 0 ≤ r2 := by omega
  have HSM : Hid h.small := HS0.out hq'
  clear HS0
  have z2 := B2.size
  have B2d : Below wI.heap.size wI w2.drew := B2.drew
  have z2d := B2d.size
  have C2 : Hid (w2.cell? ⟨wI.heap.size, 0, none⟩ = some (.slice aS ms.length cap) ∧ w2.cell? ⟨wI.heap.size + 1, 0, none⟩ = some (.slice ac h.calls.length kc) ∧ w2.cell? ⟨wI.heap.size + 1, 1, none⟩ = some (.int .i64 h.now) ∧ w2.cell? ⟨wI.heap.size + 1, 2, none⟩ = some (.int .i64 h.born) ∧ w2.cell? ⟨wI.heap.size + 1, 3, none⟩ = some (.slice aD h.said.length kD) ∧ w2.cell? ⟨wI.heap.size + 1, 4, none⟩ = some (.int .i64 h.code)) := ⟨bx2, (five_cells bh2).1⟩
  have bh2d : w2.drew.rowIs (wI.heap.size + 1) 28 5 (five (.slice ac h.calls.length kc) (.int .i64 h.now) (.int .i64 h.born) (.slice aD h.said.length kD) (.int .i64 h.code)) := bh2
  have M2 := hm.below B2d
  have H2 := hh.below B2d
  obtain ⟨⟨x0, x1, x2, x3, x4⟩, xf⟩ := five_cells bh2
  clear xf
  clear x0 x1 x2 x3 x4 M2 H2 bh2d C2 z2d B2d
  have hlm : h.calls.length ≤ maxLen := by { have := HSM.out.1; unfold maxLen; omega }
  have HSR := fun vp vc vs W h1 h2 => specMoveIn_x vp vc vs ms h rr cc W h1 h2 HSM.out
  have HIR := fun vp vc vs W h1 h2 => implMoveIn_x vp vc vs ms h rr cc W h1 h2 HSM.out
  obtain ⟨M, hM⟩ : ∃ M : Mc, mvAns ms h rr cc = M := ⟨_, rfl⟩
  obtain ⟨okb, hokb⟩ : ∃ okb : Bool, (heapOk ms h && roomsB rr cc) = okb := ⟨_, rfl⟩
  rw [hM, hokb] at HSR HIR
  clear hM hokb
  go_upto_region 8 with fail
  refine wp_region_fs [[], [0], [], [0, 1, 2], [], [], [0, 1, 2, 3, 4, 5], [0, 1, 2, 3, 4, 5, 6], [0, 1, 2, 3, 4, 5, 6, 7], [0, 1, 2, 3, 4, 5, 6, 7], [], [0, 1, 2, 3, 4, 5, 6, 7, 8, 10], [0, 1, 2, 3, 4, 5, 6, 7, 8, 9, 10, 11]] [[0], [1], [2], [3], [4], [5], [6], [7, 6], [8, 7], [9], [10], [10, 8], [12]] [[], [], [], [], [], [], [], [], [], [], [], [10], []] [fIs (.agg #[.slice aS ms.length cap]), fGh 1 (fun (x : Value) l => l = [.agg #[x]]) (fun x w1 => MethsAt w1 x ms), fIs (.agg #[.slice ac h.calls.length kc, .int .i64 h.now, .int .i64 h.born, .slice aD h.said.length kD, .int .i64 h.code]), fGh 3 (fun (x : Nat × Nat) l => l = [.agg (hpCells (full x.1 h.calls.length) (full x.2 h.said.length) h)]) (fun x w1 => HeapAt w1 (full x.1 h.calls.length) (full x.2 h.said.length) h), fIs (.int .i64 rr), fIs (.int .i64 cc), fGh 6 (fun (x : MX) l => l = [.tuple #[.agg #[.int .i64 M.cells, .slice x.a1 M.pages.length x.k1, .slice x.a2 M.order.length x.k2, .int .i64 M.now, .slice x.a3 M.twins.length x.k3, .int .i64 M.born, .slice x.a4 M.said.length x.k4, .int .i64 M.code], .bool okb]]) (fun x w1 => MachAt w1 (.slice x.a1 M.pages.length x.k1) (.slice x.a2 M.order.length x.k2) (.slice x.a3 M.twins.length x.k3) (.slice x.a4 M.said.length x.k4) M), fOf fun l => l.getD 0 undef = l.getD 1 undef, fOf fun l => l.getD 0 undef = tget (l.getD 1 undef) 0, fIs (.bool okb), fBox 10 36 8, fRow 10 36 8 fun b f l => l.getD 0 undef = .pointer (some ⟨b, 0, none⟩) ∧ f = fun q => (l.getD 1 undef).cells.toList.getD q undef, fIs (.bool okb)] 13 rfl (by kernel_rfl) (by kernel_rfl) ?_ ?_
  · refine all_lt_succ (all_lt_succ (all_lt_succ (all_lt_succ (all_lt_succ (all_lt_succ (all_lt_succ (all_lt_succ (all_lt_succ (all_lt_succ (all_lt_succ (all_lt_succ (all_lt_succ (all_lt_zero) ?_) ?_) ?_) ?_) ?_) ?_) ?_) ?_) ?_) ?_) ?_) ?_) ?_
    · intro a w val own hB hf hown hk
      have s4 := hf.at (d := 4) (v := .pointer (some ⟨wI.heap.size, 0, none⟩)) (by kernel_rfl) rfl
      have c0 := cell_below hB bx2
      exact rf_pure (v := .agg #[.slice aS ms.length cap]) hB rfl rfl (by unfold execOp; go_simp) rfl
    · intro a w val own hB hf hown hk
      obtain ⟨k0, f0⟩ := hk 0 (show 0 ∈ [0] by decide)
      have s32 := k0 32 rfl
      rw [fIs_out f0] at s32
      clear k0 f0
      exact rf_call hB rfl rfl (by unfold execOp; go_simp) ((toProg_any _ ms w (hm.below (B2.trans (hB.mono z2))) HN.out.1 HN.out.2).mono fun e w' ⟨v', he, hn, hb, _, _⟩ => ⟨_, he, hb, v', rfl, Made.new fun w1 _ _ hr => hn.kept hr⟩)
    · intro a w val own hB hf hown hk
      have s5 := hf.at (d := 5) (v := .pointer (some ⟨wI.heap.size + 1, 0, none⟩)) (by kernel_rfl) rfl
      obtain ⟨⟨c0, c1, c2, c3, c4⟩, _⟩ := five_cells (row_below hB bh2)
      exact rf_pure (v := .agg #[.slice ac h.calls.length kc, .int .i64 h.now, .int .i64 h.born, .slice aD h.said.length kD, .int .i64 h.code]) hB rfl rfl (by unfold execOp; go_simp) rfl
    · intro a w val own hB hf hown hk
      obtain ⟨k2, f2⟩ := hk 2 (show 2 ∈ [0, 1, 2] by decide)
      have s34 := k2 34 rfl
      rw [fIs_out f2] at s34
      clear k2 f2
      exact rf_call hB rfl rfl (by unfold execOp hpCells; go_simp) ((toHeap_any h (.slice ac h.calls.length kc) (.slice aD h.said.length kD) w (hh.below (B2.trans (hB.mono z2))) HSM.out).mono fun e w' ⟨g, s, G, he, hg, hN, hb, hnf⟩ => ⟨_, he, hb, (g, s), rfl, Made.new fun w1 hs _ hr => hN.kept hg hnf hlm hs hr⟩)
    · intro a w val own hB hf hown hk
      have s2 := hf.at (d := 2) (v := .int .i64 rr) (by kernel_rfl) rfl
      exact rf_pure (v := .int .i64 rr) hB rfl rfl (by unfold execOp; go_simp) rfl
    · intro a w val own hB hf hown hk
      have s3 := hf.at (d := 3) (v := .int .i64 cc) (by kernel_rfl) rfl
      exact rf_pure (v := .int .i64 cc) hB rfl rfl (by unfold execOp; go_simp) rfl
    · intro a w val own hB hf hown hk
      obtain ⟨k1, vp1, e1, m1⟩ := hk 1 (show 1 ∈ [0, 1, 2, 3, 4, 5] by decide)
      have v1 := one_eq e1
      have s33 := k1 33 rfl
      rw [v1] at s33
      clear k1 e1
      obtain ⟨k3, vh3, e3, m3⟩ := hk 3 (show 3 ∈ [0, 1, 2, 3, 4, 5] by decide)
      have v3 := one_eq e3
      have s35 := k3 35 rfl
      rw [v3] at s35
      clear k3 e3
      obtain ⟨k4, f4⟩ := hk 4 (show 4 ∈ [0, 1, 2, 3, 4, 5] by decide)
      have s36 := k4 36 rfl
      rw [fIs_out f4] at s36
      clear k4 f4
      obtain ⟨k5, f5⟩ := hk 5 (show 5 ∈ [0, 1, 2, 3, 4, 5] by decide)
      have s37 := k5 37 rfl
      rw [fIs_out f5] at s37
      clear k5 f5
      exact rf_call hB rfl rfl (by unfold execOp; go_simp) ((HSR vp1 _ _ w (m1.here hB) (m3.here hB)).mono fun e w' ⟨⟨x, he, ho⟩, hb⟩ => ⟨_, he, hb, x, rfl, Made.new fun w1 hs _ hr => ho w1 hs hr⟩)
    · intro a w val own hB hf hown hk
      have s38 := (hk 6 (show 6 ∈ [0, 1, 2, 3, 4, 5, 6] by decide)).1 38 rfl
      exact rf_pure (v := val 6) hB rfl rfl (by unfold execOp; go_simp) rfl
    · intro a w val own hB hf hown hk
      obtain ⟨k6, xh, e6, m6⟩ := hk 6 (show 6 ∈ [0, 1, 2, 3, 4, 5, 6, 7] by decide)
      have v6 := one_eq e6
      have s38 := k6 38 rfl
      rw [v6] at s38
      clear k6 e6
      obtain ⟨k7, f7⟩ := hk 7 (show 7 ∈ [0, 1, 2, 3, 4, 5, 6, 7] by decide)
      have v7 : val 7 = _ := Eq.trans f7 v6
      have s31 := k7 31 rfl
      rw [v7] at s31
      clear k7 f7
      exact rf_pure (v := .agg #[.int .i64 M.cells, .slice xh.a1 M.pages.length xh.k1, .slice xh.a2 M.order.length xh.k2, .int .i64 M.now, .slice xh.a3 M.twins.length xh.k3, .int .i64 M.born, .slice xh.a4 M.said.length xh.k4, .int .i64 M.code]) hB rfl rfl (by unfold execOp; go_simp) (by show _ = tget (val 7) 0; rw [v7]; rfl)
    · intro a w val own hB hf hown hk
      obtain ⟨k6, xh, e6, m6⟩ := hk 6 (show 6 ∈ [0, 1, 2, 3, 4, 5, 6, 7] by decide)
      have v6 := one_eq e6
      have s38 := k6 38 rfl
      rw [v6] at s38
      clear k6 e6
      obtain ⟨k7, f7⟩ := hk 7 (show 7 ∈ [0, 1, 2, 3, 4, 5, 6, 7] by decide)
      have v7 : val 7 = _ := Eq.trans f7 v6
      have s31 := k7 31 rfl
      rw [v7] at s31
      clear k7 f7
      exact rf_pure (v := .bool okb) hB rfl rfl (by unfold execOp; go_simp) rfl
    · intro a w val own hB hf hown hk
      exact rf_new (v := .pointer (some ⟨w.heap.size, 0, none⟩)) (w' := w.alloc (.cells #[.int .i64 0, .slice none 0 0, .slice none 0 0, .int .i64 0, .slice none 0 0, .int .i64 0, .slice none 0 0, .int .i64 0] 36)) hB rfl rfl (by unfold execOp; go_simp) ((Below.refl _ _).alloc (Nat.le_refl _) _) (fBox_new hB #[.int .i64 0, .slice none 0 0, .slice none 0 0, .int .i64 0, .slice none 0 0, .int .i64 0, .slice none 0 0, .int .i64 0])
    · intro a w val own hB hf hown hk
      obtain ⟨k10, bo10, g10, e10, ho10, hW10, r10⟩ := hk 10 (show 10 ∈ [0, 1, 2, 3, 4, 5, 6, 7, 8, 10] by decide)
      have v10 := one_eq e10
      have s10 := k10 10 rfl
      rw [v10] at s10
      clear k10 e10
      obtain ⟨k6, xh, e6, m6⟩ := hk 6 (show 6 ∈ [0, 1, 2, 3, 4, 5, 6, 7, 8, 10] by decide)
      have v6 := one_eq e6
      have s38 := k6 38 rfl
      rw [v6] at s38
      clear k6 e6
      obtain ⟨k7, f7⟩ := hk 7 (show 7 ∈ [0, 1, 2, 3, 4, 5, 6, 7, 8, 10] by decide)
      have v7 : val 7 = _ := Eq.trans f7 v6
      have s31 := k7 31 rfl
      rw [v7] at s31
      clear k7 f7
      obtain ⟨k8, f8⟩ := hk 8 (show 8 ∈ [0, 1, 2, 3, 4, 5, 6, 7, 8, 10] by decide)
      have v8 : val 8 = .agg #[.int .i64 M.cells, .slice xh.a1 M.pages.length xh.k1, .slice xh.a2 M.order.length xh.k2, .int .i64 M.now, .slice xh.a3 M.twins.length xh.k3, .int .i64 M.born, .slice xh.a4 M.said.length xh.k4, .int .i64 M.code] := by have e : val 8 = tget (val 7) 0 := f8; rw [e, v7]; rfl
      have s39 := k8 39 rfl
      rw [v8] at s39
      clear k8 f8
      have c0 := r10.cell (i := 0) (by decide)
      have c1 := r10.cell (i := 1) (by decide)
      have c2 := r10.cell (i := 2) (by decide)
      have c3 := r10.cell (i := 3) (by decide)
      have c4 := r10.cell (i := 4) (by decide)
      have c5 := r10.cell (i := 5) (by decide)
      have c6 := r10.cell (i := 6) (by decide)
      have c7 := r10.cell (i := 7) (by decide)
      have z0 := r10.frozen 0
      have z1 := r10.frozen 1
      have z2 := r10.frozen 2
      have z3 := r10.frozen 3
      have z4 := r10.frozen 4
      have z5 := r10.frozen 5
      have z6 := r10.frozen 6
      have z7 := r10.frozen 7
      exact rf_set (w' := setAll w bo10 0 [.int .i64 M.cells, .slice xh.a1 M.pages.length xh.k1, .slice xh.a2 M.order.length xh.k2, .int .i64 M.now, .slice xh.a3 M.twins.length xh.k3, .int .i64 M.born, .slice xh.a4 M.said.length xh.k4, .int .i64 M.code]) rfl rfl (by unfold execOp; simp only [setAll]; go_simp) (setAll_does (show own bo10 ∈ [10] by rw [ho10]; decide) hW10 _ 0 hB) (fRow_set [.int .i64 M.cells, .slice xh.a1 M.pages.length xh.k1, .slice xh.a2 M.order.length xh.k2, .int .i64 M.now, .slice xh.a3 M.twins.length xh.k3, .int .i64 M.born, .slice xh.a4 M.said.length xh.k4, .int .i64 M.code] r10 ho10 hW10 rfl ⟨v10, by show _ = fun q => (val 8).cells.toList.getD q undef; rw [v8]; rfl⟩)
    · intro a w val own hB hf hown hk
      obtain ⟨k9, f9⟩ := hk 9 (show 9 ∈ [0, 1, 2, 3, 4, 5, 6, 7, 8, 9, 10, 11] by decide)
      have s40 := k9 40 rfl
      rw [fIs_out f9] at s40
      clear k9 f9
      exact rf_pure (v := .bool okb) hB rfl rfl (by unfold execOp; go_simp) rfl
  intro a w4 val own hB hf hown hk
  obtain ⟨k10, bo10, g10, e10, ho10, hW10, r10⟩ := hk 10 (by decide)
  have v10 := one_eq e10
  have s10 := k10 10 rfl
  rw [v10] at s10
  clear k10 e10
  obtain ⟨k6, xh, e6, m6⟩ := hk 6 (by decide)
  have v6 := one_eq e6
  have s38 := k6 38 rfl
  rw [v6] at s38
  clear k6 e6
  obtain ⟨k7, f7⟩ := hk 7 (by decide)
  have v7 : val 7 = _ := Eq.trans f7 v6
  have s31 := k7 31 rfl
  rw [v7] at s31
  clear k7 f7
  obtain ⟨k8, f8⟩ := hk 8 (by decide)
  have v8 : val 8 = .agg #[.int .i64 M.cells, .slice xh.a1 M.pages.length xh.k1, .slice xh.a2 M.order.length xh.k2, .int .i64 M.now, .slice xh.a3 M.twins.length xh.k3, .int .i64 M.born, .slice xh.a4 M.said.length xh.k4, .int .i64 M.code] := by have e : val 8 = tget (val 7) 0 := f8; rw [e, v7]; rfl
  have s39 := k8 39 rfl
  rw [v8] at s39
  clear k8 f8
  obtain ⟨_, bo11, g11, ⟨e11, hg11⟩, _, _, r11⟩ := hk 11 (by decide)
  have q11 : bo11 = bo10 := by have e : val 10 = _ := e11; rw [v10] at e; injection e with e; injection e with e; injection e with e; exact e.symm
  subst q11
  have hg11 : g11 = fun q => (val 8).cells.toList.getD q undef := hg11
  rw [v8] at hg11
  subst hg11
  have r11 : w4.rowIs bo11 _ _ (fun q => [.int .i64 M.cells, .slice xh.a1 M.pages.length xh.k1, .slice xh.a2 M.order.length xh.k2, .int .i64 M.now, .slice xh.a3 M.twins.length xh.k3, .int .i64 M.born, .slice xh.a4 M.said.length xh.k4, .int .i64 M.code].getD q undef) := r11
  clear e11
  obtain ⟨k12, f12⟩ := hk 12 (by decide)
  have s11 := k12 11 rfl
  rw [fIs_out f12] at s11
  clear k12 f12
  have hh4 := m6.here hB
  have rW4 : Bx w4 bo11 36 [.int .i64 M.cells, .slice xh.a1 M.pages.length xh.k1, .slice xh.a2 M.order.length xh.k2, .int .i64 M.now, .slice xh.a3 M.twins.length xh.k3, .int .i64 M.born, .slice xh.a4 M.said.length xh.k4, .int .i64 M.code] := r11
  clear m6 r11
  have s2 := hf.at (d := 2) (v := .int .i64 rr) (by kernel_rfl) rfl
  have s3 := hf.at (d := 3) (v := .int .i64 cc) (by kernel_rfl) rfl
  have s4 := hf.at (d := 4) (v := .pointer (some ⟨wI.heap.size, 0, none⟩)) (by kernel_rfl) rfl
  have s5 := hf.at (d := 5) (v := .pointer (some ⟨wI.heap.size + 1, 0, none⟩)) (by kernel_rfl) rfl
  obtain ⟨u, hu0, hv⟩ := frame_any a.tmps (n := 129) hf.size
  have hu : a.tmps = (u 0 :: u 1 :: u 2 :: u 3 :: u 4 :: u 5 :: u 6 :: u 7 :: u 8 :: u 9 :: u 10 :: u 11 :: u 12 :: u 13 :: u 14 :: u 15 :: u 16 :: u 17 :: u 18 :: u 19 :: u 20 :: u 21 :: u 22 :: u 23 :: u 24 :: u 25 :: u 26 :: u 27 :: u 28 :: u 29 :: u 30 :: u 31 :: u 32 :: u 33 :: u 34 :: u 35 :: u 36 :: u 37 :: u 38 :: u 39 :: u 40 :: u 41 :: u 42 :: u 43 :: u 44 :: u 45 :: u 46 :: u 47 :: u 48 :: u 49 :: u 50 :: u 51 :: u 52 :: u 53 :: u 54 :: u 55 :: u 56 :: u 57 :: u 58 :: u 59 :: u 60 :: u 61 :: u 62 :: u 63 :: u 64 :: u 65 :: u 66 :: u 67 :: u 68 :: u 69 :: u 70 :: u 71 :: u 72 :: u 73 :: u 74 :: u 75 :: u 76 :: u 77 :: u 78 :: u 79 :: u 80 :: u 81 :: u 82 :: u 83 :: u 84 :: u 85 :: u 86 :: u 87 :: u 88 :: u 89 :: u 90 :: u 91 :: u 92 :: u 93 :: u 94 :: u 95 :: u 96 :: u 97 :: u 98 :: u 99 :: u 100 :: u 101 :: u 102 :: u 103 :: u 104 :: u 105 :: u 106 :: u 107 :: u 108 :: u 109 :: u 110 :: u 111 :: u 112 :: u 113 :: u 114 :: u 115 :: u 116 :: u 117 :: u 118 :: u 119 :: u 120 :: u 121 :: u 122 :: u 123 :: u 124 :: u 125 :: u 126 :: u 127 :: u 128 :: []).toArray := hu0
  rw [(hv 2).trans s2, (hv 3).trans s3, (hv 4).trans s4, (hv 5).trans s5, (hv 10).trans s10, (hv 11).trans s11] at hu
  obtain rfl := act_eq hu (show a.defers = [] from hf.defers)
  clear hu hu0 hv hk hown hf s2 s3 s4 s5 s10 s11
  obtain ⟨aW1, kW1, aW2, kW2, aW3, kW3, aW4, kW4⟩ := xh
  dsimp only at hh4 rW4
  generalize bo11 = bW at *
  have B4 : Below wI.heap.size wI w4 := B2.trans (hB.mono z2)
  have bx4 := cell_below hB bx2
  have bh4 := row_below hB bh2
  clear bx2 bh2 B2 z2 hB
  have HH4 : Hid (MachAt w4 (.slice aW1 M.pages.length kW1) (.slice aW2 M.order.length kW2) (.slice aW3 M.twins.length kW3) (.slice aW4 M.said.length kW4) M) := hh4
  have HX4 : Hid (w4.cell? ⟨wI.heap.size, 0, none⟩ = some (.slice aS ms.length cap)) := bx4
  have HY4 : Hid (w4.rowIs (wI.heap.size + 1) 28 5 (five (.slice ac h.calls.length kc) (.int .i64 h.now) (.int .i64 h.born) (.slice aD h.said.length kD) (.int .i64 h.code))) := bh4
  have HW4 : Hid (Bx w4 bW 36 [.int .i64 M.cells, .slice aW1 M.pages.length kW1, .slice aW2 M.order.length kW2, .int .i64 M.now, .slice aW3 M.twins.length kW3, .int .i64 M.born, .slice aW4 M.said.length kW4, .int .i64 M.code]) := rW4
  have HB4 : Hid (Below wI.heap.size wI w4) := B4
  have z4 := B4.size
  have yW := rW4.lt
  clear hh4 rW4 bh4
  go_wp2_with fail
  refine (toProg_any _ ms _ (hm.below B4) HN.out.1 HN.out.2).mono ?_
  rintro e w5 ⟨v5, rfl, hm5, hb5, hnf5, hhi5⟩
  have HM5 : Hid (MethsNew w4.heap.size w5 v5 ms ∧ NF w4.heap.size w5 ∧ MethsHi w5 v5 ms) := ⟨hm5, hnf5, hhi5⟩
  obtain ⟨g5, l5, c5, hv5, _⟩ := hm5.own
  subst hv5
  have L5 := hb5
  have y5 := hb5.size
  clear hm5 hnf5 hhi5 hb5 B4 bx4
  go_upto_region 10 with fail
  have N5 := (Below.refl w5.heap.size w5).alloc (Nat.le_refl _) (.cells #[.slice (some ⟨g5, 0, none⟩) l5 c5] 41)
  have by6 : (w5.alloc (.cells #[.slice (some ⟨g5, 0, none⟩) l5 c5] 41)).cell? ⟨w5.heap.size, 0, none⟩ = some (.slice (some ⟨g5, 0, none⟩) l5 c5) := by simp [go_sem]
  generalize w5.alloc (.cells #[.slice (some ⟨g5, 0, none⟩) l5 c5] 41) = w6 at *
  have y6 : w5.heap.size < w6.heap.size := World.block_lt_of_cell? _ _ by6
  have L6 := L5.trans (N5.mono y5)
  obtain ⟨⟨x0, x1, x2, x3, x4⟩, xf⟩ := five_cells (row_below L6 HY4.out)
  clear xf
  go_wp2_with fail
  refine (toHeap_any h _ _ _ (hh.below (HB4.out.trans (L6.mono z4))) HSM.out).mono ?_
  rintro e w7 ⟨g7, s7, G7, rfl, hg7, hN7, hb7, hnf7⟩
  obtain ⟨V7, hx7⟩ : ∃ V, OwnHeap w6.heap.size w7 (full g7 h.calls.length) (full s7 h.said.length) h V := ⟨_, hN7.own hg7 hnf7 hlm⟩
  have by7 := cell_below hb7 by6
  have U7 := N5.trans (hb7.mono (Nat.le_of_lt y6))
  have y7 := hb7.size
  clear hN7 hb7 hnf7 hg7 by6 N5 L6 x0 x1 x2 x3 x4
  unfold hpCells full
  unfold full at hx7
  have HX7 : Hid (∀ g, HeapBlocks (.slice (some ⟨g7, 0, none⟩) h.calls.length h.calls.length) (.slice (some ⟨s7, 0, none⟩) h.said.length h.said.length) h.calls.length V7 g → w6.heap.size ≤ g ∧ g < w7.heap.size) := fun g hg => hx7.lt hg
  go_upto_region 11 with fail
  have N7 := (Below.refl w7.heap.size w7).alloc (Nat.le_refl _) (.cells #[.slice (some ⟨g7, 0, none⟩) h.calls.length h.calls.length, .int .i64 h.now, .int .i64 h.born, .slice (some ⟨s7, 0, none⟩) h.said.length h.said.length, .int .i64 h.code] 45)
  have yr8 := five_new w7 45 (.slice (some ⟨g7, 0, none⟩) h.calls.length h.calls.length) (.int .i64 h.now) (.int .i64 h.born) (.slice (some ⟨s7, 0, none⟩) h.said.length h.said.length) (.int .i64 h.code)
  have by8 := cell_below N7 by7
  have hx8 := hx7.below N7
  have U8 := U7.trans (N7.mono (by omega))
  generalize w7.alloc (.cells #[.slice (some ⟨g7, 0, none⟩) h.calls.length h.calls.length, .int .i64 h.now, .int .i64 h.born, .slice (some ⟨s7, 0, none⟩) h.said.length h.said.length, .int .i64 h.code] 45) = w8 at *
  have y8 := yr8.lt
  have L8 := L5.trans (U8.mono y5)
  clear N7 by7 hx7 U7
  obtain ⟨⟨x0, x1, x2, x3, x4⟩, xf⟩ := five_cells yr8
  clear xf
  have HC := HIR _ _ _ w8 (HM5.out.1.at.below U8) hx8.at
  unfold hpCells at HC
  go_wp2_with fail
  refine HC.mono ?_
  rintro e w9 ⟨⟨⟨i1, j1, i2, j2, i3, j3, i4, j4⟩, rfl, Blk, K9, Mk, hA9⟩, hb9⟩
  dsimp only at hA9
  have by9 := cell_below hb9 by8
  have hx9 := hx8.below hb9
  have yr9 := row_below hb9 yr8
  have U9 := U8.trans (hb9.mono (by omega))
  have y9 := hb9.size
  have HA : Hid (IAns w8.heap.size w9 M (.slice i1 M.pages.length j1) (.slice i2 M.order.length j2) (.slice i3 M.twins.length j3) (.slice i4 M.said.length j4) Blk K9 Mk) := hA9
  have HLT : Hid (∀ g, Blk g → w8.heap.size ≤ g ∧ g < w9.heap.size) := hA9.lt
  have hK9 : ¬ K9 < 0 := by have := hA9.k0; omega
  clear HC x0 x1 x2 x3 x4 hb9 by8 hx8 yr8 U8 L8 hA9
  go_upto_region 12 with fail
  refine wp_gen (fun W => Below w9.heap.size w9 W ∧ Bx W w9.heap.size 36 [.int .i64 M.cells, .slice i1 M.pages.length j1, .slice i2 M.order.length j2, .int .i64 M.now, .slice i3 M.twins.length j3, .int .i64 M.born, .slice i4 M.said.length j4, .int .i64 M.code]) ⟨(Below.refl _ _).alloc (Nat.le_refl _) _, Bx.new _ _ _⟩ ?_
  rintro wA ⟨N9, gzA⟩
  have byA := cell_below N9 by9
  have kA : ∀ g, Blk g → wA.heap[g]? = w9.heap[g]? := fun g hg => N9.block g (HLT.out g hg).2
  have hxA := hx9.below N9
  have yrA := row_below N9 yr9
  have UA := U9.trans (N9.mono (by omega))
  have yA := gzA.lt
  have zA9 := N9.size
  clear N9 by9 hx9 yr9 U9
  have LA : Below w4.heap.size w4 wA := L5.trans (UA.mono y5)
  have hIA := (HA.out.stay wA zA9 kA).1
  have hSA := HH4.out.below LA
  obtain ⟨⟨u0, u1, u2, u3, u4, u5, u6, u7⟩, _⟩ := bx8 gzA
  obtain ⟨⟨t0, t1, t2, t3, t4, t5, t6, t7⟩, _⟩ := bx8 (HW4.out.below LA)
  go_wp2_with fail
  refine (eqMach_same M _ _ _ _ _ _ _ _ _ hIA.p hIA.o hIA.t hIA.s hSA.p hSA.o hSA.t hSA.s).mono ?_
  rintro e wB ⟨rfl, hbB⟩
  clear u0 u1 u2 u3 u4 u5 u6 u7 t0 t1 t2 t3 t4 t5 t6 t7 hIA hSA
  have LB := LA.trans (hbB.mono (by omega))
  have BB := HB4.out.trans (LB.mono z4)
  have UB := UA.trans (hbB.mono (by omega))
  have byB := cell_below hbB byA
  have bxB : wB.cell? ⟨wI.heap.size, 0, none⟩ = some (.slice aS ms.length cap) := cell_below LB HX4.out
  have hMBd : MethsAt wB.drew _ ms := (HM5.out.1.at.below UB).below (Below.refl _ _).drew
  have hmBd : MethsAt wB.drew _ ms := (hm.below BB).below (Below.refl _ _).drew
  have bxBd : wB.drew.cell? ⟨wI.heap.size, 0, none⟩ = some (.slice aS ms.length cap) := bxB
  have byBd : wB.drew.cell? ⟨w5.heap.size, 0, none⟩ = some (.slice (some ⟨g5, 0, none⟩) l5 c5) := byB
  go_wp2_with fail
  go_region_held3 (fun w' => w'.cell? ⟨wI.heap.size, 0, none⟩ = some (.slice aS ms.length cap) ∧ w'.cell? ⟨w5.heap.size, 0, none⟩ = some (.slice (some ⟨g5, 0, none⟩) l5 c5))
    (first | exact ⟨bxQ, byQ⟩ | exact ⟨bxP, byP⟩ | go_keep)
    ((first
      | (have hx := hbP; clear hx; go_at_call 11; refine (eqProg_same _ _ ms _ (hMBd.below hbP) hmP.at).mono ?_; rintro e wQ ⟨rfl, hbQ⟩; have bxQ := cell_below hbQ bxP; have byQ := cell_below hbQ byP)
      | (go_at_call 7; refine (toProg_any _ ms _ hmBd HN.out.1 HN.out.2).mono ?_; rintro e wP ⟨vP, rfl, hmP, hbP, hnfP, hhiP⟩; have bxP := cell_below hbP bxBd; have byP := cell_below hbP byBd)))
  have hzP := hbP.size
  have yBd : wB.drew.heap.size = wB.heap.size := rfl
  have KQ : Below wA.heap.size wA wQ := hbB.drew.trans ((hbP.trans (hbQ.mono hzP)).mono (by have := hbB.size; omega))
  clear hzP hbP hbQ hnfP hhiP hmP hMBd hmBd bxBd byBd bxP byP bxQ byQ yBd bxB byB LB BB UB hbB
  have LQ := LA.trans (KQ.mono (by omega))
  have BQ := HB4.out.trans (LQ.mono z4)
  have hxQd : HeapAt wQ.drew _ _ h := (hxA.at.below KQ).below (Below.refl _ _).drew
  have hhQd : HeapAt wQ.drew _ _ h := (hh.below BQ).below (Below.refl _ _).drew
  have yrQd : wQ.drew.rowIs w7.heap.size 45 5 (five (.slice (some ⟨g7, 0, none⟩) h.calls.length h.calls.length) (.int .i64 h.now) (.int .i64 h.born) (.slice (some ⟨s7, 0, none⟩) h.said.length h.said.length) (.int .i64 h.code)) := row_below KQ yrA
  have bhQd : wQ.drew.rowIs (wI.heap.size + 1) 28 5 (five (.slice ac h.calls.length kc) (.int .i64 h.now) (.int .i64 h.born) (.slice aD h.said.length kD) (.int .i64 h.code)) := row_below LQ HY4.out
  obtain ⟨⟨x0, x1, x2, x3, x4⟩, xf⟩ := five_cells bhQd
  obtain ⟨⟨t0, t1, t2, t3, t4⟩, yf⟩ := five_cells yrQd
  clear xf yf
  go_wp2_with fail
  go_region_held3 (fun w' => (w'.cell? ⟨wI.heap.size + 1, 0, none⟩ = some (.slice ac h.calls.length kc) ∧ w'.cell? ⟨wI.heap.size + 1, 1, none⟩ = some (.int .i64 h.now) ∧ w'.cell? ⟨wI.heap.size + 1, 2, none⟩ = some (.int .i64 h.born) ∧ w'.cell? ⟨wI.heap.size + 1, 3, none⟩ = some (.slice aD h.said.length kD) ∧ w'.cell? ⟨wI.heap.size + 1, 4, none⟩ = some (.int .i64 h.code)) ∧ (w'.cell? ⟨w7.heap.size, 0, none⟩ = some (.slice (some ⟨g7, 0, none⟩) h.calls.length h.calls.length) ∧ w'.cell? ⟨w7.heap.size, 1, none⟩ = some (.int .i64 h.now) ∧ w'.cell? ⟨w7.heap.size, 2, none⟩ = some (.int .i64 h.born) ∧ w'.cell? ⟨w7.heap.size, 3, none⟩ = some (.slice (some ⟨s7, 0, none⟩) h.said.length h.said.length) ∧ w'.cell? ⟨w7.heap.size, 4, none⟩ = some (.int .i64 h.code)))
    (first | exact ⟨XE.out, YE.out⟩ | exact ⟨XD.out, YD.out⟩ | go_keep)
    ((first
      | (have hq := hbD; clear hq; go_at_call 12; refine (eqHeap_same h _ _ _ _ _ (hxQd.below hbD) HD).mono ?_; rintro e wE ⟨rfl, hbE⟩; have XE : Hid _ := (five_cells (row_below hbE xD)).1; have YE : Hid _ := (five_cells (row_below hbE yD)).1)
      | (go_at_call 8; refine (toHeap_any h _ _ _ hhQd HSM.out).mono ?_; rintro e wD ⟨gD, sD, GD, rfl, hgD, hND, hbD, hnfD⟩; have HD := hND.at hlm; have xD := row_below hbD bhQd; have yD := row_below hbD yrQd; have XD : Hid _ := (five_cells xD).1; have YD : Hid _ := (five_cells yD).1)))
  have hzD := hbD.size
  have yQd : wQ.drew.heap.size = wQ.heap.size := rfl
  have KE : Below wA.heap.size wA wE := KQ.drew.trans ((hbD.trans (hbE.mono hzD)).mono (by have := KQ.size; omega))
  clear hzD yQd hbD hbE hnfD hgD hND HD xD yD XD YD XE YE hxQd hhQd yrQd bhQd x0 x1 x2 x3 x4 t0 t1 t2 t3 t4 KQ LQ BQ
  have UE := UA.trans (KE.mono (by omega))
  have byE := cell_below KE byA
  have gzE := gzA.below KE
  have kE : ∀ g, Blk g → wE.heap[g]? = w9.heap[g]? := fun g hg => (KE.block g (by have := (HLT.out g hg).2; omega)).trans (kA g hg)
  have hxE := hxA.below KE
  have yrE := row_below KE yrA
  have LE := LA.trans (KE.mono (by omega))
  have yE := KE.size
  clear KE UA byA gzA kA hxA yrA LA
  go_wp2_with fail
  refine (markProg_any w4.heap.size _ ms w5 _ HM5.out.1 HM5.out.2.1 HM5.out.2.2 UE HN.out.1 HN.out.2).mono ?_
  rintro e wF ⟨hmid, K, rfl, hK0, hK1⟩
  have yF := hmid.size
  have LF : Below w4.heap.size w4 wF := hmid.belowX LE (Nat.le_refl _) (Nat.le_refl _)
  have gzF := gzE.kept (hmid.block w9.heap.size gzE.lt (.inr (by omega)))
  have yrF := yrE.of_block (hmid.block w7.heap.size yrE.lt (.inr (by omega)))
  have kF : ∀ g, Blk g → wF.heap[g]? = w9.heap[g]? := fun g hg => (hmid.block g (by have := (HLT.out g hg).2; omega) (.inr (by have := (HLT.out g hg).1; omega))).trans (kE g hg)
  have hxF : OwnHeap w6.heap.size wF _ _ h V7 := hxE.kept hmid.size fun g hg => hmid.block g (hxE.lt hg).2 (.inr (by have := (HX7.out g hg).1; omega))
  clear hmid gzE yrE kE hxE UE byE LE
  obtain ⟨⟨x0, x1, x2, x3, x4⟩, xf⟩ := five_cells yrF
  clear xf
  go_wp2_with fail
  refine (markHeap_any w6.heap.size _ _ h V7 K _ hxF HSM.out.fits hK0 (by omega)).mono ?_
  rintro e wG ⟨rfl, hxG, hwG⟩
  have yG := hwG.size
  have LG : Below w4.heap.size w4 wG := hwG.below LF (Nat.le_refl _) (fun g hg => by have := (HX7.out g hg).1; omega)
  have gzG := gzF.kept (hwG.block w9.heap.size gzF.lt (fun hg => by have := (HX7.out _ hg).2; omega))
  have kG : ∀ g, Blk g → wG.heap[g]? = w9.heap[g]? := fun g hg => (hwG.block g (by have := (HLT.out g hg).2; omega) (fun hg' => by have := (HX7.out _ hg').2; have := (HLT.out g hg).1; omega)).trans (kF g hg)
  clear hwG hxG hxF yrF gzF kF LF x0 x1 x2 x3 x4
  have hKe : 0 ≤ endH K h := by
    have := (kAt_le K h.calls HSM.out.2.1 h.calls.length (Nat.le_refl _)).1
    unfold endH
    omega
  have hKn : ¬ endH K h < 0 := by omega
  have hIG := (HA.out.stay wG (by omega) kG).1
  have hSG := HH4.out.below LG
  obtain ⟨⟨u0, u1, u2, u3, u4, u5, u6, u7⟩, _⟩ := bx8 gzG
  obtain ⟨⟨t0, t1, t2, t3, t4, t5, t6, t7⟩, _⟩ := bx8 (HW4.out.below LG)
  go_wp2_with fail
  refine (eqMach_same M _ _ _ _ _ _ _ _ _ hIG.p hIG.o hIG.t hIG.s hSG.p hSG.o hSG.t hSG.s).mono ?_
  rintro e wS ⟨rfl, hbS⟩
  have LS := LG.trans (hbS.mono (by omega))
  have gzS := gzG.below hbS
  have kS : ∀ g, Blk g → wS.heap[g]? = w9.heap[g]? := fun g hg => (hbS.block g (by have := (HLT.out g hg).2; omega)).trans (kG g hg)
  have yS := hbS.size
  clear hbS gzG kG LG hIG hSG u0 u1 u2 u3 u4 u5 u6 u7 t0 t1 t2 t3 t4 t5 t6 t7
  obtain ⟨⟨u0, u1, u2, u3, u4, u5, u6, u7⟩, _⟩ := bx8 gzS
  have HMK := (HA.out.stay wS (by omega) kS).2
  unfold mcCells at HMK
  go_wp2_with fail
  refine HMK.mono ?_
  rintro e wT ⟨rfl, hmT, hwT⟩
  have HMT : Hid (Mk wT) := hmT
  have LT : Below w4.heap.size w4 wT := hwT.below LS (Nat.le_refl _) (fun g hg => by have := (HLT.out g hg).1; omega)
  have gzT := hwT.bx gzS (fun hg => by have := (HLT.out _ hg).2; omega)
  have yT := hwT.size
  clear hwT LS gzS HMK kS hmT u0 u1 u2 u3 u4 u5 u6 u7
  obtain ⟨⟨u0, u1, u2, u3, u4, u5, u6, u7⟩, _⟩ := bx8 gzT
  have HHD := HA.out.held wT HMT.out
  unfold mcCells at HHD
  go_wp2_with fail
  refine HHD.mono ?_
  rintro e wU ⟨rfl, hbU⟩
  have LU := LT.trans (hbU.mono (by omega))
  have gzU := gzT.below hbU
  have HMU : Hid (Mk wU) := HA.out.go _ _ HMT.out hbU
  have BU : Below wI.heap.size wI wU := HB4.out.trans (LU.mono z4)
  have zU := BU.size
  have bxU := cell_below LU HX4.out
  have bhU := row_below LU HY4.out
  have yU := hbU.size
  clear hbU LT gzT HHD HMT u0 u1 u2 u3 u4 u5 u6 u7
  go_upto_region 31 with fail
  refine wp_region_fs [[], [0], [], [0, 1, 2], [], [], [0, 1, 2, 3, 4, 5], [0, 1, 2, 3, 4, 5, 6], [0, 1, 2, 3, 4, 5, 6, 7], [0, 1, 2, 3, 4, 5, 6, 7], [], [0, 1, 2, 3, 4, 5, 6, 7, 8, 10], [0, 1, 2, 3, 4, 5, 6, 7, 8, 9, 10, 11]] [[0], [1], [2], [3], [4], [5], [6], [7, 6], [8, 7], [9], [10], [10, 8], [12]] [[], [], [], [], [], [], [], [], [], [], [], [10], []] [fIs (.agg #[.slice aS ms.length cap]), fGh 1 (fun (x : Value) l => l = [.agg #[x]]) (fun x w1 => MethsAt w1 x ms), fIs (.agg #[.slice ac h.calls.length kc, .int .i64 h.now, .int .i64 h.born, .slice aD h.said.length kD, .int .i64 h.code]), fGh 3 (fun (x : Nat × Nat) l => l = [.agg (hpCells (full x.1 h.calls.length) (full x.2 h.said.length) h)]) (fun x w1 => HeapAt w1 (full x.1 h.calls.length) (full x.2 h.said.length) h), fIs (.int .i64 rr), fIs (.int .i64 cc), fGh 6 (fun (x : MX) l => l = [.tuple #[.agg #[.int .i64 M.cells, .slice x.a1 M.pages.length x.k1, .slice x.a2 M.order.length x.k2, .int .i64 M.now, .slice x.a3 M.twins.length x.k3, .int .i64 M.born, .slice x.a4 M.said.length x.k4, .int .i64 M.code], .bool okb]]) (fun x w1 => MachAt w1 (.slice x.a1 M.pages.length x.k1) (.slice x.a2 M.order.length x.k2) (.slice x.a3 M.twins.length x.k3) (.slice x.a4 M.said.length x.k4) M), fOf fun l => l.getD 0 undef = l.getD 1 undef, fOf fun l => l.getD 0 undef = tget (l.getD 1 undef) 0, fIs (.bool okb), fBox 10 36 8, fRow 10 36 8 fun b f l => l.getD 0 undef = .pointer (some ⟨b, 0, none⟩) ∧ f = fun q => (l.getD 1 undef).cells.toList.getD q undef, fIs (.bool okb)] 13 rfl (by kernel_rfl) (by kernel_rfl) ?_ ?_
  · refine all_lt_succ (all_lt_succ (all_lt_succ (all_lt_succ (all_lt_succ (all_lt_succ (all_lt_succ (all_lt_succ (all_lt_succ (all_lt_succ (all_lt_succ (all_lt_succ (all_lt_succ (all_lt_zero) ?_) ?_) ?_) ?_) ?_) ?_) ?_) ?_) ?_) ?_) ?_) ?_) ?_
    · intro a w val own hB hf hown hk
      have s4 := hf.at (d := 4) (v := .pointer (some ⟨wI.heap.size, 0, none⟩)) (by kernel_rfl) rfl
      have c0 := cell_below hB bxU
      exact rf_pure (v := .agg #[.slice aS ms.length cap]) hB rfl rfl (by unfold execOp; go_simp) rfl
    · intro a w val own hB hf hown hk
      obtain ⟨k0, f0⟩ := hk 0 (show 0 ∈ [0] by decide)
      have s103 := k0 103 rfl
      rw [fIs_out f0] at s103
      clear k0 f0
      exact rf_call hB rfl rfl (by unfold execOp; go_simp) ((toProg_any _ ms w (hm.below (BU.trans (hB.mono zU))) HN.out.1 HN.out.2).mono fun e w' ⟨v', he, hn, hb, _, _⟩ => ⟨_, he, hb, v', rfl, Made.new fun w1 _ _ hr => hn.kept hr⟩)
    · intro a w val own hB hf hown hk
      have s5 := hf.at (d := 5) (v := .pointer (some ⟨wI.heap.size + 1, 0, none⟩)) (by kernel_rfl) rfl
      obtain ⟨⟨c0, c1, c2, c3, c4⟩, _⟩ := five_cells (row_below hB bhU)
      exact rf_pure (v := .agg #[.slice ac h.calls.length kc, .int .i64 h.now, .int .i64 h.born, .slice aD h.said.length kD, .int .i64 h.code]) hB rfl rfl (by unfold execOp; go_simp) rfl
    · intro a w val own hB hf hown hk
      obtain ⟨k2, f2⟩ := hk 2 (show 2 ∈ [0, 1, 2] by decide)
      have s105 := k2 105 rfl
      rw [fIs_out f2] at s105
      clear k2 f2
      exact rf_call hB rfl rfl (by unfold execOp hpCells; go_simp) ((toHeap_any h (.slice ac h.calls.length kc) (.slice aD h.said.length kD) w (hh.below (BU.trans (hB.mono zU))) HSM.out).mono fun e w' ⟨g, s, G, he, hg, hN, hb, hnf⟩ => ⟨_, he, hb, (g, s), rfl, Made.new fun w1 hs _ hr => hN.kept hg hnf hlm hs hr⟩)
    · intro a w val own hB hf hown hk
      have s2 := hf.at (d := 2) (v := .int .i64 rr) (by kernel_rfl) rfl
      exact rf_pure (v := .int .i64 rr) hB rfl rfl (by unfold execOp; go_simp) rfl
    · intro a w val own hB hf hown hk
      have s3 := hf.at (d := 3) (v := .int .i64 cc) (by kernel_rfl) rfl
      exact rf_pure (v := .int .i64 cc) hB rfl rfl (by unfold execOp; go_simp) rfl
    · intro a w val own hB hf hown hk
      obtain ⟨k1, vp1, e1, m1⟩ := hk 1 (show 1 ∈ [0, 1, 2, 3, 4, 5] by decide)
      have v1 := one_eq e1
      have s104 := k1 104 rfl
      rw [v1] at s104
      clear k1 e1
      obtain ⟨k3, vh3, e3, m3⟩ := hk 3 (show 3 ∈ [0, 1, 2, 3, 4, 5] by decide)
      have v3 := one_eq e3
      have s106 := k3 106 rfl
      rw [v3] at s106
      clear k3 e3
      obtain ⟨k4, f4⟩ := hk 4 (show 4 ∈ [0, 1, 2, 3, 4, 5] by decide)
      have s107 := k4 107 rfl
      rw [fIs_out f4] at s107
      clear k4 f4
      obtain ⟨k5, f5⟩ := hk 5 (show 5 ∈ [0, 1, 2, 3, 4, 5] by decide)
      have s108 := k5 108 rfl
      rw [fIs_out f5] at s108
      clear k5 f5
      exact rf_call hB rfl rfl (by unfold execOp; go_simp) ((HIR vp1 _ _ w (m1.here hB) (m3.here hB)).mono fun e w' ⟨⟨x, he, Blk, K, Mk, ha⟩, hb⟩ => ⟨_, he, hb, x, rfl, Made.new fun w1 hs _ hr => (ha.stay w1 hs fun g hg => hr g (ha.lt g hg).1 (ha.lt g hg).2).1⟩)
    · intro a w val own hB hf hown hk
      have s109 := (hk 6 (show 6 ∈ [0, 1, 2, 3, 4, 5, 6] by decide)).1 109 rfl
      exact rf_pure (v := val 6) hB rfl rfl (by unfold execOp; go_simp) rfl
    · intro a w val own hB hf hown hk
      obtain ⟨k6, xh, e6, m6⟩ := hk 6 (show 6 ∈ [0, 1, 2, 3, 4, 5, 6, 7] by decide)
      have v6 := one_eq e6
      have s109 := k6 109 rfl
      rw [v6] at s109
      clear k6 e6
      obtain ⟨k7, f7⟩ := hk 7 (show 7 ∈ [0, 1, 2, 3, 4, 5, 6, 7] by decide)
      have v7 : val 7 = _ := Eq.trans f7 v6
      have s102 := k7 102 rfl
      rw [v7] at s102
      clear k7 f7
      exact rf_pure (v := .agg #[.int .i64 M.cells, .slice xh.a1 M.pages.length xh.k1, .slice xh.a2 M.order.length xh.k2, .int .i64 M.now, .slice xh.a3 M.twins.length xh.k3, .int .i64 M.born, .slice xh.a4 M.said.length xh.k4, .int .i64 M.code]) hB rfl rfl (by unfold execOp; go_simp) (by show _ = tget (val 7) 0; rw [v7]; rfl)
    · intro a w val own hB hf hown hk
      obtain ⟨k6, xh, e6, m6⟩ := hk 6 (show 6 ∈ [0, 1, 2, 3, 4, 5, 6, 7] by decide)
      have v6 := one_eq e6
      have s109 := k6 109 rfl
      rw [v6] at s109
      clear k6 e6
      obtain ⟨k7, f7⟩ := hk 7 (show 7 ∈ [0, 1, 2, 3, 4, 5, 6, 7] by decide)
      have v7 : val 7 = _ := Eq.trans f7 v6
      have s102 := k7 102 rfl
      rw [v7] at s102
      clear k7 f7
      exact rf_pure (v := .bool okb) hB rfl rfl (by unfold execOp; go_simp) rfl
    · intro a w val own hB hf hown hk
      exact rf_new (v := .pointer (some ⟨w.heap.size, 0, none⟩)) (w' := w.alloc (.cells #[.int .i64 0, .slice none 0 0, .slice none 0 0, .int .i64 0, .slice none 0 0, .int .i64 0, .slice none 0 0, .int .i64 0] 36)) hB rfl rfl (by unfold execOp; go_simp) ((Below.refl _ _).alloc (Nat.le_refl _) _) (fBox_new hB #[.int .i64 0, .slice none 0 0, .slice none 0 0, .int .i64 0, .slice none 0 0, .int .i64 0, .slice none 0 0, .int .i64 0])
    · intro a w val own hB hf hown hk
      obtain ⟨k10, bo10, g10, e10, ho10, hW10, r10⟩ := hk 10 (show 10 ∈ [0, 1, 2, 3, 4, 5, 6, 7, 8, 10] by decide)
      have v10 := one_eq e10
      have s19 := k10 19 rfl
      rw [v10] at s19
      clear k10 e10
      obtain ⟨k6, xh, e6, m6⟩ := hk 6 (show 6 ∈ [0, 1, 2, 3, 4, 5, 6, 7, 8, 10] by decide)
      have v6 := one_eq e6
      have s109 := k6 109 rfl
      rw [v6] at s109
      clear k6 e6
      obtain ⟨k7, f7⟩ := hk 7 (show 7 ∈ [0, 1, 2, 3, 4, 5, 6, 7, 8, 10] by decide)
      have v7 : val 7 = _ := Eq.trans f7 v6
      have s102 := k7 102 rfl
      rw [v7] at s102
      clear k7 f7
      obtain ⟨k8, f8⟩ := hk 8 (show 8 ∈ [0, 1, 2, 3, 4, 5, 6, 7, 8, 10] by decide)
      have v8 : val 8 = .agg #[.int .i64 M.cells, .slice xh.a1 M.pages.length xh.k1, .slice xh.a2 M.order.length xh.k2, .int .i64 M.now, .slice xh.a3 M.twins.length xh.k3, .int .i64 M.born, .slice xh.a4 M.said.length xh.k4, .int .i64 M.code] := by have e : val 8 = tget (val 7) 0 := f8; rw [e, v7]; rfl
      have s110 := k8 110 rfl
      rw [v8] at s110
      clear k8 f8
      have c0 := r10.cell (i := 0) (by decide)
      have c1 := r10.cell (i := 1) (by decide)
      have c2 := r10.cell (i := 2) (by decide)
      have c3 := r10.cell (i := 3) (by decide)
      have c4 := r10.cell (i := 4) (by decide)
      have c5 := r10.cell (i := 5) (by decide)
      have c6 := r10.cell (i := 6) (by decide)
      have c7 := r10.cell (i := 7) (by decide)
      have z0 := r10.frozen 0
      have z1 := r10.frozen 1
      have z2 := r10.frozen 2
      have z3 := r10.frozen 3
      have z4 := r10.frozen 4
      have z5 := r10.frozen 5
      have z6 := r10.frozen 6
      have z7 := r10.frozen 7
      exact rf_set (w' := setAll w bo10 0 [.int .i64 M.cells, .slice xh.a1 M.pages.length xh.k1, .slice xh.a2 M.order.length xh.k2, .int .i64 M.now, .slice xh.a3 M.twins.length xh.k3, .int .i64 M.born, .slice xh.a4 M.said.length xh.k4, .int .i64 M.code]) rfl rfl (by unfold execOp; simp only [setAll]; go_simp) (setAll_does (show own bo10 ∈ [10] by rw [ho10]; decide) hW10 _ 0 hB) (fRow_set [.int .i64 M.cells, .slice xh.a1 M.pages.length xh.k1, .slice xh.a2 M.order.length xh.k2, .int .i64 M.now, .slice xh.a3 M.twins.length xh.k3, .int .i64 M.born, .slice xh.a4 M.said.length xh.k4, .int .i64 M.code] r10 ho10 hW10 rfl ⟨v10, by show _ = fun q => (val 8).cells.toList.getD q undef; rw [v8]; rfl⟩)
    · intro a w val own hB hf hown hk
      obtain ⟨k9, f9⟩ := hk 9 (show 9 ∈ [0, 1, 2, 3, 4, 5, 6, 7, 8, 9, 10, 11] by decide)
      have s111 := k9 111 rfl
      rw [fIs_out f9] at s111
      clear k9 f9
      exact rf_pure (v := .bool okb) hB rfl rfl (by unfold execOp; go_simp) rfl
  intro a wY val own hB hf hown hk
  obtain ⟨k10, bo10, g10, e10, ho10, hW10, r10⟩ := hk 10 (by decide)
  have v10 := one_eq e10
  have s19 := k10 19 rfl
  rw [v10] at s19
  clear k10 e10
  obtain ⟨k6, xh, e6, m6⟩ := hk 6 (by decide)
  have v6 := one_eq e6
  have s109 := k6 109 rfl
  rw [v6] at s109
  clear k6 e6
  obtain ⟨k7, f7⟩ := hk 7 (by decide)
  have v7 : val 7 = _ := Eq.trans f7 v6
  have s102 := k7 102 rfl
  rw [v7] at s102
  clear k7 f7
  obtain ⟨k8, f8⟩ := hk 8 (by decide)
  have v8 : val 8 = .agg #[.int .i64 M.cells, .slice xh.a1 M.pages.length xh.k1, .slice xh.a2 M.order.length xh.k2, .int .i64 M.now, .slice xh.a3 M.twins.length xh.k3, .int .i64 M.born, .slice xh.a4 M.said.length xh.k4, .int .i64 M.code] := by have e : val 8 = tget (val 7) 0 := f8; rw [e, v7]; rfl
  have s110 := k8 110 rfl
  rw [v8] at s110
  clear k8 f8
  obtain ⟨_, bo11, g11, ⟨e11, hg11⟩, _, _, r11⟩ := hk 11 (by decide)
  have q11 : bo11 = bo10 := by have e : val 10 = _ := e11; rw [v10] at e; injection e with e; injection e with e; injection e with e; exact e.symm
  subst q11
  have hg11 : g11 = fun q => (val 8).cells.toList.getD q undef := hg11
  rw [v8] at hg11
  subst hg11
  have r11 : wY.rowIs bo11 _ _ (fun q => [.int .i64 M.cells, .slice xh.a1 M.pages.length xh.k1, .slice xh.a2 M.order.length xh.k2, .int .i64 M.now, .slice xh.a3 M.twins.length xh.k3, .int .i64 M.born, .slice xh.a4 M.said.length xh.k4, .int .i64 M.code].getD q undef) := r11
  clear e11
  obtain ⟨k12, f12⟩ := hk 12 (by decide)
  have s20 := k12 20 rfl
  rw [fIs_out f12] at s20
  clear k12 f12
  have hhY := m6.here hB
  have hzY : Bx wY bo11 36 [.int .i64 M.cells, .slice xh.a1 M.pages.length xh.k1, .slice xh.a2 M.order.length xh.k2, .int .i64 M.now, .slice xh.a3 M.twins.length xh.k3, .int .i64 M.born, .slice xh.a4 M.said.length xh.k4, .int .i64 M.code] := r11
  clear m6 r11
  have s2 := hf.at (d := 2) (v := .int .i64 rr) (by kernel_rfl) rfl
  have s3 := hf.at (d := 3) (v := .int .i64 cc) (by kernel_rfl) rfl
  have s4 := hf.at (d := 4) (v := .pointer (some ⟨wI.heap.size, 0, none⟩)) (by kernel_rfl) rfl
  have s5 := hf.at (d := 5) (v := .pointer (some ⟨wI.heap.size + 1, 0, none⟩)) (by kernel_rfl) rfl
  have s10 := hf.at (d := 10) (v := .pointer (some ⟨bW, 0, none⟩)) (by kernel_rfl) rfl
  have s11 := hf.at (d := 11) (v := .bool okb) (by kernel_rfl) rfl
  have s14 := hf.at (d := 14) (v := .pointer (some ⟨w9.heap.size, 0, none⟩)) (by kernel_rfl) rfl
  have s17 := hf.at (d := 17) (v := .int .i64 K9) (by kernel_rfl) rfl
  obtain ⟨u', hu0, hv⟩ := frame_any a.tmps (n := 129) hf.size
  have hu : a.tmps = (u' 0 :: u' 1 :: u' 2 :: u' 3 :: u' 4 :: u' 5 :: u' 6 :: u' 7 :: u' 8 :: u' 9 :: u' 10 :: u' 11 :: u' 12 :: u' 13 :: u' 14 :: u' 15 :: u' 16 :: u' 17 :: u' 18 :: u' 19 :: u' 20 :: u' 21 :: u' 22 :: u' 23 :: u' 24 :: u' 25 :: u' 26 :: u' 27 :: u' 28 :: u' 29 :: u' 30 :: u' 31 :: u' 32 :: u' 33 :: u' 34 :: u' 35 :: u' 36 :: u' 37 :: u' 38 :: u' 39 :: u' 40 :: u' 41 :: u' 42 :: u' 43 :: u' 44 :: u' 45 :: u' 46 :: u' 47 :: u' 48 :: u' 49 :: u' 50 :: u' 51 :: u' 52 :: u' 53 :: u' 54 :: u' 55 :: u' 56 :: u' 57 :: u' 58 :: u' 59 :: u' 60 :: u' 61 :: u' 62 :: u' 63 :: u' 64 :: u' 65 :: u' 66 :: u' 67 :: u' 68 :: u' 69 :: u' 70 :: u' 71 :: u' 72 :: u' 73 :: u' 74 :: u' 75 :: u' 76 :: u' 77 :: u' 78 :: u' 79 :: u' 80 :: u' 81 :: u' 82 :: u' 83 :: u' 84 :: u' 85 :: u' 86 :: u' 87 :: u' 88 :: u' 89 :: u' 90 :: u' 91 :: u' 92 :: u' 93 :: u' 94 :: u' 95 :: u' 96 :: u' 97 :: u' 98 :: u' 99 :: u' 100 :: u' 101 :: u' 102 :: u' 103 :: u' 104 :: u' 105 :: u' 106 :: u' 107 :: u' 108 :: u' 109 :: u' 110 :: u' 111 :: u' 112 :: u' 113 :: u' 114 :: u' 115 :: u' 116 :: u' 117 :: u' 118 :: u' 119 :: u' 120 :: u' 121 :: u' 122 :: u' 123 :: u' 124 :: u' 125 :: u' 126 :: u' 127 :: u' 128 :: []).toArray := hu0
  rw [(hv 2).trans s2, (hv 3).trans s3, (hv 4).trans s4, (hv 5).trans s5, (hv 10).trans s10, (hv 11).trans s11, (hv 14).trans s14, (hv 17).trans s17, (hv 19).trans s19, (hv 20).trans s20] at hu
  obtain rfl := act_eq hu (show a.defers = [] from hf.defers)
  clear hu hu0 hv hk hown hf s2 s3 s4 s5 s10 s11 s14 s17 s19 s20
  obtain ⟨aY1, kY1, aY2, kY2, aY3, kY3, aY4, kY4⟩ := xh
  dsimp only at hhY hzY
  generalize bo11 = bY at *
  have LY := LU.trans (hB.mono (by omega))
  have gzY := gzU.below hB
  have HMY : Hid (Mk wY) := HA.out.go _ _ HMU.out hB
  have yY := hB.size
  clear LU gzU HMU BU bxU bhU hB
  have hSY := HH4.out.below LY
  obtain ⟨⟨u0, u1, u2, u3, u4, u5, u6, u7⟩, _⟩ := bx8 hzY
  obtain ⟨⟨t0, t1, t2, t3, t4, t5, t6, t7⟩, _⟩ := bx8 (HW4.out.below LY)
  go_wp2_with fail
  refine (eqMach_same M _ _ _ _ _ _ _ _ _ hhY.p hhY.o hhY.t hhY.s hSY.p hSY.o hSY.t hSY.s).mono ?_
  rintro e wZ ⟨rfl, hbZ⟩
  have LZ := LY.trans (hbZ.mono (by omega))
  have gzZ := gzY.below hbZ
  have HMZ : Hid (Mk wZ) := HA.out.go _ _ HMY.out hbZ
  have yZ := hbZ.size
  clear hbZ LY gzY HMY hhY hSY hzY u0 u1 u2 u3 u4 u5 u6 u7 t0 t1 t2 t3 t4 t5 t6 t7
  obtain ⟨⟨u0, u1, u2, u3, u4, u5, u6, u7⟩, _⟩ := bx8 gzZ
  have HHD := HA.out.held wZ HMZ.out
  unfold mcCells at HHD
  go_wp2_with fail
  refine HHD.mono ?_
  rintro e wL ⟨rfl, hbL⟩
  have BL : Below wI.heap.size wI wL := HB4.out.trans ((LZ.trans (hbL.mono (by omega))).mono z4)
  clear hbL LZ gzZ HHD HMZ u0 u1 u2 u3 u4 u5 u6 u7
  go_wp2
  go_ret
  exact ⟨rfl, BL⟩
end Go.Proofs.YtmifhlkcceafkaaGreat
