/-
  The law FnExactHeapTrim, walked: whatever program and heap come in, it answers true and writes to nothing that was there.
-/
import Derived.Test.YtnffknlgaiehdaaSize
import Derived.Test.YtnffknlgaiehdaaSame
import Derived.Test.YtnffknlgaiehdaaHSame
import Derived.Test.YtnffknlgaiehdaaOwnNew
import Derived.Test.YtnffknlgaiehdaaDeepM
import Derived.Test.YtnffknlgaiehdaaMarks
import Derived.Test.YtnffknlgaiehdaaTrimX
import Derived.Test.YtnffknlgaiehdaaTrim3
import Derived.Test.YtnffknlgaiehdaaTrimFits
import Derived.Deep.RegionHeld3

namespace Go.Proofs.Ytnffknlgaiehdaa
open Go.RowKit
theorem Mid.belowX {B C B0 : Nat} {w0 w w' : World} (h : Mid B C w w') (hb : Below B0 w0 w) (h0 : B0 ≤ w0.heap.size) (h1 : B0 ≤ B) : Below B0 w0 w' :=
  ⟨h.os.trans hb.os, h.tape.trans hb.tape, h.output.trans hb.output, Nat.le_trans hb.size h.size, fun k hk => (h.block k (by have := hb.size; omega) (.inl (by omega))).trans (hb.block k hk)⟩
set_option maxRecDepth 100000 in
set_option maxHeartbeats 8000000 in
theorem lawTrim_any (v vc vs : Value) (ms : List (Int × Int × List (Int × Int))) (h : Hp) (wI : World) (hm : MethsAt wI v ms) (hh : HeapAt wI vc vs h) :
    Calls Try.prog 3 #[.agg #[v], .agg (hpCells vc vs h)] wI fun e w' => e = .returned (.bool true) ∧ Below wI.heap.size wI w' := by
  obtain ⟨aS, cap, hv, hvx⟩ := id hm
  clear hvx
  obtain ⟨ac, kc, hvc⟩ := hh.c.shape
  obtain ⟨aD, kD, hvs⟩ := hh.s.shape
  subst hv hvc hvs
  unfold hpCells
  have hA : Below wI.heap.size wI ((wI.alloc (.cells #[.slice aS ms.length cap] 24)).alloc (.cells #[.slice ac h.calls.length kc, .int .i64 h.now, .int .i64 h.born, .slice aD h.said.length kD, .int .i64 h.code] 28)) := ((Below.refl _ _).alloc (Nat.le_refl _) _).alloc (by simp) _
  have bx : ((wI.alloc (.cells #[.slice aS ms.length cap] 24)).alloc (.cells #[.slice ac h.calls.length kc, .int .i64 h.now, .int .i64 h.born, .slice aD h.said.length kD, .int .i64 h.code] 28)).cell? ⟨wI.heap.size, 0, none⟩ = some (.slice aS ms.length cap) := by simp [go_sem]
  have bh := five_new (wI.alloc (.cells #[.slice aS ms.length cap] 24)) 28 (.slice ac h.calls.length kc) (.int .i64 h.now) (.int .i64 h.born) (.slice aD h.said.length kD) (.int .i64 h.code)
  simp only [World.size_alloc] at bh
  go_enter Try.func3, Try.ntmps3
  go_wp2_with fail
  generalize (wI.alloc (.cells #[.slice aS ms.length cap] 24)).alloc (.cells #[.slice ac h.calls.length kc, .int .i64 h.now, .int .i64 h.born, .slice aD h.said.length kD, .int .i64 h.code] 28) = W0 at *
  have z0 := hA.size
  refine (szProg_any _ ms _ _ (hm.below hA) (by omega) (by omega)).mono ?_
  rintro e w1 ⟨r, rfl, hr1, hr0, hb1⟩
  have B1 : Below wI.heap.size wI w1 := hA.trans (hb1.mono z0)
  have bx1 := cell_below hb1 bx
  have bh1 := row_below hb1 bh
  have HR : Hid (0 ≤ r → ms.length ≤ 1048576 ∧ ∀ i, (hi : i < ms.length) → ms[i].2.2.length ≤ 1048576) := hr0
  clear hr0 hb1 bx bh hA z0
  by_cases hr : r < 0
  · go_wp2
    go_ret
    exact ⟨rfl, B1⟩
  have hr' : 0 ≤ r := by omega
  have HN : Hid (ms.length ≤ 1048576 ∧ ∀ i, (hi : i < ms.length) → ms[i].2.2.length ≤ 1048576) := HR.out hr'
  clear HR
  have z1 := B1.size
  obtain ⟨⟨x0, x1, x2, x3, x4⟩, xf⟩ := five_cells bh1
  clear xf
  go_wp2_with fail
  refine (szHeap_any h _ _ _ _ (hh.below B1) hr' hr1).mono ?_
  rintro e w2 ⟨r2, rfl, hq1, hq0, hb2⟩
  have B2 : Below wI.heap.size wI w2 := B1.trans (hb2.mono z1)
  have bx2 := cell_below hb2 bx1
  have bh2 := row_below hb2 bh1
  have HS0 : Hid (0 ≤ r2 → h.small) := hq0
  clear hq0 hb2 bx1 bh1 B1 z1 x0 x1 x2 x3 x4
  by_cases hq : r2 < 0
  · go_wp2
    go_ret
    exact ⟨rfl, B2⟩
  have hq' : 0 ≤ r2 := by omega
  have HSM : Hid h.small := HS0.out hq'
  clear HS0
  have z2 := B2.size
  have B2d : Below wI.heap.size wI w2.drew := B2.drew
  have z2d := B2d.size
  have C2 : Hid (w2.cell? ⟨wI.heap.size, 0, none⟩ = some (.slice aS ms.length cap) ∧ w2.cell? ⟨wI.heap.size + 1, 0, none⟩ = some (.slice ac h.calls.length kc) ∧ w2.cell? ⟨wI.heap.size + 1, 1, none⟩ = some (.int .i64 h.now) ∧ w2.cell? ⟨wI.heap.size + 1, 2, none⟩ = some (.int .i64 h.born) ∧ w2.cell? ⟨wI.heap.size + 1, 3, none⟩ = some (.slice aD h.said.length kD) ∧ w2.cell? ⟨wI.heap.size + 1, 4, none⟩ = some (.int .i64 h.code)) := ⟨bx2, (five_cells bh2).1⟩
  have bh2d : w2.drew.rowIs (wI.heap.size + 1) 28 5 (five (.slice ac h.calls.length kc) (.int .i64 h.now) (.int .i64 h.born) (.slice aD h.said.length kD) (.int .i64 h.code)) := bh2
  have M2 := hm.below B2d
  have H2 := hh.below B2d
  obtain ⟨⟨x0, x1, x2, x3, x4⟩, xf⟩ := five_cells bh2
  clear xf
  clear x0 x1 x2 x3 x4 M2 H2 bh2d C2 z2d B2d
  have hlm : h.calls.length ≤ maxLen := by { have := HSM.out.1; unfold maxLen; omega }
  have HF : (trimH ms h).fits := trim_fits HSM.out
  obtain ⟨R, hR⟩ : ∃ R : Hp, trimH ms h = R := ⟨_, rfl⟩
  obtain ⟨okb, hokb⟩ : ∃ okb : Bool, (heapOk ms h) = okb := ⟨_, rfl⟩
  have HSR : ∀ (vp vc vs : Value) (W : World), MethsAt W vp ms → HeapAt W vc vs h → Calls Try.prog 8 #[.agg #[vp], .agg (hpCells vc vs h)] W fun e w' => (∃ a1 k1 a2 k2, e = .returned (.tuple #[.agg #[.slice a1 R.calls.length k1, .int .i64 R.now, .int .i64 R.born, .slice a2 R.said.length k2, .int .i64 R.code], .bool okb]) ∧ HeapFrom W.heap.size w' (.slice a1 R.calls.length k1) (.slice a2 R.said.length k2) R) ∧ Below W.heap.size W w' := fun vp vc vs W h1 h2 => by
    refine (specHeapTrim_x vp vc vs ms h W h1 h2 HSM.out).mono ?_
    rintro e w' ⟨hb, a1, k1, a2, k2, rfl, ho⟩
    rw [hokb]
    rw [hR] at ho ⊢
    exact ⟨⟨a1, k1, a2, k2, rfl, ho⟩, hb⟩
  have HIR : ∀ (vp vc vs : Value) (W : World), MethsAt W vp ms → HeapAt W vc vs h → Calls Try.prog 11 #[.agg #[vp], .agg (hpCells vc vs h)] W fun e w' => (∃ a1 k1 a2 k2 V, e = .returned (.tuple #[.agg #[.slice a1 R.calls.length k1, .int .i64 R.now, .int .i64 R.born, .slice a2 R.said.length k2, .int .i64 R.code], .bool okb]) ∧ OwnHeap W.heap.size w' (.slice a1 R.calls.length k1) (.slice a2 R.said.length k2) R V) ∧ Below W.heap.size W w' := fun vp vc vs W h1 h2 => by
    refine (implHeapTrim_any vp vc vs ms h W h1 h2 HSM.out).mono ?_
    rintro e w' ⟨hb, vc', vs', V', rfl, ho⟩
    rw [hokb]
    rw [hR] at ho ⊢
    obtain ⟨a1, k1, hv1, _⟩ := ho.c.shape
    obtain ⟨a2, k2, hv2, _⟩ := ho.s.slice
    subst hv1 hv2
    exact ⟨⟨a1, k1, a2, k2, V', rfl, ho⟩, hb⟩
  rw [hR] at HF
  have HS : Hid R.fits := HF
  clear HF hR hokb
  go_upto_region 8 with fail
  refine wp_region_fs [[], [0], [], [0, 1, 2], [0, 1, 2, 3], [0, 1, 2, 3, 4], [0, 1, 2, 3, 4, 5], [0, 1, 2, 3, 4, 5], [], [0, 1, 2, 3, 4, 5, 6, 8], [0, 1, 2, 3, 4, 5, 6, 7, 8, 9]] [[0], [1], [2], [3], [4], [5, 4], [6, 5], [7], [8], [8, 6], [10]] [[], [], [], [], [], [], [], [], [], [8], []] [fIs (.agg #[.slice aS ms.length cap]), fGh 1 (fun (x : Value) l => l = [.agg #[x]]) (fun x w1 => MethsAt w1 x ms), fIs (.agg #[.slice ac h.calls.length kc, .int .i64 h.now, .int .i64 h.born, .slice aD h.said.length kD, .int .i64 h.code]), fGh 3 (fun (x : Nat × Nat) l => l = [.agg (hpCells (full x.1 h.calls.length) (full x.2 h.said.length) h)]) (fun x w1 => HeapAt w1 (full x.1 h.calls.length) (full x.2 h.said.length) h), fGh 4 (fun (x : HX) l => l = [.tuple #[.agg #[.slice x.ac R.calls.length x.kc, .int .i64 R.now, .int .i64 R.born, .slice x.ad R.said.length x.kd, .int .i64 R.code], .bool okb]]) (fun x w1 => HeapAt w1 (.slice x.ac R.calls.length x.kc) (.slice x.ad R.said.length x.kd) R), fOf fun l => l.getD 0 undef = l.getD 1 undef, fOf fun l => l.getD 0 undef = tget (l.getD 1 undef) 0, fIs (.bool okb), fBox 8 34 5, fRow 8 34 5 fun b f l => l.getD 0 undef = .pointer (some ⟨b, 0, none⟩) ∧ f = fun q => (l.getD 1 undef).cells.toList.getD q undef, fIs (.bool okb)] 11 rfl (by kernel_rfl) (by kernel_rfl) ?_ ?_
  · refine all_lt_succ (all_lt_succ (all_lt_succ (all_lt_succ (all_lt_succ (all_lt_succ (all_lt_succ (all_lt_succ (all_lt_succ (all_lt_succ (all_lt_succ (all_lt_zero) ?_) ?_) ?_) ?_) ?_) ?_) ?_) ?_) ?_) ?_) ?_
    · intro a w val own hB hf hown hk
      have s2 := hf.at (d := 2) (v := .pointer (some ⟨wI.heap.size, 0, none⟩)) (by kernel_rfl) rfl
      have c0 := cell_below hB bx2
      exact rf_pure (v := .agg #[.slice aS ms.length cap]) hB rfl rfl (by unfold execOp; go_simp) rfl
    · intro a w val own hB hf hown hk
      obtain ⟨k0, f0⟩ := hk 0 (show 0 ∈ [0] by decide)
      have s28 := k0 28 rfl
      rw [fIs_out f0] at s28
      clear k0 f0
      exact rf_call hB rfl rfl (by unfold execOp; go_simp) ((toProg_any _ ms w (hm.below (B2.trans (hB.mono z2))) HN.out.1 HN.out.2).mono fun e w' ⟨v', he, hn, hb, _, _⟩ => ⟨_, he, hb, v', rfl, Made.new fun w1 _ _ hr => hn.kept hr⟩)
    · intro a w val own hB hf hown hk
      have s3 := hf.at (d := 3) (v := .pointer (some ⟨wI.heap.size + 1, 0, none⟩)) (by kernel_rfl) rfl
      obtain ⟨⟨c0, c1, c2, c3, c4⟩, _⟩ := five_cells (row_below hB bh2)
      exact rf_pure (v := .agg #[.slice ac h.calls.length kc, .int .i64 h.now, .int .i64 h.born, .slice aD h.said.length kD, .int .i64 h.code]) hB rfl rfl (by unfold execOp; go_simp) rfl
    · intro a w val own hB hf hown hk
      obtain ⟨k2, f2⟩ := hk 2 (show 2 ∈ [0, 1, 2] by decide)
      have s30 := k2 30 rfl
      rw [fIs_out f2] at s30
      clear k2 f2
      exact rf_call hB rfl rfl (by unfold execOp hpCells; go_simp) ((toHeap_any h (.slice ac h.calls.length kc) (.slice aD h.said.length kD) w (hh.below (B2.trans (hB.mono z2))) HSM.out).mono fun e w' ⟨g, s, G, he, hg, hN, hb, hnf⟩ => ⟨_, he, hb, (g, s), rfl, Made.new fun w1 hs _ hr => hN.kept hg hnf hlm hs hr⟩)
    · intro a w val own hB hf hown hk
      obtain ⟨k1, vp1, e1, m1⟩ := hk 1 (show 1 ∈ [0, 1, 2, 3] by decide)
      have v1 := one_eq e1
      have s29 := k1 29 rfl
      rw [v1] at s29
      clear k1 e1
      obtain ⟨k3, vh3, e3, m3⟩ := hk 3 (show 3 ∈ [0, 1, 2, 3] by decide)
      have v3 := one_eq e3
      have s31 := k3 31 rfl
      rw [v3] at s31
      clear k3 e3
      exact rf_call hB rfl rfl (by unfold execOp; go_simp) ((HSR vp1 _ _ w (m1.here hB) (m3.here hB)).mono fun e w' ⟨⟨a1, k1, a2, k2, he, ho⟩, hb⟩ => ⟨_, he, hb, ⟨a1, k1, a2, k2⟩, rfl, Made.new fun w1 hs _ hr => ho w1 hs hr⟩)
    · intro a w val own hB hf hown hk
      have s32 := (hk 4 (show 4 ∈ [0, 1, 2, 3, 4] by decide)).1 32 rfl
      exact rf_pure (v := val 4) hB rfl rfl (by unfold execOp; go_simp) rfl
    · intro a w val own hB hf hown hk
      obtain ⟨k4, xh, e4, m4⟩ := hk 4 (show 4 ∈ [0, 1, 2, 3, 4, 5] by decide)
      have v4 := one_eq e4
      have s32 := k4 32 rfl
      rw [v4] at s32
      clear k4 e4
      obtain ⟨k5, f5⟩ := hk 5 (show 5 ∈ [0, 1, 2, 3, 4, 5] by decide)
      have v5 : val 5 = _ := Eq.trans f5 v4
      have s27 := k5 27 rfl
      rw [v5] at s27
      clear k5 f5
      exact rf_pure (v := .agg #[.slice xh.ac R.calls.length xh.kc, .int .i64 R.now, .int .i64 R.born, .slice xh.ad R.said.length xh.kd, .int .i64 R.code]) hB rfl rfl (by unfold execOp; go_simp) (by show _ = tget (val 5) 0; rw [v5]; rfl)
    · intro a w val own hB hf hown hk
      obtain ⟨k4, xh, e4, m4⟩ := hk 4 (show 4 ∈ [0, 1, 2, 3, 4, 5] by decide)
      have v4 := one_eq e4
      have s32 := k4 32 rfl
      rw [v4] at s32
      clear k4 e4
      obtain ⟨k5, f5⟩ := hk 5 (show 5 ∈ [0, 1, 2, 3, 4, 5] by decide)
      have v5 : val 5 = _ := Eq.trans f5 v4
      have s27 := k5 27 rfl
      rw [v5] at s27
      clear k5 f5
      exact rf_pure (v := .bool okb) hB rfl rfl (by unfold execOp; go_simp) rfl
    · intro a w val own hB hf hown hk
      exact rf_new (v := .pointer (some ⟨w.heap.size, 0, none⟩)) (w' := w.alloc (.cells #[.slice none 0 0, .int .i64 0, .int .i64 0, .slice none 0 0, .int .i64 0] 34)) hB rfl rfl (by unfold execOp; go_simp) ((Below.refl _ _).alloc (Nat.le_refl _) _) (fBox_new hB #[.slice none 0 0, .int .i64 0, .int .i64 0, .slice none 0 0, .int .i64 0])
    · intro a w val own hB hf hown hk
      obtain ⟨k8, bo8, g8, e8, ho8, hW8, r8⟩ := hk 8 (show 8 ∈ [0, 1, 2, 3, 4, 5, 6, 8] by decide)
      have v8 := one_eq e8
      have s6 := k8 6 rfl
      rw [v8] at s6
      clear k8 e8
      obtain ⟨k4, xh, e4, m4⟩ := hk 4 (show 4 ∈ [0, 1, 2, 3, 4, 5, 6, 8] by decide)
      have v4 := one_eq e4
      have s32 := k4 32 rfl
      rw [v4] at s32
      clear k4 e4
      obtain ⟨k5, f5⟩ := hk 5 (show 5 ∈ [0, 1, 2, 3, 4, 5, 6, 8] by decide)
      have v5 : val 5 = _ := Eq.trans f5 v4
      have s27 := k5 27 rfl
      rw [v5] at s27
      clear k5 f5
      obtain ⟨k6, f6⟩ := hk 6 (show 6 ∈ [0, 1, 2, 3, 4, 5, 6, 8] by decide)
      have v6 : val 6 = .agg #[.slice xh.ac R.calls.length xh.kc, .int .i64 R.now, .int .i64 R.born, .slice xh.ad R.said.length xh.kd, .int .i64 R.code] := by have e : val 6 = tget (val 5) 0 := f6; rw [e, v5]; rfl
      have s33 := k6 33 rfl
      rw [v6] at s33
      clear k6 f6
      have c0 := r8.cell (i := 0) (by decide)
      have c1 := r8.cell (i := 1) (by decide)
      have c2 := r8.cell (i := 2) (by decide)
      have c3 := r8.cell (i := 3) (by decide)
      have c4 := r8.cell (i := 4) (by decide)
      have z0 := r8.frozen 0
      have z1 := r8.frozen 1
      have z2 := r8.frozen 2
      have z3 := r8.frozen 3
      have z4 := r8.frozen 4
      exact rf_set (w' := setAll w bo8 0 [.slice xh.ac R.calls.length xh.kc, .int .i64 R.now, .int .i64 R.born, .slice xh.ad R.said.length xh.kd, .int .i64 R.code]) rfl rfl (by unfold execOp; simp only [setAll]; go_simp) (setAll_does (show own bo8 ∈ [8] by rw [ho8]; decide) hW8 _ 0 hB) (fRow_set [.slice xh.ac R.calls.length xh.kc, .int .i64 R.now, .int .i64 R.born, .slice xh.ad R.said.length xh.kd, .int .i64 R.code] r8 ho8 hW8 rfl ⟨v8, by show _ = fun q => (val 6).cells.toList.getD q undef; rw [v6]; rfl⟩)
    · intro a w val own hB hf hown hk
      obtain ⟨k7, f7⟩ := hk 7 (show 7 ∈ [0, 1, 2, 3, 4, 5, 6, 7, 8, 9] by decide)
      have s34 := k7 34 rfl
      rw [fIs_out f7] at s34
      clear k7 f7
      exact rf_pure (v := .bool okb) hB rfl rfl (by unfold execOp; go_simp) rfl
  intro a w4 val own hB hf hown hk
  obtain ⟨k8, bo8, g8, e8, ho8, hW8, r8⟩ := hk 8 (by decide)
  have v8 := one_eq e8
  have s6 := k8 6 rfl
  rw [v8] at s6
  clear k8 e8
  obtain ⟨k4, xh, e4, m4⟩ := hk 4 (by decide)
  have v4 := one_eq e4
  have s32 := k4 32 rfl
  rw [v4] at s32
  clear k4 e4
  obtain ⟨k5, f5⟩ := hk 5 (by decide)
  have v5 : val 5 = _ := Eq.trans f5 v4
  have s27 := k5 27 rfl
  rw [v5] at s27
  clear k5 f5
  obtain ⟨k6, f6⟩ := hk 6 (by decide)
  have v6 : val 6 = .agg #[.slice xh.ac R.calls.length xh.kc, .int .i64 R.now, .int .i64 R.born, .slice xh.ad R.said.length xh.kd, .int .i64 R.code] := by have e : val 6 = tget (val 5) 0 := f6; rw [e, v5]; rfl
  have s33 := k6 33 rfl
  rw [v6] at s33
  clear k6 f6
  obtain ⟨_, bo9, g9, ⟨e9, hg9⟩, _, _, r9⟩ := hk 9 (by decide)
  have q9 : bo9 = bo8 := by have e : val 8 = _ := e9; rw [v8] at e; injection e with e; injection e with e; injection e with e; exact e.symm
  subst q9
  have hg9 : g9 = fun q => (val 6).cells.toList.getD q undef := hg9
  rw [v6] at hg9
  subst hg9
  have r9 : w4.rowIs bo9 _ _ (fun q => [.slice xh.ac R.calls.length xh.kc, .int .i64 R.now, .int .i64 R.born, .slice xh.ad R.said.length xh.kd, .int .i64 R.code].getD q undef) := r9
  clear e9
  obtain ⟨k10, f10⟩ := hk 10 (by decide)
  have s7 := k10 7 rfl
  rw [fIs_out f10] at s7
  clear k10 f10
  have hh4 := m4.here hB
  have rW4 := row_fiveX r9
  clear m4 r9
  have s2 := hf.at (d := 2) (v := .pointer (some ⟨wI.heap.size, 0, none⟩)) (by kernel_rfl) rfl
  have s3 := hf.at (d := 3) (v := .pointer (some ⟨wI.heap.size + 1, 0, none⟩)) (by kernel_rfl) rfl
  obtain ⟨u, hu0, hv⟩ := frame_any a.tmps (n := 119) hf.size
  have hu : a.tmps = (u 0 :: u 1 :: u 2 :: u 3 :: u 4 :: u 5 :: u 6 :: u 7 :: u 8 :: u 9 :: u 10 :: u 11 :: u 12 :: u 13 :: u 14 :: u 15 :: u 16 :: u 17 :: u 18 :: u 19 :: u 20 :: u 21 :: u 22 :: u 23 :: u 24 :: u 25 :: u 26 :: u 27 :: u 28 :: u 29 :: u 30 :: u 31 :: u 32 :: u 33 :: u 34 :: u 35 :: u 36 :: u 37 :: u 38 :: u 39 :: u 40 :: u 41 :: u 42 :: u 43 :: u 44 :: u 45 :: u 46 :: u 47 :: u 48 :: u 49 :: u 50 :: u 51 :: u 52 :: u 53 :: u 54 :: u 55 :: u 56 :: u 57 :: u 58 :: u 59 :: u 60 :: u 61 :: u 62 :: u 63 :: u 64 :: u 65 :: u 66 :: u 67 :: u 68 :: u 69 :: u 70 :: u 71 :: u 72 :: u 73 :: u 74 :: u 75 :: u 76 :: u 77 :: u 78 :: u 79 :: u 80 :: u 81 :: u 82 :: u 83 :: u 84 :: u 85 :: u 86 :: u 87 :: u 88 :: u 89 :: u 90 :: u 91 :: u 92 :: u 93 :: u 94 :: u 95 :: u 96 :: u 97 :: u 98 :: u 99 :: u 100 :: u 101 :: u 102 :: u 103 :: u 104 :: u 105 :: u 106 :: u 107 :: u 108 :: u 109 :: u 110 :: u 111 :: u 112 :: u 113 :: u 114 :: u 115 :: u 116 :: u 117 :: u 118 :: []).toArray := hu0
  rw [(hv 2).trans s2, (hv 3).trans s3, (hv 6).trans s6, (hv 7).trans s7] at hu
  obtain rfl := act_eq hu (show a.defers = [] from hf.defers)
  clear hu hu0 hv hk hown hf s2 s3 s6 s7
  obtain ⟨acW, kcW, adW, kdW⟩ := xh
  dsimp only at hh4 rW4
  generalize bo9 = bW at *
  have B4 : Below wI.heap.size wI w4 := B2.trans (hB.mono z2)
  have bx4 := cell_below hB bx2
  have bh4 := row_below hB bh2
  clear bx2 bh2 B2 z2 hB
  have HH4 : Hid (HeapAt w4 (.slice acW R.calls.length kcW) (.slice adW R.said.length kdW) R) := hh4
  have HX4 : Hid (w4.cell? ⟨wI.heap.size, 0, none⟩ = some (.slice aS ms.length cap)) := bx4
  have HY4 : Hid (w4.rowIs (wI.heap.size + 1) 28 5 (five (.slice ac h.calls.length kc) (.int .i64 h.now) (.int .i64 h.born) (.slice aD h.said.length kD) (.int .i64 h.code))) := bh4
  have HW4 : Hid (w4.rowIs bW 34 5 (five (.slice acW R.calls.length kcW) (.int .i64 R.now) (.int .i64 R.born) (.slice adW R.said.length kdW) (.int .i64 R.code))) := rW4
  have HB4 : Hid (Below wI.heap.size wI w4) := B4
  have z4 := B4.size
  have yW := rW4.lt
  clear hh4 rW4 bh4
  go_wp2_with fail
  refine (toProg_any _ ms _ (hm.below B4) HN.out.1 HN.out.2).mono ?_
  rintro e w5 ⟨v5, rfl, hm5, hb5, hnf5, hhi5⟩
  have HM5 : Hid (MethsNew w4.heap.size w5 v5 ms ∧ NF w4.heap.size w5 ∧ MethsHi w5 v5 ms) := ⟨hm5, hnf5, hhi5⟩
  obtain ⟨g5, l5, c5, hv5, _⟩ := hm5.own
  subst hv5
  have L5 := hb5
  have y5 := hb5.size
  clear hm5 hnf5 hhi5 hb5 B4 bx4
  go_upto_region 10 with fail
  have N5 := (Below.refl w5.heap.size w5).alloc (Nat.le_refl _) (.cells #[.slice (some ⟨g5, 0, none⟩) l5 c5] 39)
  have by6 : (w5.alloc (.cells #[.slice (some ⟨g5, 0, none⟩) l5 c5] 39)).cell? ⟨w5.heap.size, 0, none⟩ = some (.slice (some ⟨g5, 0, none⟩) l5 c5) := by simp [go_sem]
  generalize w5.alloc (.cells #[.slice (some ⟨g5, 0, none⟩) l5 c5] 39) = w6 at *
  have y6 : w5.heap.size < w6.heap.size := World.block_lt_of_cell? _ _ by6
  have L6 := L5.trans (N5.mono y5)
  obtain ⟨⟨x0, x1, x2, x3, x4⟩, xf⟩ := five_cells (row_below L6 HY4.out)
  clear xf
  go_wp2_with fail
  refine (toHeap_any h _ _ _ (hh.below (HB4.out.trans (L6.mono z4))) HSM.out).mono ?_
  rintro e w7 ⟨g7, s7, G7, rfl, hg7, hN7, hb7, hnf7⟩
  obtain ⟨V7, hx7⟩ : ∃ V, OwnHeap w6.heap.size w7 (full g7 h.calls.length) (full s7 h.said.length) h V := ⟨_, hN7.own hg7 hnf7 hlm⟩
  have by7 := cell_below hb7 by6
  have U7 := N5.trans (hb7.mono (Nat.le_of_lt y6))
  have y7 := hb7.size
  clear hN7 hb7 hnf7 hg7 by6 N5 L6 x0 x1 x2 x3 x4
  unfold hpCells full
  unfold full at hx7
  have HX7 : Hid (∀ g, HeapBlocks (.slice (some ⟨g7, 0, none⟩) h.calls.length h.calls.length) (.slice (some ⟨s7, 0, none⟩) h.said.length h.said.length) h.calls.length V7 g → w6.heap.size ≤ g ∧ g < w7.heap.size) := fun g hg => hx7.lt hg
  go_upto_region 11 with fail
  have N7 := (Below.refl w7.heap.size w7).alloc (Nat.le_refl _) (.cells #[.slice (some ⟨g7, 0, none⟩) h.calls.length h.calls.length, .int .i64 h.now, .int .i64 h.born, .slice (some ⟨s7, 0, none⟩) h.said.length h.said.length, .int .i64 h.code] 34)
  have yr8 := five_new w7 34 (.slice (some ⟨g7, 0, none⟩) h.calls.length h.calls.length) (.int .i64 h.now) (.int .i64 h.born) (.slice (some ⟨s7, 0, none⟩) h.said.length h.said.length) (.int .i64 h.code)
  have by8 := cell_below N7 by7
  have hx8 := hx7.below N7
  have U8 := U7.trans (N7.mono (by omega))
  generalize w7.alloc (.cells #[.slice (some ⟨g7, 0, none⟩) h.calls.length h.calls.length, .int .i64 h.now, .int .i64 h.born, .slice (some ⟨s7, 0, none⟩) h.said.length h.said.length, .int .i64 h.code] 34) = w8 at *
  have y8 := yr8.lt
  have L8 := L5.trans (U8.mono y5)
  clear N7 by7 hx7 U7
  obtain ⟨⟨x0, x1, x2, x3, x4⟩, xf⟩ := five_cells yr8
  clear xf
  have HC := HIR _ _ _ w8 (HM5.out.1.at.below U8) hx8.at
  unfold hpCells at HC
  go_wp2_with fail
  refine HC.mono ?_
  rintro e w9 ⟨⟨a9, k9, d9, e9, V9, rfl, ho9⟩, hb9⟩
  have by9 := cell_below hb9 by8
  have hx9 := hx8.below hb9
  have yr9 := row_below hb9 yr8
  have U9 := U8.trans (hb9.mono (by omega))
  have y9 := hb9.size
  have HLT : Hid (∀ g, HeapBlocks (.slice a9 R.calls.length k9) (.slice d9 R.said.length e9) R.calls.length V9 g → w8.heap.size ≤ g ∧ g < w9.heap.size) := fun g hg => ho9.lt hg
  clear HC x0 x1 x2 x3 x4 hb9 by8 hx8 yr8 U8 L8
  go_upto_region 12 with fail
  have N9 := (Below.refl w9.heap.size w9).alloc (Nat.le_refl _) (.cells #[.slice a9 R.calls.length k9, .int .i64 R.now, .int .i64 R.born, .slice d9 R.said.length e9, .int .i64 R.code] 34)
  have gzA := five_new w9 34 (.slice a9 R.calls.length k9) (.int .i64 R.now) (.int .i64 R.born) (.slice d9 R.said.length e9) (.int .i64 R.code)
  have byA := cell_below N9 by9
  have hoA := ho9.below N9
  have hxA := hx9.below N9
  have yrA := row_below N9 yr9
  have UA := U9.trans (N9.mono (by omega))
  generalize w9.alloc (.cells #[.slice a9 R.calls.length k9, .int .i64 R.now, .int .i64 R.born, .slice d9 R.said.length e9, .int .i64 R.code] 34) = wA at *
  have yA := gzA.lt
  clear N9 by9 ho9 hx9 yr9 U9
  have LA : Below w4.heap.size w4 wA := L5.trans (UA.mono y5)
  obtain ⟨⟨x0, x1, x2, x3, x4⟩, xf⟩ := five_cells (row_below LA HW4.out)
  obtain ⟨⟨g0, g1, g2, g3, g4⟩, gf⟩ := five_cells gzA
  clear xf gf
  go_wp2_with fail
  refine (eqHeap_same R _ _ _ _ _ hoA.at (HH4.out.below LA)).mono ?_
  rintro e wB ⟨rfl, hbB⟩
  clear x0 x1 x2 x3 x4 g0 g1 g2 g3 g4
  have LB := LA.trans (hbB.mono (by omega))
  have BB := HB4.out.trans (LB.mono z4)
  have UB := UA.trans (hbB.mono (by omega))
  have byB := cell_below hbB byA
  have bxB : wB.cell? ⟨wI.heap.size, 0, none⟩ = some (.slice aS ms.length cap) := cell_below LB HX4.out
  have hMBd : MethsAt wB.drew _ ms := (HM5.out.1.at.below UB).below (Below.refl _ _).drew
  have hmBd : MethsAt wB.drew _ ms := (hm.below BB).below (Below.refl _ _).drew
  have bxBd : wB.drew.cell? ⟨wI.heap.size, 0, none⟩ = some (.slice aS ms.length cap) := bxB
  have byBd : wB.drew.cell? ⟨w5.heap.size, 0, none⟩ = some (.slice (some ⟨g5, 0, none⟩) l5 c5) := byB
  go_wp2_with fail
  go_region_held3 (fun w' => w'.cell? ⟨wI.heap.size, 0, none⟩ = some (.slice aS ms.length cap) ∧ w'.cell? ⟨w5.heap.size, 0, none⟩ = some (.slice (some ⟨g5, 0, none⟩) l5 c5))
    (first | exact ⟨bxQ, byQ⟩ | exact ⟨bxP, byP⟩ | go_keep)
    ((first
      | (have hx := hbP; clear hx; go_at_call 13; refine (eqProg_same _ _ ms _ (hMBd.below hbP) hmP.at).mono ?_; rintro e wQ ⟨rfl, hbQ⟩; have bxQ := cell_below hbQ bxP; have byQ := cell_below hbQ byP)
      | (go_at_call 9; refine (toProg_any _ ms _ hmBd HN.out.1 HN.out.2).mono ?_; rintro e wP ⟨vP, rfl, hmP, hbP, hnfP, hhiP⟩; have bxP := cell_below hbP bxBd; have byP := cell_below hbP byBd)))
  have hzP := hbP.size
  have yBd : wB.drew.heap.size = wB.heap.size := rfl
  have KQ : Below wA.heap.size wA wQ := hbB.drew.trans ((hbP.trans (hbQ.mono hzP)).mono (by have := hbB.size; omega))
  clear hzP hbP hbQ hnfP hhiP hmP hMBd hmBd bxBd byBd bxP byP bxQ byQ yBd bxB byB LB BB UB hbB
  have LQ := LA.trans (KQ.mono (by omega))
  have BQ := HB4.out.trans (LQ.mono z4)
  have hxQd : HeapAt wQ.drew _ _ h := (hxA.at.below KQ).below (Below.refl _ _).drew
  have hhQd : HeapAt wQ.drew _ _ h := (hh.below BQ).below (Below.refl _ _).drew
  have yrQd : wQ.drew.rowIs w7.heap.size 34 5 (five (.slice (some ⟨g7, 0, none⟩) h.calls.length h.calls.length) (.int .i64 h.now) (.int .i64 h.born) (.slice (some ⟨s7, 0, none⟩) h.said.length h.said.length) (.int .i64 h.code)) := row_below KQ yrA
  have bhQd : wQ.drew.rowIs (wI.heap.size + 1) 28 5 (five (.slice ac h.calls.length kc) (.int .i64 h.now) (.int .i64 h.born) (.slice aD h.said.length kD) (.int .i64 h.code)) := row_below LQ HY4.out
  obtain ⟨⟨x0, x1, x2, x3, x4⟩, xf⟩ := five_cells bhQd
  obtain ⟨⟨t0, t1, t2, t3, t4⟩, yf⟩ := five_cells yrQd
  clear xf yf
  go_wp2_with fail
  go_region_held3 (fun w' => (w'.cell? ⟨wI.heap.size + 1, 0, none⟩ = some (.slice ac h.calls.length kc) ∧ w'.cell? ⟨wI.heap.size + 1, 1, none⟩ = some (.int .i64 h.now) ∧ w'.cell? ⟨wI.heap.size + 1, 2, none⟩ = some (.int .i64 h.born) ∧ w'.cell? ⟨wI.heap.size + 1, 3, none⟩ = some (.slice aD h.said.length kD) ∧ w'.cell? ⟨wI.heap.size + 1, 4, none⟩ = some (.int .i64 h.code)) ∧ (w'.cell? ⟨w7.heap.size, 0, none⟩ = some (.slice (some ⟨g7, 0, none⟩) h.calls.length h.calls.length) ∧ w'.cell? ⟨w7.heap.size, 1, none⟩ = some (.int .i64 h.now) ∧ w'.cell? ⟨w7.heap.size, 2, none⟩ = some (.int .i64 h.born) ∧ w'.cell? ⟨w7.heap.size, 3, none⟩ = some (.slice (some ⟨s7, 0, none⟩) h.said.length h.said.length) ∧ w'.cell? ⟨w7.heap.size, 4, none⟩ = some (.int .i64 h.code)))
    (first | exact ⟨XE.out, YE.out⟩ | exact ⟨XD.out, YD.out⟩ | go_keep)
    ((first
      | (have hq := hbD; clear hq; go_at_call 12; refine (eqHeap_same h _ _ _ _ _ (hxQd.below hbD) HD).mono ?_; rintro e wE ⟨rfl, hbE⟩; have XE : Hid _ := (five_cells (row_below hbE xD)).1; have YE : Hid _ := (five_cells (row_below hbE yD)).1)
      | (go_at_call 10; refine (toHeap_any h _ _ _ hhQd HSM.out).mono ?_; rintro e wD ⟨gD, sD, GD, rfl, hgD, hND, hbD, hnfD⟩; have HD := hND.at hlm; have xD := row_below hbD bhQd; have yD := row_below hbD yrQd; have XD : Hid _ := (five_cells xD).1; have YD : Hid _ := (five_cells yD).1)))
  have hzD := hbD.size
  have yQd : wQ.drew.heap.size = wQ.heap.size := rfl
  have KE : Below wA.heap.size wA wE := KQ.drew.trans ((hbD.trans (hbE.mono hzD)).mono (by have := KQ.size; omega))
  clear hzD yQd hbD hbE hnfD hgD hND HD xD yD XD YD XE YE hxQd hhQd yrQd bhQd x0 x1 x2 x3 x4 t0 t1 t2 t3 t4 KQ LQ BQ
  have UE := UA.trans (KE.mono (by omega))
  have byE := cell_below KE byA
  have gzE := row_below KE gzA
  have hoE := hoA.below KE
  have hxE := hxA.below KE
  have yrE := row_below KE yrA
  have LE := LA.trans (KE.mono (by omega))
  have yE := KE.size
  clear KE UA byA gzA hoA hxA yrA LA
  go_wp2_with fail
  refine (markProg_any w4.heap.size _ ms w5 _ HM5.out.1 HM5.out.2.1 HM5.out.2.2 UE HN.out.1 HN.out.2).mono ?_
  rintro e wF ⟨hmid, K, rfl, hK0, hK1⟩
  have yF := hmid.size
  have LF : Below w4.heap.size w4 wF := hmid.belowX LE (Nat.le_refl _) (Nat.le_refl _)
  have gzF := gzE.of_block (hmid.block w9.heap.size gzE.lt (.inr (by omega)))
  have yrF := yrE.of_block (hmid.block w7.heap.size yrE.lt (.inr (by omega)))
  have hoF : OwnHeap w8.heap.size wF _ _ R V9 := hoE.kept hmid.size fun g hg => hmid.block g (hoE.lt hg).2 (.inr (by have := (HLT.out g hg).1; omega))
  have hxF : OwnHeap w6.heap.size wF _ _ h V7 := hxE.kept hmid.size fun g hg => hmid.block g (hxE.lt hg).2 (.inr (by have := (HX7.out g hg).1; omega))
  clear hmid gzE yrE hoE hxE UE byE LE
  obtain ⟨⟨x0, x1, x2, x3, x4⟩, xf⟩ := five_cells yrF
  clear xf
  go_wp2_with fail
  refine (markHeap_any w6.heap.size _ _ h V7 K _ hxF HSM.out.fits hK0 (by omega)).mono ?_
  rintro e wG ⟨rfl, hxG, hwG⟩
  have yG := hwG.size
  have LG : Below w4.heap.size w4 wG := hwG.below LF (Nat.le_refl _) (fun g hg => by have := (HX7.out g hg).1; omega)
  have gzG := gzF.of_block (hwG.block w9.heap.size gzF.lt (fun hg => by have := (HX7.out _ hg).2; omega))
  have hoG : OwnHeap w8.heap.size wG _ _ R V9 := hoF.kept hwG.size fun g hg => hwG.block g (hoF.lt hg).2 (fun hg' => by have := (HX7.out _ hg').2; have := (HLT.out g hg).1; omega)
  clear hwG hxG hxF yrF gzF hoF LF x0 x1 x2 x3 x4
  have hKe : 0 ≤ endH K h := by
    have := (kAt_le K h.calls HSM.out.2.1 h.calls.length (Nat.le_refl _)).1
    unfold endH
    omega
  have hKn : ¬ endH K h < 0 := by omega
  obtain ⟨⟨x0, x1, x2, x3, x4⟩, xf⟩ := five_cells (row_below LG HW4.out)
  obtain ⟨⟨g0, g1, g2, g3, g4⟩, gf⟩ := five_cells gzG
  clear xf gf
  go_wp2_with fail
  refine (eqHeap_same R _ _ _ _ _ hoG.at (HH4.out.below LG)).mono ?_
  rintro e wS ⟨rfl, hbS⟩
  have LS := LG.trans (hbS.mono (by omega))
  have gzS := row_below hbS gzG
  have hoS := hoG.below hbS
  have yS := hbS.size
  clear hbS gzG hoG LG x0 x1 x2 x3 x4 g0 g1 g2 g3 g4
  obtain ⟨⟨g0, g1, g2, g3, g4⟩, gf⟩ := five_cells gzS
  clear gf
  go_wp2_with fail
  refine (markHeap_any w8.heap.size _ _ R V9 1 _ hoS HS.out (by omega) (by omega)).mono ?_
  rintro e wT ⟨rfl, hoT, hwT⟩
  have LT : Below w4.heap.size w4 wT := hwT.below LS (Nat.le_refl _) (fun g hg => by have := (HLT.out g hg).1; omega)
  have gzT := gzS.of_block (hwT.block w9.heap.size gzS.lt (fun hg => by have := (HLT.out _ hg).2; omega))
  have yT := hwT.size
  clear hwT LS gzS hoS g0 g1 g2 g3 g4
  have hE0 : 0 ≤ endH 1 R := by
    have := (kAt_le 1 R.calls HS.out.2.1 R.calls.length (Nat.le_refl _)).1
    unfold endH
    omega
  have hEn : ¬ endH 1 R < 0 := by omega
  obtain ⟨⟨g0, g1, g2, g3, g4⟩, gf⟩ := five_cells gzT
  clear gf
  go_wp2_with fail
  refine (heldHeap_any _ _ R 1 _ hoT.at HS.out (by omega) (by omega)).mono ?_
  rintro e wU ⟨rfl, hbU⟩
  have LU := LT.trans (hbU.mono (by omega))
  have gzU := row_below hbU gzT
  have hoU := hoT.below hbU
  have BU : Below wI.heap.size wI wU := HB4.out.trans (LU.mono z4)
  have zU := BU.size
  have bxU := cell_below LU HX4.out
  have bhU := row_below LU HY4.out
  have yU := hbU.size
  clear hbU LT gzT hoT g0 g1 g2 g3 g4
  go_upto_region 31 with fail
  refine wp_region_fs [[], [0], [], [0, 1, 2], [0, 1, 2, 3], [0, 1, 2, 3, 4], [0, 1, 2, 3, 4, 5], [0, 1, 2, 3, 4, 5], [], [0, 1, 2, 3, 4, 5, 6, 8], [0, 1, 2, 3, 4, 5, 6, 7, 8, 9]] [[0], [1], [2], [3], [4], [5, 4], [6, 5], [7], [8], [8, 6], [10]] [[], [], [], [], [], [], [], [], [], [8], []] [fIs (.agg #[.slice aS ms.length cap]), fGh 1 (fun (x : Value) l => l = [.agg #[x]]) (fun x w1 => MethsAt w1 x ms), fIs (.agg #[.slice ac h.calls.length kc, .int .i64 h.now, .int .i64 h.born, .slice aD h.said.length kD, .int .i64 h.code]), fGh 3 (fun (x : Nat × Nat) l => l = [.agg (hpCells (full x.1 h.calls.length) (full x.2 h.said.length) h)]) (fun x w1 => HeapAt w1 (full x.1 h.calls.length) (full x.2 h.said.length) h), fGh 4 (fun (x : HX) l => l = [.tuple #[.agg #[.slice x.ac R.calls.length x.kc, .int .i64 R.now, .int .i64 R.born, .slice x.ad R.said.length x.kd, .int .i64 R.code], .bool okb]]) (fun x w1 => HeapAt w1 (.slice x.ac R.calls.length x.kc) (.slice x.ad R.said.length x.kd) R), fOf fun l => l.getD 0 undef = l.getD 1 undef, fOf fun l => l.getD 0 undef = tget (l.getD 1 undef) 0, fIs (.bool okb), fBox 8 34 5, fRow 8 34 5 fun b f l => l.getD 0 undef = .pointer (some ⟨b, 0, none⟩) ∧ f = fun q => (l.getD 1 undef).cells.toList.getD q undef, fIs (.bool okb)] 11 rfl (by kernel_rfl) (by kernel_rfl) ?_ ?_
  · refine all_lt_succ (all_lt_succ (all_lt_succ (all_lt_succ (all_lt_succ (all_lt_succ (all_lt_succ (all_lt_succ (all_lt_succ (all_lt_succ (all_lt_succ (all_lt_zero) ?_) ?_) ?_) ?_) ?_) ?_) ?_) ?_) ?_) ?_) ?_
    · intro a w val own hB hf hown hk
      have s2 := hf.at (d := 2) (v := .pointer (some ⟨wI.heap.size, 0, none⟩)) (by kernel_rfl) rfl
      have c0 := cell_below hB bxU
      exact rf_pure (v := .agg #[.slice aS ms.length cap]) hB rfl rfl (by unfold execOp; go_simp) rfl
    · intro a w val own hB hf hown hk
      obtain ⟨k0, f0⟩ := hk 0 (show 0 ∈ [0] by decide)
      have s95 := k0 95 rfl
      rw [fIs_out f0] at s95
      clear k0 f0
      exact rf_call hB rfl rfl (by unfold execOp; go_simp) ((toProg_any _ ms w (hm.below (BU.trans (hB.mono zU))) HN.out.1 HN.out.2).mono fun e w' ⟨v', he, hn, hb, _, _⟩ => ⟨_, he, hb, v', rfl, Made.new fun w1 _ _ hr => hn.kept hr⟩)
    · intro a w val own hB hf hown hk
      have s3 := hf.at (d := 3) (v := .pointer (some ⟨wI.heap.size + 1, 0, none⟩)) (by kernel_rfl) rfl
      obtain ⟨⟨c0, c1, c2, c3, c4⟩, _⟩ := five_cells (row_below hB bhU)
      exact rf_pure (v := .agg #[.slice ac h.calls.length kc, .int .i64 h.now, .int .i64 h.born, .slice aD h.said.length kD, .int .i64 h.code]) hB rfl rfl (by unfold execOp; go_simp) rfl
    · intro a w val own hB hf hown hk
      obtain ⟨k2, f2⟩ := hk 2 (show 2 ∈ [0, 1, 2] by decide)
      have s97 := k2 97 rfl
      rw [fIs_out f2] at s97
      clear k2 f2
      exact rf_call hB rfl rfl (by unfold execOp hpCells; go_simp) ((toHeap_any h (.slice ac h.calls.length kc) (.slice aD h.said.length kD) w (hh.below (BU.trans (hB.mono zU))) HSM.out).mono fun e w' ⟨g, s, G, he, hg, hN, hb, hnf⟩ => ⟨_, he, hb, (g, s), rfl, Made.new fun w1 hs _ hr => hN.kept hg hnf hlm hs hr⟩)
    · intro a w val own hB hf hown hk
      obtain ⟨k1, vp1, e1, m1⟩ := hk 1 (show 1 ∈ [0, 1, 2, 3] by decide)
      have v1 := one_eq e1
      have s96 := k1 96 rfl
      rw [v1] at s96
      clear k1 e1
      obtain ⟨k3, vh3, e3, m3⟩ := hk 3 (show 3 ∈ [0, 1, 2, 3] by decide)
      have v3 := one_eq e3
      have s98 := k3 98 rfl
      rw [v3] at s98
      clear k3 e3
      exact rf_call hB rfl rfl (by unfold execOp; go_simp) ((HIR vp1 _ _ w (m1.here hB) (m3.here hB)).mono fun e w' ⟨⟨a1, k1, a2, k2, V, he, ho⟩, hb⟩ => ⟨_, he, hb, ⟨a1, k1, a2, k2⟩, rfl, own_made ho⟩)
    · intro a w val own hB hf hown hk
      have s99 := (hk 4 (show 4 ∈ [0, 1, 2, 3, 4] by decide)).1 99 rfl
      exact rf_pure (v := val 4) hB rfl rfl (by unfold execOp; go_simp) rfl
    · intro a w val own hB hf hown hk
      obtain ⟨k4, xh, e4, m4⟩ := hk 4 (show 4 ∈ [0, 1, 2, 3, 4, 5] by decide)
      have v4 := one_eq e4
      have s99 := k4 99 rfl
      rw [v4] at s99
      clear k4 e4
      obtain ⟨k5, f5⟩ := hk 5 (show 5 ∈ [0, 1, 2, 3, 4, 5] by decide)
      have v5 : val 5 = _ := Eq.trans f5 v4
      have s94 := k5 94 rfl
      rw [v5] at s94
      clear k5 f5
      exact rf_pure (v := .agg #[.slice xh.ac R.calls.length xh.kc, .int .i64 R.now, .int .i64 R.born, .slice xh.ad R.said.length xh.kd, .int .i64 R.code]) hB rfl rfl (by unfold execOp; go_simp) (by show _ = tget (val 5) 0; rw [v5]; rfl)
    · intro a w val own hB hf hown hk
      obtain ⟨k4, xh, e4, m4⟩ := hk 4 (show 4 ∈ [0, 1, 2, 3, 4, 5] by decide)
      have v4 := one_eq e4
      have s99 := k4 99 rfl
      rw [v4] at s99
      clear k4 e4
      obtain ⟨k5, f5⟩ := hk 5 (show 5 ∈ [0, 1, 2, 3, 4, 5] by decide)
      have v5 : val 5 = _ := Eq.trans f5 v4
      have s94 := k5 94 rfl
      rw [v5] at s94
      clear k5 f5
      exact rf_pure (v := .bool okb) hB rfl rfl (by unfold execOp; go_simp) rfl
    · intro a w val own hB hf hown hk
      exact rf_new (v := .pointer (some ⟨w.heap.size, 0, none⟩)) (w' := w.alloc (.cells #[.slice none 0 0, .int .i64 0, .int .i64 0, .slice none 0 0, .int .i64 0] 34)) hB rfl rfl (by unfold execOp; go_simp) ((Below.refl _ _).alloc (Nat.le_refl _) _) (fBox_new hB #[.slice none 0 0, .int .i64 0, .int .i64 0, .slice none 0 0, .int .i64 0])
    · intro a w val own hB hf hown hk
      obtain ⟨k8, bo8, g8, e8, ho8, hW8, r8⟩ := hk 8 (show 8 ∈ [0, 1, 2, 3, 4, 5, 6, 8] by decide)
      have v8 := one_eq e8
      have s15 := k8 15 rfl
      rw [v8] at s15
      clear k8 e8
      obtain ⟨k4, xh, e4, m4⟩ := hk 4 (show 4 ∈ [0, 1, 2, 3, 4, 5, 6, 8] by decide)
      have v4 := one_eq e4
      have s99 := k4 99 rfl
      rw [v4] at s99
      clear k4 e4
      obtain ⟨k5, f5⟩ := hk 5 (show 5 ∈ [0, 1, 2, 3, 4, 5, 6, 8] by decide)
      have v5 : val 5 = _ := Eq.trans f5 v4
      have s94 := k5 94 rfl
      rw [v5] at s94
      clear k5 f5
      obtain ⟨k6, f6⟩ := hk 6 (show 6 ∈ [0, 1, 2, 3, 4, 5, 6, 8] by decide)
      have v6 : val 6 = .agg #[.slice xh.ac R.calls.length xh.kc, .int .i64 R.now, .int .i64 R.born, .slice xh.ad R.said.length xh.kd, .int .i64 R.code] := by have e : val 6 = tget (val 5) 0 := f6; rw [e, v5]; rfl
      have s100 := k6 100 rfl
      rw [v6] at s100
      clear k6 f6
      have c0 := r8.cell (i := 0) (by decide)
      have c1 := r8.cell (i := 1) (by decide)
      have c2 := r8.cell (i := 2) (by decide)
      have c3 := r8.cell (i := 3) (by decide)
      have c4 := r8.cell (i := 4) (by decide)
      have z0 := r8.frozen 0
      have z1 := r8.frozen 1
      have z2 := r8.frozen 2
      have z3 := r8.frozen 3
      have z4 := r8.frozen 4
      exact rf_set (w' := setAll w bo8 0 [.slice xh.ac R.calls.length xh.kc, .int .i64 R.now, .int .i64 R.born, .slice xh.ad R.said.length xh.kd, .int .i64 R.code]) rfl rfl (by unfold execOp; simp only [setAll]; go_simp) (setAll_does (show own bo8 ∈ [8] by rw [ho8]; decide) hW8 _ 0 hB) (fRow_set [.slice xh.ac R.calls.length xh.kc, .int .i64 R.now, .int .i64 R.born, .slice xh.ad R.said.length xh.kd, .int .i64 R.code] r8 ho8 hW8 rfl ⟨v8, by show _ = fun q => (val 6).cells.toList.getD q undef; rw [v6]; rfl⟩)
    · intro a w val own hB hf hown hk
      obtain ⟨k7, f7⟩ := hk 7 (show 7 ∈ [0, 1, 2, 3, 4, 5, 6, 7, 8, 9] by decide)
      have s101 := k7 101 rfl
      rw [fIs_out f7] at s101
      clear k7 f7
      exact rf_pure (v := .bool okb) hB rfl rfl (by unfold execOp; go_simp) rfl
  intro a wY val own hB hf hown hk
  obtain ⟨k8, bo8, g8, e8, ho8, hW8, r8⟩ := hk 8 (by decide)
  have v8 := one_eq e8
  have s15 := k8 15 rfl
  rw [v8] at s15
  clear k8 e8
  obtain ⟨k4, xh, e4, m4⟩ := hk 4 (by decide)
  have v4 := one_eq e4
  have s99 := k4 99 rfl
  rw [v4] at s99
  clear k4 e4
  obtain ⟨k5, f5⟩ := hk 5 (by decide)
  have v5 : val 5 = _ := Eq.trans f5 v4
  have s94 := k5 94 rfl
  rw [v5] at s94
  clear k5 f5
  obtain ⟨k6, f6⟩ := hk 6 (by decide)
  have v6 : val 6 = .agg #[.slice xh.ac R.calls.length xh.kc, .int .i64 R.now, .int .i64 R.born, .slice xh.ad R.said.length xh.kd, .int .i64 R.code] := by have e : val 6 = tget (val 5) 0 := f6; rw [e, v5]; rfl
  have s100 := k6 100 rfl
  rw [v6] at s100
  clear k6 f6
  obtain ⟨_, bo9, g9, ⟨e9, hg9⟩, _, _, r9⟩ := hk 9 (by decide)
  have q9 : bo9 = bo8 := by have e : val 8 = _ := e9; rw [v8] at e; injection e with e; injection e with e; injection e with e; exact e.symm
  subst q9
  have hg9 : g9 = fun q => (val 6).cells.toList.getD q undef := hg9
  rw [v6] at hg9
  subst hg9
  have r9 : wY.rowIs bo9 _ _ (fun q => [.slice xh.ac R.calls.length xh.kc, .int .i64 R.now, .int .i64 R.born, .slice xh.ad R.said.length xh.kd, .int .i64 R.code].getD q undef) := r9
  clear e9
  obtain ⟨k10, f10⟩ := hk 10 (by decide)
  have s16 := k10 16 rfl
  rw [fIs_out f10] at s16
  clear k10 f10
  have hhY := m4.here hB
  have hzY := row_fiveX r9
  clear m4 r9
  have s2 := hf.at (d := 2) (v := .pointer (some ⟨wI.heap.size, 0, none⟩)) (by kernel_rfl) rfl
  have s3 := hf.at (d := 3) (v := .pointer (some ⟨wI.heap.size + 1, 0, none⟩)) (by kernel_rfl) rfl
  have s6 := hf.at (d := 6) (v := .pointer (some ⟨bW, 0, none⟩)) (by kernel_rfl) rfl
  have s7 := hf.at (d := 7) (v := .bool okb) (by kernel_rfl) rfl
  have s10 := hf.at (d := 10) (v := .pointer (some ⟨w9.heap.size, 0, none⟩)) (by kernel_rfl) rfl
  have s13 := hf.at (d := 13) (v := .int .i64 (endH 1 R)) (by kernel_rfl) rfl
  obtain ⟨u', hu0, hv⟩ := frame_any a.tmps (n := 119) hf.size
  have hu : a.tmps = (u' 0 :: u' 1 :: u' 2 :: u' 3 :: u' 4 :: u' 5 :: u' 6 :: u' 7 :: u' 8 :: u' 9 :: u' 10 :: u' 11 :: u' 12 :: u' 13 :: u' 14 :: u' 15 :: u' 16 :: u' 17 :: u' 18 :: u' 19 :: u' 20 :: u' 21 :: u' 22 :: u' 23 :: u' 24 :: u' 25 :: u' 26 :: u' 27 :: u' 28 :: u' 29 :: u' 30 :: u' 31 :: u' 32 :: u' 33 :: u' 34 :: u' 35 :: u' 36 :: u' 37 :: u' 38 :: u' 39 :: u' 40 :: u' 41 :: u' 42 :: u' 43 :: u' 44 :: u' 45 :: u' 46 :: u' 47 :: u' 48 :: u' 49 :: u' 50 :: u' 51 :: u' 52 :: u' 53 :: u' 54 :: u' 55 :: u' 56 :: u' 57 :: u' 58 :: u' 59 :: u' 60 :: u' 61 :: u' 62 :: u' 63 :: u' 64 :: u' 65 :: u' 66 :: u' 67 :: u' 68 :: u' 69 :: u' 70 :: u' 71 :: u' 72 :: u' 73 :: u' 74 :: u' 75 :: u' 76 :: u' 77 :: u' 78 :: u' 79 :: u' 80 :: u' 81 :: u' 82 :: u' 83 :: u' 84 :: u' 85 :: u' 86 :: u' 87 :: u' 88 :: u' 89 :: u' 90 :: u' 91 :: u' 92 :: u' 93 :: u' 94 :: u' 95 :: u' 96 :: u' 97 :: u' 98 :: u' 99 :: u' 100 :: u' 101 :: u' 102 :: u' 103 :: u' 104 :: u' 105 :: u' 106 :: u' 107 :: u' 108 :: u' 109 :: u' 110 :: u' 111 :: u' 112 :: u' 113 :: u' 114 :: u' 115 :: u' 116 :: u' 117 :: u' 118 :: []).toArray := hu0
  rw [(hv 2).trans s2, (hv 3).trans s3, (hv 6).trans s6, (hv 7).trans s7, (hv 10).trans s10, (hv 13).trans s13, (hv 15).trans s15, (hv 16).trans s16] at hu
  obtain rfl := act_eq hu (show a.defers = [] from hf.defers)
  clear hu hu0 hv hk hown hf s2 s3 s6 s7 s10 s13 s15 s16
  obtain ⟨acY, kcY, adY, kdY⟩ := xh
  dsimp only at hhY hzY
  generalize bo9 = bY at *
  have LY := LU.trans (hB.mono (by omega))
  have gzY := row_below hB gzU
  have hogY := hoU.below hB
  have yY := hB.size
  clear LU gzU hoU BU bxU bhU hB
  obtain ⟨⟨x0, x1, x2, x3, x4⟩, xf⟩ := five_cells (row_below LY HW4.out)
  obtain ⟨⟨g0, g1, g2, g3, g4⟩, gf⟩ := five_cells hzY
  clear xf gf
  go_wp2_with fail
  refine (eqHeap_same R _ _ _ _ _ hhY (HH4.out.below LY)).mono ?_
  rintro e wZ ⟨rfl, hbZ⟩
  have LZ := LY.trans (hbZ.mono (by omega))
  have gzZ := row_below hbZ gzY
  have hogZ := hogY.below hbZ
  have yZ := hbZ.size
  clear hbZ LY gzY hogY hhY hzY x0 x1 x2 x3 x4 g0 g1 g2 g3 g4
  obtain ⟨⟨g0, g1, g2, g3, g4⟩, gf⟩ := five_cells gzZ
  clear gf
  go_wp2_with fail
  refine (heldHeap_any _ _ R 1 _ hogZ.at HS.out (by omega) (by omega)).mono ?_
  rintro e wL ⟨rfl, hbL⟩
  have BL : Below wI.heap.size wI wL := HB4.out.trans ((LZ.trans (hbL.mono (by omega))).mono z4)
  clear hbL LZ gzZ hogZ g0 g1 g2 g3 g4
  go_wp2
  go_ret
  exact ⟨rfl, BL⟩
end Go.Proofs.Ytnffknlgaiehdaa
