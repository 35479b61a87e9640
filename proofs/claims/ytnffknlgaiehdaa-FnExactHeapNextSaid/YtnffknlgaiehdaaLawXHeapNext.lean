/-
  The law FnExactHeapNext, walked: whatever methods and calls lie behind its arguments, it answers true and writes to nothing that was there.
-/
import Derived.Test.YtnffknlgaiehdaaCopy2
import Derived.Test.YtnffknlgaiehdaaSize
import Derived.Test.YtnffknlgaiehdaaSame
import Derived.Test.YtnffknlgaiehdaaHSize
import Derived.Test.YtnffknlgaiehdaaHSame
import Derived.Test.YtnffknlgaiehdaaHHeapOk
import Derived.Test.YtnffknlgaiehdaaHImpl6
import Derived.Test.YtnffknlgaiehdaaNext
import Derived.Test.YtnffknlgaiehdaaExKit
namespace Go.Proofs.Ytnffknlgaiehdaa
open Go.RowKit

set_option maxRecDepth 100000 in
set_option maxHeartbeats 4000000 in
theorem lawNext_any (v vc vs : Value) (ms : List (Int × Int × List (Int × Int))) (h : Hp) (wI : World) (hm : MethsAt wI v ms) (hh : HeapAt wI vc vs h) :
    Calls Try.prog 4 #[.agg #[v], .agg (hpCells vc vs h)] wI fun e w' => e = .returned (.bool true) ∧ Below wI.heap.size wI w' := by
  obtain ⟨aS, cap, hv, hvx⟩ := id hm
  clear hvx
  obtain ⟨ac, kc, hvc⟩ := hh.c.shape
  obtain ⟨aD, kD, hvs⟩ := hh.s.shape
  subst hv hvc hvs
  unfold hpCells
  have hA : Below wI.heap.size wI ((wI.alloc (.cells #[.slice aS ms.length cap] 24)).alloc (.cells #[.slice ac h.calls.length kc, .int .i64 h.now, .int .i64 h.born, .slice aD h.said.length kD, .int .i64 h.code] 28)) := ((Below.refl _ _).alloc (Nat.le_refl _) _).alloc (by simp) _
  have bx : ((wI.alloc (.cells #[.slice aS ms.length cap] 24)).alloc (.cells #[.slice ac h.calls.length kc, .int .i64 h.now, .int .i64 h.born, .slice aD h.said.length kD, .int .i64 h.code] 28)).cell? ⟨wI.heap.size, 0, none⟩ = some (.slice aS ms.length cap) := by simp [go_sem]
  have bh := five_new (wI.alloc (.cells #[.slice aS ms.length cap] 24)) 28 (.slice ac h.calls.length kc) (.int .i64 h.now) (.int .i64 h.born) (.slice aD h.said.length kD) (.int .i64 h.code)
  simp only [World.size_alloc] at bh
  go_enter Try.func4, Try.ntmps4
  go_wp2_with fail
  generalize (wI.alloc (.cells #[.slice aS ms.length cap] 24)).alloc (.cells #[.slice ac h.calls.length kc, .int .i64 h.now, .int .i64 h.born, .slice aD h.said.length kD, .int .i64 h.code] 28) = W0 at *
  have z0 := hA.size
  refine (szProg_any _ ms _ _ (hm.below hA) (by omega) (by omega)).mono ?_
  rintro e w1 ⟨r, rfl, hr1, hr0, hb1⟩
  have B1 : Below wI.heap.size wI w1 := hA.trans (hb1.mono z0)
  have bx1 := cell_below hb1 bx
  have bh1 := row_below hb1 bh
  have HR : Hid (0 ≤ r → ms.length ≤ 1048576 ∧ ∀ i, (hi : i < ms.length) → ms[i].2.2.length ≤ 1048576) := hr0
  clear hr0 hb1 bx bh hA z0
  by_cases hr : r < 0
  · go_wp2
    go_ret
    exact ⟨rfl, B1⟩
  have hr' : 0 ≤ r := by omega
  have HN : Hid (ms.length ≤ 1048576 ∧ ∀ i, (hi : i < ms.length) → ms[i].2.2.length ≤ 1048576) := HR.out hr'
  clear HR
  have z1 := B1.size
  obtain ⟨⟨x0, x1, x2, x3, x4⟩, xf⟩ := five_cells bh1
  clear xf
  go_wp2_with fail
  refine (szHeap_any h _ _ _ _ (hh.below B1) hr' hr1).mono ?_
  rintro e w2 ⟨r2, rfl, hq1, hq0, hb2⟩
  have B2 : Below wI.heap.size wI w2 := B1.trans (hb2.mono z1)
  have bx2 := cell_below hb2 bx1
  have bh2 := row_below hb2 bh1
  have HS0 : Hid (0 ≤ r2 → h.small) := hq0
  clear hq0 hb2 bx1 bh1 B1 z1 x0 x1 x2 x3 x4
  by_cases hq : r2 < 0
  · go_wp2
    go_ret
    exact ⟨rfl, B2⟩
  have hq' : 0 ≤ r2 := by omega
  have HSM : Hid h.small := HS0.out hq'
  clear HS0
  have z2 := B2.size
  have B2d : Below wI.heap.size wI w2.drew := B2.drew
  have z2d := B2d.size
  have C2 : Hid (w2.cell? ⟨wI.heap.size, 0, none⟩ = some (.slice aS ms.length cap) ∧ w2.cell? ⟨wI.heap.size + 1, 0, none⟩ = some (.slice ac h.calls.length kc) ∧ w2.cell? ⟨wI.heap.size + 1, 1, none⟩ = some (.int .i64 h.now) ∧ w2.cell? ⟨wI.heap.size + 1, 2, none⟩ = some (.int .i64 h.born) ∧ w2.cell? ⟨wI.heap.size + 1, 3, none⟩ = some (.slice aD h.said.length kD) ∧ w2.cell? ⟨wI.heap.size + 1, 4, none⟩ = some (.int .i64 h.code)) := ⟨bx2, (five_cells bh2).1⟩
  have bh2d : w2.drew.rowIs (wI.heap.size + 1) 28 5 (five (.slice ac h.calls.length kc) (.int .i64 h.now) (.int .i64 h.born) (.slice aD h.said.length kD) (.int .i64 h.code)) := bh2
  have M2 := hm.below B2d
  have H2 := hh.below B2d
  obtain ⟨⟨x0, x1, x2, x3, x4⟩, xf⟩ := five_cells bh2
  clear xf
  clear x0 x1 x2 x3 x4 M2 H2 bh2d C2 z2d B2d
  have hlm : h.calls.length ≤ maxLen := by { have := HSM.out.1; unfold maxLen; omega }
  obtain ⟨⟨na, nb⟩, hnab⟩ : ∃ q : Int × Int, nextOf ms h = q := ⟨_, rfl⟩
  obtain ⟨nz, hnz⟩ : ∃ q : Bool, hasNext ms h = q := ⟨_, rfl⟩
  have HNS : ∀ (vp vc vs : Value) (W : World), MethsAt W vp ms → HeapAt W vc vs h → Calls Try.prog 17 #[.agg #[vp], .agg (hpCells vc vs h)] W fun e w' => e = .returned (.tuple #[.agg #[.int .i64 na, .int .i64 nb], .bool nz]) ∧ Below W.heap.size W w' := fun vp vc vs W h1 h2 => by have q := specHeapNext_any vp vc vs ms h W h1 h2 HSM.out.1; rw [hnab, hnz] at q; exact q
  have HNI : ∀ (vp vc vs : Value) (W : World), MethsAt W vp ms → HeapAt W vc vs h → Calls Try.prog 18 #[.agg #[vp], .agg (hpCells vc vs h)] W fun e w' => e = .returned (.tuple #[.agg #[.int .i64 na, .int .i64 nb], .bool nz]) ∧ Below W.heap.size W w' := fun vp vc vs W h1 h2 => by have q := implHeapNext_any vp vc vs ms h W h1 h2 HSM.out.1; rw [hnab, hnz] at q; exact q
  clear hnab hnz
  go_upto_region 8 with fail
  refine wp_region_fs [[], [0], [], [0, 1, 2], [0, 1, 2, 3], [0, 1, 2, 3, 4], [0, 1, 2, 3, 4, 5], [0, 1, 2, 3, 4, 5], [], [0, 1, 2, 3, 4, 5, 6, 8], [0, 1, 2, 3, 4, 5, 6, 7, 8, 9]] [[0], [1], [2], [3], [4], [5], [6], [7], [8], [8], [10]] [[], [], [], [], [], [], [], [], [], [8], []] [fIs (.agg #[.slice aS ms.length cap]), fGh 1 (fun (x : Value) l => l = [.agg #[x]]) (fun x w1 => MethsAt w1 x ms), fIs (.agg #[.slice ac h.calls.length kc, .int .i64 h.now, .int .i64 h.born, .slice aD h.said.length kD, .int .i64 h.code]), fGh 3 (fun (x : Nat × Nat) l => l = [.agg (hpCells (full x.1 h.calls.length) (full x.2 h.said.length) h)]) (fun x w1 => HeapAt w1 (full x.1 h.calls.length) (full x.2 h.said.length) h), fIs (.tuple #[.agg #[.int .i64 na, .int .i64 nb], .bool nz]), fIs (.tuple #[.agg #[.int .i64 na, .int .i64 nb], .bool nz]), fIs (.agg #[.int .i64 na, .int .i64 nb]), fIs (.bool nz), fBox 8 48 2, fRow 8 48 2 fun b f l => l.getD 0 undef = .pointer (some ⟨b, 0, none⟩) ∧ f = fun q => ([.int .i64 na, .int .i64 nb] : List Value).getD q undef, fIs (.bool nz)] 11 rfl (by kernel_rfl) (by kernel_rfl) ?_ ?_
  · refine all_lt_succ (all_lt_succ (all_lt_succ (all_lt_succ (all_lt_succ (all_lt_succ (all_lt_succ (all_lt_succ (all_lt_succ (all_lt_succ (all_lt_succ (all_lt_zero) ?_) ?_) ?_) ?_) ?_) ?_) ?_) ?_) ?_) ?_) ?_
    · intro a w val own hB hf hown hk
      have s2 := hf.at (d := 2) (v := .pointer (some ⟨wI.heap.size, 0, none⟩)) (by kernel_rfl) rfl
      have c0 := cell_below hB bx2
      exact rf_pure (v := .agg #[.slice aS ms.length cap]) hB rfl rfl (by unfold execOp; go_simp) rfl
    · intro a w val own hB hf hown hk
      obtain ⟨k0, f0⟩ := hk 0 (show 0 ∈ [0] by decide)
      have s23 := k0 23 rfl
      rw [fIs_out f0] at s23
      clear k0 f0
      exact rf_call hB rfl rfl (by unfold execOp; go_simp) ((toProg_any _ ms w (hm.below (B2.trans (hB.mono z2))) HN.out.1 HN.out.2).mono fun e w' ⟨v', he, hn, hb, _, _⟩ => ⟨_, he, hb, v', rfl, Made.new fun w1 _ _ hr => hn.kept hr⟩)
    · intro a w val own hB hf hown hk
      have s3 := hf.at (d := 3) (v := .pointer (some ⟨wI.heap.size + 1, 0, none⟩)) (by kernel_rfl) rfl
      obtain ⟨⟨c0, c1, c2, c3, c4⟩, _⟩ := five_cells (row_below hB bh2)
      exact rf_pure (v := .agg #[.slice ac h.calls.length kc, .int .i64 h.now, .int .i64 h.born, .slice aD h.said.length kD, .int .i64 h.code]) hB rfl rfl (by unfold execOp; go_simp) rfl
    · intro a w val own hB hf hown hk
      obtain ⟨k2, f2⟩ := hk 2 (show 2 ∈ [0, 1, 2] by decide)
      have s25 := k2 25 rfl
      rw [fIs_out f2] at s25
      clear k2 f2
      exact rf_call hB rfl rfl (by unfold execOp hpCells; go_simp) ((toHeap_any h (.slice ac h.calls.length kc) (.slice aD h.said.length kD) w (hh.below (B2.trans (hB.mono z2))) HSM.out).mono fun e w' ⟨g, s, G, he, hg, hN, hb, hnf⟩ => ⟨_, he, hb, (g, s), rfl, Made.new fun w1 hs _ hr => hN.kept hg hnf hlm hs hr⟩)
    · intro a w val own hB hf hown hk
      obtain ⟨k1, vp1, e1, m1⟩ := hk 1 (show 1 ∈ [0, 1, 2, 3] by decide)
      have v1 := one_eq e1
      have s24 := k1 24 rfl
      rw [v1] at s24
      clear k1 e1
      obtain ⟨k3, vh3, e3, m3⟩ := hk 3 (show 3 ∈ [0, 1, 2, 3] by decide)
      have v3 := one_eq e3
      have s26 := k3 26 rfl
      rw [v3] at s26
      clear k3 e3
      exact rf_call hB rfl rfl (by unfold execOp; go_simp) ((HNS vp1 _ _ w (m1.here hB) (m3.here hB)).mono fun e w' ⟨he, hb⟩ => ⟨_, he, hb, rfl⟩)
    · intro a w val own hB hf hown hk
      obtain ⟨k4, f4⟩ := hk 4 (show 4 ∈ [0, 1, 2, 3, 4] by decide)
      have s27 := k4 27 rfl
      rw [fIs_out f4] at s27
      clear k4 f4
      exact rf_pure (v := .tuple #[.agg #[.int .i64 na, .int .i64 nb], .bool nz]) hB rfl rfl (by unfold execOp; go_simp) rfl
    · intro a w val own hB hf hown hk
      obtain ⟨k5, f5⟩ := hk 5 (show 5 ∈ [0, 1, 2, 3, 4, 5] by decide)
      have s22 := k5 22 rfl
      rw [fIs_out f5] at s22
      clear k5 f5
      exact rf_pure (v := .agg #[.int .i64 na, .int .i64 nb]) hB rfl rfl (by unfold execOp; go_simp) rfl
    · intro a w val own hB hf hown hk
      obtain ⟨k5, f5⟩ := hk 5 (show 5 ∈ [0, 1, 2, 3, 4, 5] by decide)
      have s22 := k5 22 rfl
      rw [fIs_out f5] at s22
      clear k5 f5
      exact rf_pure (v := .bool nz) hB rfl rfl (by unfold execOp; go_simp) rfl
    · intro a w val own hB hf hown hk
      exact rf_new (v := .pointer (some ⟨w.heap.size, 0, none⟩)) (w' := w.alloc (.cells #[.int .i64 0, .int .i64 0] 48)) hB rfl rfl (by unfold execOp; go_simp) ((Below.refl _ _).alloc (Nat.le_refl _) _) (fBox_new hB #[.int .i64 0, .int .i64 0])
    · intro a w val own hB hf hown hk
      obtain ⟨k8, bo8, g8, e8, ho8, hW8, r8⟩ := hk 8 (show 8 ∈ [0, 1, 2, 3, 4, 5, 6, 8] by decide)
      have v8 := one_eq e8
      have s6 := k8 6 rfl
      rw [v8] at s6
      clear k8 e8
      obtain ⟨k6, f6⟩ := hk 6 (show 6 ∈ [0, 1, 2, 3, 4, 5, 6, 8] by decide)
      have s28 := k6 28 rfl
      rw [fIs_out f6] at s28
      clear k6 f6
      have c0 := r8.cell (i := 0) (by decide)
      have c1 := r8.cell (i := 1) (by decide)
      have z0 := r8.frozen 0
      have z1 := r8.frozen 1
      exact rf_set (w' := setAll w bo8 0 [.int .i64 na, .int .i64 nb]) rfl rfl (by unfold execOp; simp only [setAll]; go_simp) (setAll_does (show own bo8 ∈ [8] by rw [ho8]; decide) hW8 _ 0 hB) (fRow_set [.int .i64 na, .int .i64 nb] r8 ho8 hW8 rfl ⟨v8, rfl⟩)
    · intro a w val own hB hf hown hk
      obtain ⟨k7, f7⟩ := hk 7 (show 7 ∈ [0, 1, 2, 3, 4, 5, 6, 7, 8, 9] by decide)
      have s29 := k7 29 rfl
      rw [fIs_out f7] at s29
      clear k7 f7
      exact rf_pure (v := .bool nz) hB rfl rfl (by unfold execOp; go_simp) rfl
  intro a w5 val own hB hf hown hk
  obtain ⟨k8, bo8, g8, e8, ho8, hW8, r8⟩ := hk 8 (by decide)
  have v8 := one_eq e8
  have s6 := k8 6 rfl
  rw [v8] at s6
  clear k8 e8
  obtain ⟨_, bo9, g9, ⟨e9, hg9⟩, _, _, r9⟩ := hk 9 (by decide)
  have q9 : bo9 = bo8 := by have e : val 8 = _ := e9; rw [v8] at e; injection e with e; injection e with e; injection e with e; exact e.symm
  subst q9
  subst hg9
  clear e9
  obtain ⟨k10, f10⟩ := hk 10 (by decide)
  have s7 := k10 7 rfl
  rw [fIs_out f10] at s7
  clear k10 f10
  have s2 := hf.at (d := 2) (v := .pointer (some ⟨wI.heap.size, 0, none⟩)) (by kernel_rfl) rfl
  have s3 := hf.at (d := 3) (v := .pointer (some ⟨wI.heap.size + 1, 0, none⟩)) (by kernel_rfl) rfl
  obtain ⟨u, hu0, hv⟩ := frame_any a.tmps (n := 59) hf.size
  have hu : a.tmps = (u 0 :: u 1 :: u 2 :: u 3 :: u 4 :: u 5 :: u 6 :: u 7 :: u 8 :: u 9 :: u 10 :: u 11 :: u 12 :: u 13 :: u 14 :: u 15 :: u 16 :: u 17 :: u 18 :: u 19 :: u 20 :: u 21 :: u 22 :: u 23 :: u 24 :: u 25 :: u 26 :: u 27 :: u 28 :: u 29 :: u 30 :: u 31 :: u 32 :: u 33 :: u 34 :: u 35 :: u 36 :: u 37 :: u 38 :: u 39 :: u 40 :: u 41 :: u 42 :: u 43 :: u 44 :: u 45 :: u 46 :: u 47 :: u 48 :: u 49 :: u 50 :: u 51 :: u 52 :: u 53 :: u 54 :: u 55 :: u 56 :: u 57 :: u 58 :: []).toArray := hu0
  rw [(hv 2).trans s2, (hv 3).trans s3, (hv 6).trans s6, (hv 7).trans s7] at hu
  obtain rfl := act_eq hu (show a.defers = [] from hf.defers)
  have rW5 : w5.rowIs bo9 48 2 (two (.int .i64 na) (.int .i64 nb)) := r9.congr fun i hi => by match i, hi with | 0, _ => rfl | 1, _ => rfl
  clear r9
  have B5 : Below wI.heap.size wI w5 := B2.trans (hB.mono z2)
  have bx5 := cell_below hB bx2
  have bh5 := row_below hB bh2
  clear hu hu0 hv hk hown hf hB s2 s3 s6 s7
  have z5 := B5.size
  obtain ⟨⟨x0, x1, x2, x3, x4⟩, xf⟩ := five_cells bh5
  clear xf
  go_wp2_with fail
  refine (toProg_any _ ms _ (hm.below B5) HN.out.1 HN.out.2).mono ?_
  rintro e w6 ⟨v6, rfl, hm6, hb6, hnf6, hhi6⟩
  have M6 := hm6.at
  obtain ⟨g6, l6, c6, hv6, hg6⟩ := hm6.own
  rw [hv6] at M6 ⊢
  have B6 : Below wI.heap.size wI w6 := B5.trans (hb6.mono z5)
  have bx6 := cell_below hb6 bx5
  have bh6 := row_below hb6 bh5
  have rW6 := row_below hb6 rW5
  have z6 := B6.size
  clear hm6 hb6 hnf6 hhi6 hv6 bx5 bh5 B5 x0 x1 x2 x3 x4
  obtain ⟨⟨x0, x1, x2, x3, x4⟩, xf⟩ := five_cells bh6
  clear xf
  go_upto_region 10 with fail
  have N6 := (Below.refl w6.heap.size w6).alloc (Nat.le_refl _) (.cells #[.slice (some ⟨g6, 0, none⟩) l6 c6] 39)
  have bx7 := cell_below N6 bx6
  have bh7 := row_below N6 bh6
  have rW7 := row_below N6 rW6
  have M7 := M6.below N6
  have B7 := B6.trans (N6.mono z6)
  have p7 : (w6.alloc (.cells #[.slice (some ⟨g6, 0, none⟩) l6 c6] 39)).cell? ⟨w6.heap.size, 0, none⟩ = some (.slice (some ⟨g6, 0, none⟩) l6 c6) := by simp [go_sem]
  generalize w6.alloc (.cells #[.slice (some ⟨g6, 0, none⟩) l6 c6] 39) = w7 at *
  clear bx6 bh6 M6 B6 N6 x0 x1 x2 x3 x4
  have z7 := B7.size
  obtain ⟨⟨x0, x1, x2, x3, x4⟩, xf⟩ := five_cells bh7
  clear xf
  go_wp2_with fail
  refine (toHeap_any h _ _ _ (hh.below B7) HSM.out).mono ?_
  rintro e w8 ⟨g8, s8, G8, rfl, hg8, hN8, hb8, hnf8⟩
  have hl8 : h.calls.length ≤ maxLen := by { have := HSM.out.1; unfold maxLen; omega }
  have H8 := hN8.at hl8
  have M8 := M7.below hb8
  have bx8 := cell_below hb8 bx7
  have bh8 := row_below hb8 bh7
  have rW8 := row_below hb8 rW7
  have p8 := cell_below hb8 p7
  have B8 := B7.trans (hb8.mono z7)
  have z8 := B8.size
  clear hN8 hb8 hnf8 hl8 M7 bx7 bh7 p7 B7 x0 x1 x2 x3 x4 hg8 hg6 z7 z6 z5
  unfold hpCells full
  unfold full at H8
  go_upto_region 11 with fail
  have N8 := (Below.refl w8.heap.size w8).alloc (Nat.le_refl _) (.cells #[.slice (some ⟨g8, 0, none⟩) h.calls.length h.calls.length, .int .i64 h.now, .int .i64 h.born, .slice (some ⟨s8, 0, none⟩) h.said.length h.said.length, .int .i64 h.code] 34)
  have y9 := five_new w8 34 (.slice (some ⟨g8, 0, none⟩) h.calls.length h.calls.length) (.int .i64 h.now) (.int .i64 h.born) (.slice (some ⟨s8, 0, none⟩) h.said.length h.said.length) (.int .i64 h.code)
  have bx9 := cell_below N8 bx8
  have bh9 := row_below N8 bh8
  have rW9 := row_below N8 rW8
  have p9 := cell_below N8 p8
  have M9 := M8.below N8
  have H9 := H8.below N8
  have B9 := B8.trans (N8.mono z8)
  generalize w8.alloc (.cells #[.slice (some ⟨g8, 0, none⟩) h.calls.length h.calls.length, .int .i64 h.now, .int .i64 h.born, .slice (some ⟨s8, 0, none⟩) h.said.length h.said.length, .int .i64 h.code] 34) = w9 at *
  clear bx8 bh8 p8 M8 H8 B8 N8
  have z9 := B9.size
  obtain ⟨⟨y0, y1, y2, y3, y4⟩, yf⟩ := five_cells y9
  clear yf
  go_wp2_with fail
  refine (HNI _ _ _ _ M9 H9).mono ?_
  rintro e wA0 ⟨rfl, hbA0⟩
  have zA0 := hbA0.size
  go_upto_region 12 with fail
  have NA : Below wA0.heap.size wA0 (wA0.alloc (.cells #[.int .i64 na, .int .i64 nb] 48)) := (Below.refl _ _).alloc (Nat.le_refl _) _
  have rG := two_new wA0 48 (.int .i64 na) (.int .i64 nb)
  have rWA := row_below NA (row_below hbA0 rW9)
  have hbA1 := hbA0.trans (NA.mono zA0)
  clear NA
  generalize wA0.alloc (.cells #[.int .i64 na, .int .i64 nb] 48) = wA1 at *
  generalize wA0.heap.size = bG at *
  obtain ⟨⟨g0, g1⟩, _⟩ := two_cells rG
  obtain ⟨⟨t0, t1⟩, _⟩ := two_cells rWA
  go_wp2_with fail
  refine (eqOp_same _ _ _).mono ?_
  rintro e wA ⟨rfl, hbA2⟩
  have hbA := hbA1.trans (hbA2.mono hbA1.size)
  clear hbA1 hbA2 g0 g1 t0 t1 rG rWA zA0 hbA0
  have bxA := cell_below hbA bx9
  have bhA := row_below hbA bh9
  have pA := cell_below hbA p9
  have yA := row_below hbA y9
  have MA := M9.below hbA
  have HA := H9.below hbA
  have BA := B9.trans (hbA.mono z9)
  have zA := BA.size
  clear hbA bx9 bh9 p9 y9 M9 H9 B9 z9 rW9 rW8 rW7 rW6 rW5 y0 y1 y2 y3 y4
  go_upto_region 14 with fail
  have MAd : MethsAt wA.drew _ ms := MA.below (Below.refl _ _).drew
  have mAd : MethsAt wA.drew _ ms := (hm.below BA).below (Below.refl _ _).drew
  have bxAd : wA.drew.cell? ⟨wI.heap.size, 0, none⟩ = some (.slice aS ms.length cap) := bxA
  have pAd : wA.drew.cell? ⟨w6.heap.size, 0, none⟩ = some (.slice (some ⟨g6, 0, none⟩) l6 c6) := pA
  go_wp2_with fail
  go_region_held3 (fun w' => w'.cell? ⟨wI.heap.size, 0, none⟩ = some (.slice aS ms.length cap) ∧ w'.cell? ⟨w6.heap.size, 0, none⟩ = some (.slice (some ⟨g6, 0, none⟩) l6 c6))
    (first | exact ⟨bxC, pC⟩ | exact ⟨bxB, pB⟩ | go_keep)
    ((first
      | (have hh := hbB; clear hh; go_at_call 13; refine (eqProg_same _ _ ms _ (MAd.below hbB) hmB.at).mono ?_; rintro e wC ⟨rfl, hbC⟩; have bxC := cell_below hbC bxB; have pC := cell_below hbC pB)
      | (go_at_call 9; refine (toProg_any _ ms _ mAd HN.out.1 HN.out.2).mono ?_; rintro e wB ⟨vB, rfl, hmB, hbB, hnfB, hhiB⟩; have bxB := cell_below hbB bxAd; have pB := cell_below hbB pAd)))
  have hzB := hbB.size
  have zAd : wI.heap.size ≤ wA.drew.heap.size := zA
  have bAC : Below wA.drew.heap.size wA.drew wC := hbB.trans (hbC.mono hzB)
  have BC : Below wI.heap.size wI wC := BA.drew.trans (bAC.mono zAd)
  have HC : HeapAt wC _ _ h := (HA.below (Below.refl _ _).drew).below bAC
  have yC := row_below bAC (show wA.drew.rowIs w8.heap.size 34 5 _ from yA)
  have bhC := row_below bAC (show wA.drew.rowIs (wI.heap.size + 1) 28 5 _ from bhA)
  clear hzB zAd bAC hbB hbC hnfB hhiB hmB MAd mAd bxAd pAd bxB pB bxC pC bxA pA yA bhA MA HA BA zA
  have zC := BC.size
  go_upto_region 16 with fail
  have HCd : HeapAt wC.drew _ _ h := HC.below (Below.refl _ _).drew
  have hCd : HeapAt wC.drew _ _ h := (hh.below BC).below (Below.refl _ _).drew
  have yCd : wC.drew.rowIs w8.heap.size 34 5 (five (.slice (some ⟨g8, 0, none⟩) h.calls.length h.calls.length) (.int .i64 h.now) (.int .i64 h.born) (.slice (some ⟨s8, 0, none⟩) h.said.length h.said.length) (.int .i64 h.code)) := yC
  have bhCd : wC.drew.rowIs (wI.heap.size + 1) 28 5 (five (.slice ac h.calls.length kc) (.int .i64 h.now) (.int .i64 h.born) (.slice aD h.said.length kD) (.int .i64 h.code)) := bhC
  obtain ⟨⟨x0, x1, x2, x3, x4⟩, xf⟩ := five_cells bhC
  obtain ⟨⟨y0, y1, y2, y3, y4⟩, yf⟩ := five_cells yC
  clear xf yf
  go_wp2_with fail
  go_region_held3 (fun w' => (w'.cell? ⟨wI.heap.size + 1, 0, none⟩ = some (.slice ac h.calls.length kc) ∧ w'.cell? ⟨wI.heap.size + 1, 1, none⟩ = some (.int .i64 h.now) ∧ w'.cell? ⟨wI.heap.size + 1, 2, none⟩ = some (.int .i64 h.born) ∧ w'.cell? ⟨wI.heap.size + 1, 3, none⟩ = some (.slice aD h.said.length kD) ∧ w'.cell? ⟨wI.heap.size + 1, 4, none⟩ = some (.int .i64 h.code)) ∧ (w'.cell? ⟨w8.heap.size, 0, none⟩ = some (.slice (some ⟨g8, 0, none⟩) h.calls.length h.calls.length) ∧ w'.cell? ⟨w8.heap.size, 1, none⟩ = some (.int .i64 h.now) ∧ w'.cell? ⟨w8.heap.size, 2, none⟩ = some (.int .i64 h.born) ∧ w'.cell? ⟨w8.heap.size, 3, none⟩ = some (.slice (some ⟨s8, 0, none⟩) h.said.length h.said.length) ∧ w'.cell? ⟨w8.heap.size, 4, none⟩ = some (.int .i64 h.code)))
    (first | exact ⟨XE.out, YE.out⟩ | exact ⟨XD.out, YD.out⟩ | go_keep)
    ((first
      | (have hh := hbD; clear hh; go_at_call 12; refine (eqHeap_same h _ _ _ _ _ (HCd.below hbD) HD).mono ?_; rintro e wE ⟨rfl, hbE⟩; have XE : Hid _ := (five_cells (row_below hbE xD)).1; have YE : Hid _ := (five_cells (row_below hbE yD)).1)
      | (go_at_call 10; refine (toHeap_any h _ _ _ hCd HSM.out).mono ?_; rintro e wD ⟨gD, sD, GD, rfl, hgD, hND, hbD, hnfD⟩; have HD := hND.at (show h.calls.length ≤ maxLen by { have := HSM.out.1; unfold maxLen; omega }); have xD := row_below hbD bhCd; have yD := row_below hbD yCd; have XD : Hid _ := (five_cells xD).1; have YD : Hid _ := (five_cells yD).1)))
  have hzD := hbD.size
  have zCd : wI.heap.size ≤ wC.drew.heap.size := zC
  have BE : Below wI.heap.size wI wE := BC.drew.trans ((hbD.trans (hbE.mono hzD)).mono zCd)
  clear hzD zCd hbD hbE hnfD hgD hND HD xD yD XD YD XE YE HCd hCd yCd bhCd x0 x1 x2 x3 x4 y0 y1 y2 y3 y4 bhC yC HC BC zC
  go_wp2
  go_ret
  exact ⟨rfl, BE⟩

end Go.Proofs.Ytnffknlgaiehdaa
