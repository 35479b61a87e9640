/-
  A heap that toHeap has made lies in memory of its own.
-/
import Derived.Test.YtmifhlkcceafkaaGreatOwn
import Derived.Test.YtmifhlkcceafkaaGreatHCopy2
import Derived.Test.YtmifhlkcceafkaaGreatRF
import Derived.Test.YtmifhlkcceafkaaGreatDeepM
import Derived.Test.YtmifhlkcceafkaaGreatHSame
import Derived.Deep.DeepCutAuto

namespace Go.Proofs.YtmifhlkcceafkaaGreat
open Go.RowKit
theorem pair_full {B g : Nat} {w : World} {ops : List (Int × Int)} (h : OpsAt w (full g ops.length) ops) (hB : B ≤ g) (hg : g < w.heap.size) (hnf : NF B w) : PairRow B w (full g ops.length) ops := by
  obtain ⟨a, cap, e, hl, hc⟩ := h
  have hx : ∀ i, (hi : i < ops.length) → w.cell? ⟨g, 0 + i * 2, none⟩ = some (.int .i64 ops[i].1) ∧ w.cell? ⟨g, 0 + i * 2 + 1, none⟩ = some (.int .i64 ops[i].2) := fun i hi => by
    obtain ⟨b, o, e2, c0, c1⟩ := hc i hi
    have e3 : some (⟨g, 0, none⟩ : Addr) = some ⟨b, o, none⟩ := by injection e with e1; rw [e1]; exact e2
    obtain ⟨rfl, rfl⟩ : g = b ∧ 0 = o := by simpa using e3
    exact ⟨c0, c1⟩
  refine .inr ⟨g, 0, ops.length, rfl, hB, hg, Nat.le_refl _, hl, fun i hi => ⟨?_, hnf g _ hB⟩, hx⟩
  have h2 := hx (i / 2) (by omega)
  rcases Nat.mod_two_eq_zero_or_one i with hm | hm
  · rw [show 0 + i / 2 * 2 = 0 + i by omega] at h2
    rw [h2.1]; rfl
  · rw [show 0 + i / 2 * 2 + 1 = 0 + i by omega] at h2
    rw [h2.2]; rfl
theorem NewHeap.own {B g sb : Nat} {w : World} {h : Hp} {G : Nat → Nat × Nat} (k : NewHeap g sb w h G) (hB : B ≤ g) (hnf : NF B w) (hl : h.calls.length ≤ maxLen) :
    OwnHeap B w (full g h.calls.length) (full sb h.said.length) h (fun i => (full (G i).1 (h.calls.getD i Cl.none).temps.length, full (G i).2 (h.calls.getD i Cl.none).stack.length)) := by
  have hget : ∀ i, (hi : i < h.calls.length) → h.calls.getD i Cl.none = h.calls[i] := fun i hi => by simp [hi]
  have hord : ∀ i, (hi : i < h.calls.length) → g < (G i).1 ∧ (G i).1 < (G i).2 ∧ (G i).2 < w.heap.size ∧ (∀ j, j < i → (G j).2 < (G i).1) := fun i hi => by
    obtain ⟨h1, h2, h3, _, _, h6⟩ := k.c.lists i hi hi
    exact ⟨h1, h2, h3, h6⟩
  have hblk : ∀ q, q < h.calls.length * 2 → ∀ x, (lst (fun i => (full (G i).1 (h.calls.getD i Cl.none).temps.length, full (G i).2 (h.calls.getD i Cl.none).stack.length)) q).ownBlock = some x → (q % 2 = 0 ∧ x = (G (q / 2)).1) ∨ (q % 2 = 1 ∧ x = (G (q / 2)).2) := fun q hq x e => by
    unfold lst at e
    split at e
    · rename_i hm
      simp [Value.ownBlock] at e
      exact .inl ⟨hm, e.symm⟩
    · rename_i hm
      simp [Value.ownBlock] at e
      exact .inr ⟨by omega, e.symm⟩
  refine ⟨⟨.inr ⟨g, 0, h.calls.length, rfl, hB, k.c.row.lt, Nat.le_refl _, hl, fun i hi => ⟨?_, hnf g _ hB⟩, fun i hi => ?_⟩, fun i hi => ?_, fun q hq x e => ?_⟩, pair_full k.sd (by have := k.gs; omega) k.sz hnf, fun x e e2 => ?_⟩
  · rw [Nat.zero_add, k.c.row.cell hi]; rfl
  · obtain ⟨e0, e1, e2, e3, e4, e5⟩ := clCell_at (G := G) hi
    have c0 := k.c.row.cell (i := i * 6) (by omega)
    have c1 := k.c.row.cell (i := i * 6 + 1) (by omega)
    have c2 := k.c.row.cell (i := i * 6 + 2) (by omega)
    have c3 := k.c.row.cell (i := i * 6 + 3) (by omega)
    have c4 := k.c.row.cell (i := i * 6 + 4) (by omega)
    have c5 := k.c.row.cell (i := i * 6 + 5) (by omega)
    rw [e0] at c0
    rw [e1] at c1
    rw [e2] at c2
    rw [e3] at c3
    rw [e4] at c4
    rw [e5] at c5
    rw [Nat.zero_add, hget i hi]
    exact ⟨c0, c1, c2, c3, c4, c5⟩
  · obtain ⟨h1, h2, h3, h4, h5, _⟩ := k.c.lists i hi hi
    rw [hget i hi]
    exact ⟨pair_full h4 (by omega) (by omega) hnf, pair_full h5 (by omega) (by omega) hnf⟩
  · have hi : q / 2 < h.calls.length := by omega
    obtain ⟨o1, o2, o3, o4⟩ := hord _ hi
    refine ⟨fun e2 => ?_, fun q' hq' hne e' => ?_⟩
    · simp [Value.ownBlock] at e2
      rcases hblk q hq x e with ⟨_, h2⟩ | ⟨_, h2⟩ <;> omega
    · have hi' : q' / 2 < h.calls.length := by omega
      obtain ⟨p1, p2, p3, p4⟩ := hord _ hi'
      have hc : q' / 2 = q / 2 ∨ q' / 2 < q / 2 ∨ q / 2 < q' / 2 := by omega
      rcases hc with hc | hc | hc
      · rcases hblk q hq x e with ⟨m1, m2⟩ | ⟨m1, m2⟩ <;> rcases hblk q' hq' x e' with ⟨n1, n2⟩ | ⟨n1, n2⟩ <;> (rw [hc] at n2; omega)
      · have := o4 _ hc
        rcases hblk q hq x e with ⟨m1, m2⟩ | ⟨m1, m2⟩ <;> rcases hblk q' hq' x e' with ⟨n1, n2⟩ | ⟨n1, n2⟩ <;> omega
      · have := p4 _ hc
        rcases hblk q hq x e with ⟨m1, m2⟩ | ⟨m1, m2⟩ <;> rcases hblk q' hq' x e' with ⟨n1, n2⟩ | ⟨n1, n2⟩ <;> omega
  · simp [Value.ownBlock] at e
    subst e
    rcases e2 with e2 | ⟨q, hq, e2⟩
    · simp [Value.ownBlock] at e2
      have := k.gs
      omega
    · have hi : q / 2 < h.calls.length := by omega
      have := k.ls _ hi
      obtain ⟨o1, o2, o3, o4⟩ := hord _ hi
      rcases hblk q hq _ e2 with ⟨_, h2⟩ | ⟨_, h2⟩ <;> omega
end Go.Proofs.YtmifhlkcceafkaaGreat

/-
  What toProg and toHeap made stays while their blocks stay.
-/
namespace Go.Proofs.YtmifhlkcceafkaaGreat
open Go.RowKit
theorem OpsAt.kept {B : Nat} {w w' : World} {v : Value} {ops : List (Int × Int)} (h : OpsAt w v ops) (ho : Own B v) (hr : ∀ r, B ≤ r → r < w.heap.size → w'.heap[r]? = w.heap[r]?) : OpsAt w' v ops := by
  obtain ⟨a, cap, hv, hl, hc⟩ := h
  refine ⟨a, cap, hv, hl, fun i hi => ?_⟩
  obtain ⟨b, o, ha, h0, h1⟩ := hc i hi
  obtain ⟨g, n, c, he, hg⟩ := ho
  have hb : b = g := by
    rw [hv, ha] at he
    injection he with e
    injection e with e
    injection e
  subst hb
  have hlt : b < w.heap.size := World.block_lt_of_cell? _ _ h0
  have hbk := hr b hg hlt
  exact ⟨b, o, ha, (World.cell?_of_block (a := ⟨b, o + i * 2, none⟩) hbk).trans h0, (World.cell?_of_block (a := ⟨b, o + i * 2 + 1, none⟩) hbk).trans h1⟩
theorem MethsNew.kept {B : Nat} {w w' : World} {v : Value} {ms : List (Int × Int × List (Int × Int))} (h : MethsNew B w v ms) (hr : ∀ r, B ≤ r → r < w.heap.size → w'.heap[r]? = w.heap[r]?) : MethsAt w' v ms := by
  obtain ⟨g, cap, hv, hg, hl, hc⟩ := h
  refine ⟨_, cap, hv, hl, fun i hi => ?_⟩
  obtain ⟨vo, h0, h1, h2, h3, h4⟩ := hc i hi
  have hlt : g < w.heap.size := World.block_lt_of_cell? _ _ h0
  have hbk := hr g hg hlt
  exact ⟨g, 0, vo, rfl, (World.cell?_of_block (a := ⟨g, 0 + i * 3, none⟩) hbk).trans h0, (World.cell?_of_block (a := ⟨g, 0 + i * 3 + 1, none⟩) hbk).trans h1, (World.cell?_of_block (a := ⟨g, 0 + i * 3 + 2, none⟩) hbk).trans h2, h3.kept h4 hr⟩
theorem NewHeap.kept {B g sb : Nat} {w w' : World} {h : Hp} {G : Nat → Nat × Nat} (k : NewHeap g sb w h G) (hB : B ≤ g) (hnf : NF B w) (hl : h.calls.length ≤ maxLen) (hs : w.heap.size ≤ w'.heap.size) (hr : ∀ r, B ≤ r → r < w.heap.size → w'.heap[r]? = w.heap[r]?) :
    HeapAt w' (full g h.calls.length) (full sb h.said.length) h :=
  ((k.own hB hnf hl).kept hs fun q hq => hr q ((k.own hB hnf hl).lt hq).1 ((k.own hB hnf hl).lt hq).2).at
structure HX where
  ac : Option Addr
  kc : Nat
  ad : Option Addr
  kd : Nat
end Go.Proofs.YtmifhlkcceafkaaGreat

/-
  The comparisons that the exact laws make of frames, pages, twins and machines: they answer true where both hold the same; they write to nothing that was there. (Written by mkmx.py.)
-/
namespace Go.Proofs.YtmifhlkcceafkaaGreat
open Go.RowKit
set_option maxRecDepth 100000 in
set_option maxHeartbeats 1000000 in
theorem eqIntS_same (v v' : Value) (xs : List Int) (w : World) (h : IntsAt w v xs) (h' : IntsAt w v' xs) :
    Calls Tryz.prog 36 #[v, v'] w fun e w' => e = .returned (.bool true) ∧ Below w.heap.size w w' := by
  obtain ⟨a, cap, rfl, hl, hc⟩ := h
  obtain ⟨a', cap', rfl, _, hc'⟩ := h'
  unfold maxLen at hl
  go_enter Tryz.func36, Tryz.ntmps36
  go_wp2
  go_loopg [5] xs.length (fun g i wr => ∃ k : Nat, k ≤ xs.length ∧ g = xs.length - k ∧ i = .int .i64 k ∧ Below w.heap.size w wr)
  case atStart => exact ⟨0, Nat.zero_le _, rfl, rfl, Below.refl _ _⟩
  case round =>
    obtain ⟨k, hk, rfl, rfl, hb⟩ := hrel
    by_cases hlt : k < xs.length
    · obtain ⟨b, o, rfl, hcl⟩ := hc k hlt
      obtain ⟨b', o', rfl, hcl'⟩ := hc' k hlt
      have d := cell_below hb hcl
      have d' := cell_below hb hcl'
      have hkz : (k : Int) < (xs.length : Int) := by omega
      clear hc hc' hcl hcl'
      go_wp2
      all_goals first | go_region_with fail | skip
      all_goals
        go_wp2
        go_roundg (xs.length - (k + 1))
        case measure => omega
        case rel => exact ⟨k + 1, by omega, rfl, by go_num, (by first | exact hb | exact hb.drew)⟩
    · go_wp2
      go_ret
      exact ⟨rfl, hb⟩
set_option maxRecDepth 100000 in
set_option maxHeartbeats 2000000 in
theorem eqFrame_same (x : Fr) (vt vs vt' vs' : Value) (w : World) (h0 : OpsAt w vt x.temps) (h1 : OpsAt w vs x.stack) (k0 : OpsAt w vt' x.temps) (k1 : OpsAt w vs' x.stack) :
    Calls Tryz.prog 103 #[.agg #[.int .i64 x.m, .int .i64 x.pc, .int .i64 x.twin, vt, vs], .agg #[.int .i64 x.m, .int .i64 x.pc, .int .i64 x.twin, vt', vs']] w fun e w' => e = .returned (.bool true) ∧ Below w.heap.size w w' := by
  obtain ⟨a0, c0, e0⟩ := h0.shape
  obtain ⟨b0, d0, f0⟩ := k0.shape
  subst e0 f0
  obtain ⟨a1, c1, e1⟩ := h1.shape
  obtain ⟨b1, d1, f1⟩ := k1.shape
  subst e1 f1
  go_enter Tryz.func103, Tryz.ntmps103
  go_upto_region 1 with fail
  refine wp_gen (fun W => Below w.heap.size w W ∧ Bx W w.heap.size 105 [.int .i64 x.m, .int .i64 x.pc, .int .i64 x.twin, .slice a0 x.temps.length c0, .slice a1 x.stack.length c1] ∧ Bx W (w.heap.size + 1) 105 [.int .i64 x.m, .int .i64 x.pc, .int .i64 x.twin, .slice b0 x.temps.length d0, .slice b1 x.stack.length d1]) ⟨((Below.refl _ _).alloc (Nat.le_refl _) _).alloc (by simp) _, (Bx.new w _ _).alloc _, Bx.newAt _ _ _ (by simp)⟩ ?_
  rintro W0 ⟨B0, x0, y0⟩
  have p0_0 := x0.cell 0 rfl
  have q0_0 := y0.cell 0 rfl
  have p0_1 := x0.cell 1 rfl
  have q0_1 := y0.cell 1 rfl
  have p0_2 := x0.cell 2 rfl
  have q0_2 := y0.cell 2 rfl
  have p0_3 := x0.cell 3 rfl
  have q0_3 := y0.cell 3 rfl
  have p0_4 := x0.cell 4 rfl
  have q0_4 := y0.cell 4 rfl
  have z0 := B0.size
  go_wp2_with fail
  refine (eqValS_same _ _ x.temps _ (h0.below B0) (k0.below B0)).mono ?_
  rintro e W1 ⟨rfl, t1⟩
  have x1 := x0.below t1
  have y1 := y0.below t1
  have B1 := B0.trans (t1.mono z0)
  clear t1 x0 y0 B0 p0_0 q0_0 p0_1 q0_1 p0_2 q0_2 p0_3 q0_3 p0_4 q0_4
  have p1_0 := x1.cell 0 rfl
  have q1_0 := y1.cell 0 rfl
  have p1_1 := x1.cell 1 rfl
  have q1_1 := y1.cell 1 rfl
  have p1_2 := x1.cell 2 rfl
  have q1_2 := y1.cell 2 rfl
  have p1_3 := x1.cell 3 rfl
  have q1_3 := y1.cell 3 rfl
  have p1_4 := x1.cell 4 rfl
  have q1_4 := y1.cell 4 rfl
  have z1 := B1.size
  go_wp2_with fail
  refine (eqValS_same _ _ x.stack _ (h1.below B1) (k1.below B1)).mono ?_
  rintro e W2 ⟨rfl, t2⟩
  have x2 := x1.below t2
  have y2 := y1.below t2
  have B2 := B1.trans (t2.mono z1)
  clear t2 x1 y1 B1 p1_0 q1_0 p1_1 q1_1 p1_2 q1_2 p1_3 q1_3 p1_4 q1_4
  have p2_0 := x2.cell 0 rfl
  have q2_0 := y2.cell 0 rfl
  have p2_1 := x2.cell 1 rfl
  have q2_1 := y2.cell 1 rfl
  have p2_2 := x2.cell 2 rfl
  have q2_2 := y2.cell 2 rfl
  have p2_3 := x2.cell 3 rfl
  have q2_3 := y2.cell 3 rfl
  have p2_4 := x2.cell 4 rfl
  have q2_4 := y2.cell 4 rfl
  go_wp2
  go_ret
  exact ⟨rfl, B2⟩
set_option maxRecDepth 100000 in
set_option maxHeartbeats 2000000 in
theorem eqFrameS_same (v v' : Value) (xs : List Fr) (w : World) (h : FramesAt w v xs) (h' : FramesAt w v' xs) :
    Calls Tryz.prog 95 #[v, v'] w fun e w' => e = .returned (.bool true) ∧ Below w.heap.size w w' := by
  obtain ⟨a, cap, rfl, hl, hc⟩ := h
  obtain ⟨a', cap', rfl, _, hc'⟩ := h'
  unfold maxLen at hl
  go_enter Tryz.func95, Tryz.ntmps95
  go_wp2
  go_loopg [5] xs.length (fun g i wr => ∃ k : Nat, k ≤ xs.length ∧ g = xs.length - k ∧ i = .int .i64 k ∧ Below w.heap.size w wr)
  case atStart => exact ⟨0, Nat.zero_le _, rfl, rfl, Below.refl _ _⟩
  case round =>
    obtain ⟨k, hk, rfl, rfl, hb⟩ := hrel
    by_cases hlt : k < xs.length
    · obtain ⟨b, o, vt, vs, rfl, hcl⟩ := hc k hlt
      obtain ⟨b', o', vt', vs', rfl, hcl'⟩ := hc' k hlt
      obtain ⟨d0, d1, d2, d3, d4, g0, g1⟩ := hcl.below hb
      obtain ⟨d0', d1', d2', d3', d4', g0', g1'⟩ := hcl'.below hb
      obtain ⟨a0, k0, h0⟩ := g0.shape
      rw [h0] at d3 g0
      obtain ⟨a0', k0', h0'⟩ := g0'.shape
      rw [h0'] at d3' g0'
      have G0 : OpsAt wr.drew _ _ := g0.below (Below.refl _ _).drew
      have G0' : OpsAt wr.drew _ _ := g0'.below (Below.refl _ _).drew
      obtain ⟨a1, k1, h1⟩ := g1.shape
      rw [h1] at d4 g1
      obtain ⟨a1', k1', h1'⟩ := g1'.shape
      rw [h1'] at d4' g1'
      have G1 : OpsAt wr.drew _ _ := g1.below (Below.refl _ _).drew
      have G1' : OpsAt wr.drew _ _ := g1'.below (Below.refl _ _).drew
      clear hcl hcl' hc hc' h0 h0' g0 g0' h1 h1' g1 g1'
      have hkz : (k : Int) < (xs.length : Int) := by omega
      have hsz := hb.size
      go_wp2_with fail
      go_region_with (go_at_call 103; refine (eqFrame_same xs[k] _ _ _ _ _ G0 G1 G0' G1').mono ?_; rintro e w1 ⟨rfl, hb1⟩)
      all_goals
        have hb2 : Below w.heap.size w w1 := hb.drew.trans (hb1.mono hsz)
        clear hb hb1 d0 d0' d1 d1' d2 d2' d3 d3' d4 d4' G0 G0' G1 G1'
        go_wp2
        go_roundg (xs.length - (k + 1))
        case measure => omega
        case rel => exact ⟨k + 1, by omega, rfl, by go_num, hb2⟩
    · go_wp2
      go_ret
      exact ⟨rfl, hb⟩
set_option maxRecDepth 100000 in
set_option maxHeartbeats 2000000 in
theorem eqPage_same (x : Pg) (vf vf' : Value) (w : World) (h0 : FramesAt w vf x.frames) (k0 : FramesAt w vf' x.frames) :
    Calls Tryz.prog 77 #[.agg #[.int .i64 x.base, vf], .agg #[.int .i64 x.base, vf']] w fun e w' => e = .returned (.bool true) ∧ Below w.heap.size w w' := by
  obtain ⟨a0, c0, e0⟩ := h0.shape
  obtain ⟨b0, d0, f0⟩ := k0.shape
  subst e0 f0
  go_enter Tryz.func77, Tryz.ntmps77
  go_upto_region 1 with fail
  refine wp_gen (fun W => Below w.heap.size w W ∧ Bx W w.heap.size 61 [.int .i64 x.base, .slice a0 x.frames.length c0] ∧ Bx W (w.heap.size + 1) 61 [.int .i64 x.base, .slice b0 x.frames.length d0]) ⟨((Below.refl _ _).alloc (Nat.le_refl _) _).alloc (by simp) _, (Bx.new w _ _).alloc _, Bx.newAt _ _ _ (by simp)⟩ ?_
  rintro W0 ⟨B0, x0, y0⟩
  have p0_0 := x0.cell 0 rfl
  have q0_0 := y0.cell 0 rfl
  have p0_1 := x0.cell 1 rfl
  have q0_1 := y0.cell 1 rfl
  have z0 := B0.size
  go_wp2_with fail
  refine (eqFrameS_same _ _ x.frames _ (h0.below B0) (k0.below B0)).mono ?_
  rintro e W1 ⟨rfl, t1⟩
  have x1 := x0.below t1
  have y1 := y0.below t1
  have B1 := B0.trans (t1.mono z0)
  clear t1 x0 y0 B0 p0_0 q0_0 p0_1 q0_1
  have p1_0 := x1.cell 0 rfl
  have q1_0 := y1.cell 0 rfl
  have p1_1 := x1.cell 1 rfl
  have q1_1 := y1.cell 1 rfl
  go_wp2
  go_ret
  exact ⟨rfl, B1⟩
set_option maxRecDepth 100000 in
set_option maxHeartbeats 2000000 in
theorem eqPageS_same (v v' : Value) (xs : List Pg) (w : World) (h : PagesAt w v xs) (h' : PagesAt w v' xs) :
    Calls Tryz.prog 35 #[v, v'] w fun e w' => e = .returned (.bool true) ∧ Below w.heap.size w w' := by
  obtain ⟨a, cap, rfl, hl, hc⟩ := h
  obtain ⟨a', cap', rfl, _, hc'⟩ := h'
  unfold maxLen at hl
  go_enter Tryz.func35, Tryz.ntmps35
  go_wp2
  go_loopg [5] xs.length (fun g i wr => ∃ k : Nat, k ≤ xs.length ∧ g = xs.length - k ∧ i = .int .i64 k ∧ Below w.heap.size w wr)
  case atStart => exact ⟨0, Nat.zero_le _, rfl, rfl, Below.refl _ _⟩
  case round =>
    obtain ⟨k, hk, rfl, rfl, hb⟩ := hrel
    by_cases hlt : k < xs.length
    · obtain ⟨b, o, vf, rfl, hcl⟩ := hc k hlt
      obtain ⟨b', o', vf', rfl, hcl'⟩ := hc' k hlt
      obtain ⟨d0, d1, g0⟩ := hcl.below hb
      obtain ⟨d0', d1', g0'⟩ := hcl'.below hb
      obtain ⟨a0, k0, h0⟩ := g0.shape
      rw [h0] at d1 g0
      obtain ⟨a0', k0', h0'⟩ := g0'.shape
      rw [h0'] at d1' g0'
      have G0 : FramesAt wr.drew _ _ := g0.below (Below.refl _ _).drew
      have G0' : FramesAt wr.drew _ _ := g0'.below (Below.refl _ _).drew
      clear hcl hcl' hc hc' h0 h0' g0 g0'
      have hkz : (k : Int) < (xs.length : Int) := by omega
      have hsz := hb.size
      go_wp2_with fail
      go_region_with (go_at_call 77; refine (eqPage_same xs[k] _ _ _ G0 G0').mono ?_; rintro e w1 ⟨rfl, hb1⟩)
      all_goals
        have hb2 : Below w.heap.size w w1 := hb.drew.trans (hb1.mono hsz)
        clear hb hb1 d0 d0' d1 d1' G0 G0'
        go_wp2
        go_roundg (xs.length - (k + 1))
        case measure => omega
        case rel => exact ⟨k + 1, by omega, rfl, by go_num, hb2⟩
    · go_wp2
      go_ret
      exact ⟨rfl, hb⟩
set_option maxRecDepth 100000 in
set_option maxHeartbeats 2000000 in
theorem eqTwin_same (x : Tw) (vt vs vt' vs' : Value) (w : World) (h0 : OpsAt w vt x.left.temps) (h1 : OpsAt w vs x.left.stack) (k0 : OpsAt w vt' x.left.temps) (k1 : OpsAt w vs' x.left.stack) :
    Calls Tryz.prog 78 #[.agg #[.int .i64 x.page, .int .i64 x.place, .int .i64 x.left.m, .int .i64 x.left.pc, vt, vs, .int .i64 x.left.sender, .bool x.left.dead], .agg #[.int .i64 x.page, .int .i64 x.place, .int .i64 x.left.m, .int .i64 x.left.pc, vt', vs', .int .i64 x.left.sender, .bool x.left.dead]] w fun e w' => e = .returned (.bool true) ∧ Below w.heap.size w w' := by
  obtain ⟨a0, c0, e0⟩ := h0.shape
  obtain ⟨b0, d0, f0⟩ := k0.shape
  subst e0 f0
  obtain ⟨a1, c1, e1⟩ := h1.shape
  obtain ⟨b1, d1, f1⟩ := k1.shape
  subst e1 f1
  go_enter Tryz.func78, Tryz.ntmps78
  go_upto_region 1 with fail
  refine wp_gen (fun W => Below w.heap.size w W ∧ Bx W w.heap.size 66 [.int .i64 x.page, .int .i64 x.place, .int .i64 x.left.m, .int .i64 x.left.pc, .slice a0 x.left.temps.length c0, .slice a1 x.left.stack.length c1, .int .i64 x.left.sender, .bool x.left.dead] ∧ Bx W (w.heap.size + 1) 66 [.int .i64 x.page, .int .i64 x.place, .int .i64 x.left.m, .int .i64 x.left.pc, .slice b0 x.left.temps.length d0, .slice b1 x.left.stack.length d1, .int .i64 x.left.sender, .bool x.left.dead]) ⟨((Below.refl _ _).alloc (Nat.le_refl _) _).alloc (by simp) _, (Bx.new w _ _).alloc _, Bx.newAt _ _ _ (by simp)⟩ ?_
  rintro W0 ⟨B0, x0, y0⟩
  have p0_0 := x0.cell 0 rfl
  have q0_0 := y0.cell 0 rfl
  have p0_1 := x0.cell 1 rfl
  have q0_1 := y0.cell 1 rfl
  have p0_2 := x0.cell 2 rfl
  have q0_2 := y0.cell 2 rfl
  have p0_3 := x0.cell 3 rfl
  have q0_3 := y0.cell 3 rfl
  have p0_4 := x0.cell 4 rfl
  have q0_4 := y0.cell 4 rfl
  have p0_5 := x0.cell 5 rfl
  have q0_5 := y0.cell 5 rfl
  have p0_6 := x0.cell 6 rfl
  have q0_6 := y0.cell 6 rfl
  have p0_7 := x0.cell 7 rfl
  have q0_7 := y0.cell 7 rfl
  have z0 := B0.size
  go_wp2_with fail
  refine (eqCall_same x.left _ _ _ _ _ (h0.below B0) (h1.below B0) (k0.below B0) (k1.below B0)).mono ?_
  rintro e W1 ⟨rfl, t1⟩
  have x1 := x0.below t1
  have y1 := y0.below t1
  have B1 := B0.trans (t1.mono z0)
  clear t1 x0 y0 B0 p0_0 q0_0 p0_1 q0_1 p0_2 q0_2 p0_3 q0_3 p0_4 q0_4 p0_5 q0_5 p0_6 q0_6 p0_7 q0_7
  have p1_0 := x1.cell 0 rfl
  have q1_0 := y1.cell 0 rfl
  have p1_1 := x1.cell 1 rfl
  have q1_1 := y1.cell 1 rfl
  have p1_2 := x1.cell 2 rfl
  have q1_2 := y1.cell 2 rfl
  have p1_3 := x1.cell 3 rfl
  have q1_3 := y1.cell 3 rfl
  have p1_4 := x1.cell 4 rfl
  have q1_4 := y1.cell 4 rfl
  have p1_5 := x1.cell 5 rfl
  have q1_5 := y1.cell 5 rfl
  have p1_6 := x1.cell 6 rfl
  have q1_6 := y1.cell 6 rfl
  have p1_7 := x1.cell 7 rfl
  have q1_7 := y1.cell 7 rfl
  go_wp2
  go_ret
  exact ⟨rfl, B1⟩
set_option maxRecDepth 100000 in
set_option maxHeartbeats 2000000 in
theorem eqTwinS_same (v v' : Value) (xs : List Tw) (w : World) (h : TwinsAt w v xs) (h' : TwinsAt w v' xs) :
    Calls Tryz.prog 37 #[v, v'] w fun e w' => e = .returned (.bool true) ∧ Below w.heap.size w w' := by
  obtain ⟨a, cap, rfl, hl, hc⟩ := h
  obtain ⟨a', cap', rfl, _, hc'⟩ := h'
  unfold maxLen at hl
  go_enter Tryz.func37, Tryz.ntmps37
  go_wp2
  go_loopg [5] xs.length (fun g i wr => ∃ k : Nat, k ≤ xs.length ∧ g = xs.length - k ∧ i = .int .i64 k ∧ Below w.heap.size w wr)
  case atStart => exact ⟨0, Nat.zero_le _, rfl, rfl, Below.refl _ _⟩
  case round =>
    obtain ⟨k, hk, rfl, rfl, hb⟩ := hrel
    by_cases hlt : k < xs.length
    · obtain ⟨b, o, vt, vs, rfl, hcl⟩ := hc k hlt
      obtain ⟨b', o', vt', vs', rfl, hcl'⟩ := hc' k hlt
      obtain ⟨d0, d1, d2, d3, d4, d5, d6, d7, g0, g1⟩ := hcl.below hb
      obtain ⟨d0', d1', d2', d3', d4', d5', d6', d7', g0', g1'⟩ := hcl'.below hb
      obtain ⟨a0, k0, h0⟩ := g0.shape
      rw [h0] at d4 g0
      obtain ⟨a0', k0', h0'⟩ := g0'.shape
      rw [h0'] at d4' g0'
      have G0 : OpsAt wr.drew _ _ := g0.below (Below.refl _ _).drew
      have G0' : OpsAt wr.drew _ _ := g0'.below (Below.refl _ _).drew
      obtain ⟨a1, k1, h1⟩ := g1.shape
      rw [h1] at d5 g1
      obtain ⟨a1', k1', h1'⟩ := g1'.shape
      rw [h1'] at d5' g1'
      have G1 : OpsAt wr.drew _ _ := g1.below (Below.refl _ _).drew
      have G1' : OpsAt wr.drew _ _ := g1'.below (Below.refl _ _).drew
      clear hcl hcl' hc hc' h0 h0' g0 g0' h1 h1' g1 g1'
      have hkz : (k : Int) < (xs.length : Int) := by omega
      have hsz := hb.size
      go_wp2_with fail
      go_region_with (go_at_call 78; refine (eqTwin_same xs[k] _ _ _ _ _ G0 G1 G0' G1').mono ?_; rintro e w1 ⟨rfl, hb1⟩)
      all_goals
        have hb2 : Below w.heap.size w w1 := hb.drew.trans (hb1.mono hsz)
        clear hb hb1 d0 d0' d1 d1' d2 d2' d3 d3' d4 d4' d5 d5' d6 d6' d7 d7' G0 G0' G1 G1'
        go_wp2
        go_roundg (xs.length - (k + 1))
        case measure => omega
        case rel => exact ⟨k + 1, by omega, rfl, by go_num, hb2⟩
    · go_wp2
      go_ret
      exact ⟨rfl, hb⟩
set_option maxRecDepth 100000 in
set_option maxHeartbeats 2000000 in
theorem eqMach_same (x : Mc) (vp vo vt vs vp' vo' vt' vs' : Value) (w : World) (h0 : PagesAt w vp x.pages) (h1 : IntsAt w vo x.order) (h2 : TwinsAt w vt x.twins) (h3 : OpsAt w vs x.said) (k0 : PagesAt w vp' x.pages) (k1 : IntsAt w vo' x.order) (k2 : TwinsAt w vt' x.twins) (k3 : OpsAt w vs' x.said) :
    Calls Tryz.prog 10 #[.agg #[.int .i64 x.cells, vp, vo, .int .i64 x.now, vt, .int .i64 x.born, vs, .int .i64 x.code], .agg #[.int .i64 x.cells, vp', vo', .int .i64 x.now, vt', .int .i64 x.born, vs', .int .i64 x.code]] w fun e w' => e = .returned (.bool true) ∧ Below w.heap.size w w' := by
  obtain ⟨a0, c0, e0⟩ := h0.shape
  obtain ⟨b0, d0, f0⟩ := k0.shape
  subst e0 f0
  obtain ⟨a1, c1, e1⟩ := h1.shape
  obtain ⟨b1, d1, f1⟩ := k1.shape
  subst e1 f1
  obtain ⟨a2, c2, e2⟩ := h2.shape
  obtain ⟨b2, d2, f2⟩ := k2.shape
  subst e2 f2
  obtain ⟨a3, c3, e3⟩ := h3.shape
  obtain ⟨b3, d3, f3⟩ := k3.shape
  subst e3 f3
  go_enter Tryz.func10, Tryz.ntmps10
  go_upto_region 1 with fail
  refine wp_gen (fun W => Below w.heap.size w W ∧ Bx W w.heap.size 36 [.int .i64 x.cells, .slice a0 x.pages.length c0, .slice a1 x.order.length c1, .int .i64 x.now, .slice a2 x.twins.length c2, .int .i64 x.born, .slice a3 x.said.length c3, .int .i64 x.code] ∧ Bx W (w.heap.size + 1) 36 [.int .i64 x.cells, .slice b0 x.pages.length d0, .slice b1 x.order.length d1, .int .i64 x.now, .slice b2 x.twins.length d2, .int .i64 x.born, .slice b3 x.said.length d3, .int .i64 x.code]) ⟨((Below.refl _ _).alloc (Nat.le_refl _) _).alloc (by simp) _, (Bx.new w _ _).alloc _, Bx.newAt _ _ _ (by simp)⟩ ?_
  rintro W0 ⟨B0, x0, y0⟩
  have p0_0 := x0.cell 0 rfl
  have q0_0 := y0.cell 0 rfl
  have p0_1 := x0.cell 1 rfl
  have q0_1 := y0.cell 1 rfl
  have p0_2 := x0.cell 2 rfl
  have q0_2 := y0.cell 2 rfl
  have p0_3 := x0.cell 3 rfl
  have q0_3 := y0.cell 3 rfl
  have p0_4 := x0.cell 4 rfl
  have q0_4 := y0.cell 4 rfl
  have p0_5 := x0.cell 5 rfl
  have q0_5 := y0.cell 5 rfl
  have p0_6 := x0.cell 6 rfl
  have q0_6 := y0.cell 6 rfl
  have p0_7 := x0.cell 7 rfl
  have q0_7 := y0.cell 7 rfl
  have z0 := B0.size
  go_wp2_with fail
  refine (eqPageS_same _ _ x.pages _ (h0.below B0) (k0.below B0)).mono ?_
  rintro e W1 ⟨rfl, t1⟩
  have x1 := x0.below t1
  have y1 := y0.below t1
  have B1 := B0.trans (t1.mono z0)
  clear t1 x0 y0 B0 p0_0 q0_0 p0_1 q0_1 p0_2 q0_2 p0_3 q0_3 p0_4 q0_4 p0_5 q0_5 p0_6 q0_6 p0_7 q0_7
  have p1_0 := x1.cell 0 rfl
  have q1_0 := y1.cell 0 rfl
  have p1_1 := x1.cell 1 rfl
  have q1_1 := y1.cell 1 rfl
  have p1_2 := x1.cell 2 rfl
  have q1_2 := y1.cell 2 rfl
  have p1_3 := x1.cell 3 rfl
  have q1_3 := y1.cell 3 rfl
  have p1_4 := x1.cell 4 rfl
  have q1_4 := y1.cell 4 rfl
  have p1_5 := x1.cell 5 rfl
  have q1_5 := y1.cell 5 rfl
  have p1_6 := x1.cell 6 rfl
  have q1_6 := y1.cell 6 rfl
  have p1_7 := x1.cell 7 rfl
  have q1_7 := y1.cell 7 rfl
  have z1 := B1.size
  go_wp2_with fail
  refine (eqIntS_same _ _ x.order _ (h1.below B1) (k1.below B1)).mono ?_
  rintro e W2 ⟨rfl, t2⟩
  have x2 := x1.below t2
  have y2 := y1.below t2
  have B2 := B1.trans (t2.mono z1)
  clear t2 x1 y1 B1 p1_0 q1_0 p1_1 q1_1 p1_2 q1_2 p1_3 q1_3 p1_4 q1_4 p1_5 q1_5 p1_6 q1_6 p1_7 q1_7
  have p2_0 := x2.cell 0 rfl
  have q2_0 := y2.cell 0 rfl
  have p2_1 := x2.cell 1 rfl
  have q2_1 := y2.cell 1 rfl
  have p2_2 := x2.cell 2 rfl
  have q2_2 := y2.cell 2 rfl
  have p2_3 := x2.cell 3 rfl
  have q2_3 := y2.cell 3 rfl
  have p2_4 := x2.cell 4 rfl
  have q2_4 := y2.cell 4 rfl
  have p2_5 := x2.cell 5 rfl
  have q2_5 := y2.cell 5 rfl
  have p2_6 := x2.cell 6 rfl
  have q2_6 := y2.cell 6 rfl
  have p2_7 := x2.cell 7 rfl
  have q2_7 := y2.cell 7 rfl
  have z2 := B2.size
  go_wp2_with fail
  refine (eqTwinS_same _ _ x.twins _ (h2.below B2) (k2.below B2)).mono ?_
  rintro e W3 ⟨rfl, t3⟩
  have x3 := x2.below t3
  have y3 := y2.below t3
  have B3 := B2.trans (t3.mono z2)
  clear t3 x2 y2 B2 p2_0 q2_0 p2_1 q2_1 p2_2 q2_2 p2_3 q2_3 p2_4 q2_4 p2_5 q2_5 p2_6 q2_6 p2_7 q2_7
  have p3_0 := x3.cell 0 rfl
  have q3_0 := y3.cell 0 rfl
  have p3_1 := x3.cell 1 rfl
  have q3_1 := y3.cell 1 rfl
  have p3_2 := x3.cell 2 rfl
  have q3_2 := y3.cell 2 rfl
  have p3_3 := x3.cell 3 rfl
  have q3_3 := y3.cell 3 rfl
  have p3_4 := x3.cell 4 rfl
  have q3_4 := y3.cell 4 rfl
  have p3_5 := x3.cell 5 rfl
  have q3_5 := y3.cell 5 rfl
  have p3_6 := x3.cell 6 rfl
  have q3_6 := y3.cell 6 rfl
  have p3_7 := x3.cell 7 rfl
  have q3_7 := y3.cell 7 rfl
  have z3 := B3.size
  go_wp2_with fail
  refine (eqValS_same _ _ x.said _ (h3.below B3) (k3.below B3)).mono ?_
  rintro e W4 ⟨rfl, t4⟩
  have x4 := x3.below t4
  have y4 := y3.below t4
  have B4 := B3.trans (t4.mono z3)
  clear t4 x3 y3 B3 p3_0 q3_0 p3_1 q3_1 p3_2 q3_2 p3_3 q3_3 p3_4 q3_4 p3_5 q3_5 p3_6 q3_6 p3_7 q3_7
  have p4_0 := x4.cell 0 rfl
  have q4_0 := y4.cell 0 rfl
  have p4_1 := x4.cell 1 rfl
  have q4_1 := y4.cell 1 rfl
  have p4_2 := x4.cell 2 rfl
  have q4_2 := y4.cell 2 rfl
  have p4_3 := x4.cell 3 rfl
  have q4_3 := y4.cell 3 rfl
  have p4_4 := x4.cell 4 rfl
  have q4_4 := y4.cell 4 rfl
  have p4_5 := x4.cell 5 rfl
  have q4_5 := y4.cell 5 rfl
  have p4_6 := x4.cell 6 rfl
  have q4_6 := y4.cell 6 rfl
  have p4_7 := x4.cell 7 rfl
  have q4_7 := y4.cell 7 rfl
  go_wp2
  go_ret
  exact ⟨rfl, B4⟩
end Go.Proofs.YtmifhlkcceafkaaGreat
