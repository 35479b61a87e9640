/-
  The copies that the exact laws make of frames, pages, twins and machines: toFrame .. toMach answer the same in new memory, and write to nothing that was there. (Written by mkmc.py.)
-/
import Derived.Test.YtldiccheboipeaaMFrom
import Derived.Test.YtldiccheboipeaaMSize
import Derived.Test.YtldiccheboipeaaHCopy
import Derived.Deep.DeepCutAuto
namespace Go.Proofs.Ytldiccheboipeaa
open Go.RowKit

theorem toValS_from (v : Value) (xs : List (Int × Int)) (w : World) (h : OpsAt w v xs) (hn : xs.length ≤ 1048576) :
    Calls Try.prog 81 #[v] w fun e w' => ∃ g : Nat, e = .returned (.slice (some ⟨g, 0, none⟩) xs.length xs.length) ∧ From w.heap.size w' (fun w'' => OpsAt w'' (.slice (some ⟨g, 0, none⟩) xs.length xs.length) xs) ∧ Below w.heap.size w w' :=
  (toValS_any v xs w h hn).mono fun e w' ⟨v', h1, h2, h3, h4, _, _⟩ => by
    subst h3
    exact ⟨_, h1, h2.from (Nat.le_refl _), h4⟩

theorem toCall_from (c : Cl) (vt vs : Value) (w : World) (ht : OpsAt w vt c.temps) (hs : OpsAt w vs c.stack) (hsm : c.small) :
    Calls Try.prog 146 #[.agg (clCells vt vs c)] w fun e w' => ∃ g0 g1 : Nat, e = .returned (.agg #[.int .i64 c.m, .int .i64 c.pc, .slice (some ⟨g0, 0, none⟩) c.temps.length c.temps.length, .slice (some ⟨g1, 0, none⟩) c.stack.length c.stack.length, .int .i64 c.sender, .bool c.dead]) ∧
      From w.heap.size w' (fun w'' => OpsAt w'' (.slice (some ⟨g0, 0, none⟩) c.temps.length c.temps.length) c.temps ∧ OpsAt w'' (.slice (some ⟨g1, 0, none⟩) c.stack.length c.stack.length) c.stack) ∧ Below w.heap.size w w' :=
  (toCall_any c vt vs w ht hs hsm).mono fun e w' ⟨gt, gs, h1, h2, h3, h4, h5, h6, h7, _⟩ => ⟨gt, gs, h1, (h5.from h2).and (h6.from (by omega)), h7⟩

theorem Try.infoIntC : (Try.prog.info? 3).map (fun i => (i.zero, i.size, i.bytes)) = some (some (.int .i64 0), 1, 8) := by kernel_rfl

/-- the cells of a number that was copied -/
def elInt (xs : List Int) : Nat → List Value → World → Prop := fun i v _ => ∃ hi : i < xs.length, v = [.int .i64 xs[i]]

set_option maxRecDepth 100000 in
set_option maxHeartbeats 4000000 in
theorem toIntS_any (v : Value) (xs : List Int) (w : World) (h : IntsAt w v xs) (hn : xs.length ≤ 1048576) :
    Calls Try.prog 79 #[v] w fun e w' => ∃ g : Nat, e = .returned (.slice (some ⟨g, 0, none⟩) xs.length xs.length) ∧ From w.heap.size w' (fun w'' => IntsAt w'' (.slice (some ⟨g, 0, none⟩) xs.length xs.length) xs) ∧ Below w.heap.size w w' := by
  obtain ⟨a, cap, rfl, hl, hc⟩ := h
  have hl' := hl
  unfold maxLen at hl
  obtain ⟨i0, hi, hz0, hz1, hz2⟩ := info_parts Try.infoIntC
  have hmk : ∀ w : World, (Instr.makeSlice 29 (.int .i64 (xs.length : Int)) (.int .i64 (xs.length : Int))).run Try.prog w = .ok (.slice (some ⟨w.heap.size, 0, none⟩) xs.length xs.length) (w.alloc (.cells (madeCells #[.int .i64 0] (xs.length * 1)) 3)) := by
    intro w
    have := run_make (P := Try.prog) w 29 3 i0 _ Try.underlying29 hi hz0 .i64 .i64 xs.length xs.length (by omega) (Int.le_refl _) (by rw [hz2]; omega) (by omega)
    simpa [hz1, Value.cells] using this
  go_enter Try.func79, Try.ntmps79
  go_wp2
  clear hmk hi hz0 hz1 hz2
  go_loopg [4] xs.length (fun g i wr => ∃ k : Nat, k ≤ xs.length ∧ g = xs.length - k ∧ i = .int .i64 k ∧ Cop w wr 3 xs.length 1 k [.int .i64 0] (elInt xs))
  case atStart => exact ⟨0, Nat.zero_le _, rfl, rfl, by have := Cop.start w 3 xs.length 1 [.int .i64 0] (elInt xs) rfl; simpa using this⟩
  case round =>
    obtain ⟨k, hk, rfl, rfl, hC⟩ := hrel
    by_cases hlt : k < xs.length
    · obtain ⟨b, o, rfl, c0⟩ := hc k hlt
      obtain ⟨c, hB, hrow, hV⟩ := id hC
      have d0 := cell_below hB c0
      have hkz : (k : Int) < (xs.length : Int) := by omega
      have HR : Hid (Cop w _ 3 xs.length 1 (k + 1) [.int .i64 0] (elInt xs)) := hC.step (Below.refl _ _) [.int .i64 xs[k]] rfl (From.pure ⟨hlt, rfl⟩)
      have f0 := World.rowIs.frozen hrow k
      have r0 := World.rowIs.cell hrow (i := k) (by omega)
      clear hc c0 hV hC hrow hB
      simp only [Nat.mul_one] at HR
      go_wp2
      go_roundg (xs.length - (k + 1))
      case measure => omega
      case rel => exact ⟨k + 1, by omega, rfl, by go_num, HR.out⟩
    · obtain rfl : k = xs.length := by omega
      have hB := hC.choose_spec.1
      have HD : Hid (From w.heap.size wr (fun w'' => Laid w'' w.heap.size xs.length 1 (elInt xs))) := hC.done
      clear hC
      go_wp2
      go_ret
      refine ⟨_, rfl, HD.out.imp fun w'' q => ?_, hB⟩
      obtain ⟨c, hq⟩ := q
      refine ⟨_, xs.length, rfl, hl', fun i hi => ?_⟩
      obtain ⟨_, hx, _, he⟩ := hq i hi
      rw [he] at hx
      exact ⟨w.heap.size, 0, rfl, by have := hx 0 _ rfl; simpa using this⟩


set_option maxRecDepth 100000 in
set_option maxHeartbeats 4000000 in
theorem toFrame_any (x : Fr) (vt vs : Value) (w : World) (h0 : OpsAt w vt x.temps) (h1 : OpsAt w vs x.stack) (hsm : x.small) :
    Calls Try.prog 158 #[.agg #[.int .i64 x.m, .int .i64 x.pc, .int .i64 x.twin, vt, vs]] w fun e w' => ∃ g0 g1 : Nat, e = .returned (.agg #[.int .i64 x.m, .int .i64 x.pc, .int .i64 x.twin, .slice (some ⟨g0, 0, none⟩) x.temps.length x.temps.length, .slice (some ⟨g1, 0, none⟩) x.stack.length x.stack.length]) ∧ From w.heap.size w' (fun w'' => OpsAt w'' (.slice (some ⟨g0, 0, none⟩) x.temps.length x.temps.length) x.temps ∧ OpsAt w'' (.slice (some ⟨g1, 0, none⟩) x.stack.length x.stack.length) x.stack) ∧ Below w.heap.size w w' := by
  obtain ⟨a0, c0, e0⟩ := h0.shape
  subst e0
  obtain ⟨a1, c1, e1⟩ := h1.shape
  subst e1
  go_enter Try.func158, Try.ntmps158
  go_upto_region 5 with fail
  refine wp_gen (fun W => Below w.heap.size w W ∧ Bx W w.heap.size 221 [.int .i64 x.m, .int .i64 x.pc, .int .i64 x.twin, .slice a0 x.temps.length c0, .slice a1 x.stack.length c1] ∧ Bx W (w.heap.size + 1) 53 [.int .i64 0, .int .i64 0, .int .i64 0, .slice none 0 0, .slice none 0 0] ∧ Bx W (w.heap.size + 1 + 1) 53 [.int .i64 x.m, .int .i64 x.pc, .int .i64 x.twin, .slice none 0 0, .slice none 0 0] ∧ w.heap.size + 1 + 1 + 1 ≤ W.heap.size) ⟨(((Below.refl _ _).alloc (Nat.le_refl _) _).alloc (by simp) _).alloc (by simp; omega) _, ((Bx.new w _ _).alloc _).alloc _, (Bx.newAt _ _ _ (by simp)).alloc _, Bx.newAt _ _ _ (by simp), by simp⟩ ?_
  rintro W0 ⟨B0, x0, y0, o0, s0⟩
  have p0_0 := x0.cell 0 rfl
  have p0_1 := x0.cell 1 rfl
  have p0_2 := x0.cell 2 rfl
  have p0_3 := x0.cell 3 rfl
  have p0_4 := x0.cell 4 rfl
  have z0 := B0.size
  go_wp2_with fail
  refine (toValS_from _ x.temps _ (h0.below B0) hsm.1).mono ?_
  rintro e V0 ⟨n0, rfl, r0, t0⟩
  have bx0 := x0.below t0
  have by0 := y0.below t0
  have bo0 := o0.below t0
  have BB0 := B0.trans (t0.mono z0)
  have bs0 := Nat.le_trans s0 t0.size
  have bf0_0 := r0.mono s0
  clear t0 x0 y0 o0 B0 s0 r0 p0_0 p0_1 p0_2 p0_3 p0_4 
  have p0_0 := bx0.cell 0 rfl
  have p0_1 := bx0.cell 1 rfl
  have p0_2 := bx0.cell 2 rfl
  have p0_3 := bx0.cell 3 rfl
  have p0_4 := bx0.cell 4 rfl
  have q0_3 := bo0.cell 3 rfl
  have w0_3 := bo0.frozen 3
  go_upto_region 6 with fail
  refine wp_gen (fun W => Below w.heap.size w W ∧ Bx W w.heap.size 221 [.int .i64 x.m, .int .i64 x.pc, .int .i64 x.twin, .slice a0 x.temps.length c0, .slice a1 x.stack.length c1] ∧ Bx W (w.heap.size + 1) 53 [.int .i64 0, .int .i64 0, .int .i64 0, .slice none 0 0, .slice none 0 0] ∧ Bx W (w.heap.size + 1 + 1) 53 [.int .i64 x.m, .int .i64 x.pc, .int .i64 x.twin, .slice (some ⟨n0, 0, none⟩) x.temps.length x.temps.length, .slice none 0 0] ∧ w.heap.size + 1 + 1 + 1 ≤ W.heap.size ∧ From (w.heap.size + 1 + 1 + 1) W (fun w'' => OpsAt w'' (.slice (some ⟨n0, 0, none⟩) x.temps.length x.temps.length) x.temps)) ?_ ?_
  · have HW := ((Wr.refl1 (w.heap.size + 1 + 1) V0).set1 (o := 3) (.slice (some ⟨n0, 0, none⟩) x.temps.length x.temps.length))
    exact ⟨HW.below1 BB0 (Nat.le_refl _) (Nat.le_trans (Nat.le_succ _) (Nat.le_succ _)), HW.bx bx0 (by omega), HW.bx by0 (by omega), (bo0.set 3 _), Nat.le_trans bs0 HW.size, bf0_0.wr1 HW (by omega)⟩
  rintro W1 ⟨B1, x1, y1, o1, s1, f0_1⟩
  clear bx0 by0 bo0 BB0 bs0 bf0_0 p0_0 p0_1 p0_2 p0_3 p0_4 q0_3 w0_3
  have p1_0 := x1.cell 0 rfl
  have p1_1 := x1.cell 1 rfl
  have p1_2 := x1.cell 2 rfl
  have p1_3 := x1.cell 3 rfl
  have p1_4 := x1.cell 4 rfl
  have z1 := B1.size
  go_wp2_with fail
  refine (toValS_from _ x.stack _ (h1.below B1) hsm.2).mono ?_
  rintro e V1 ⟨n1, rfl, r1, t1⟩
  have bx1 := x1.below t1
  have by1 := y1.below t1
  have bo1 := o1.below t1
  have BB1 := B1.trans (t1.mono z1)
  have bs1 := Nat.le_trans s1 t1.size
  have bf0_1 := f0_1.below t1
  have bf1_1 := r1.mono s1
  clear t1 x1 y1 o1 B1 s1 r1 p1_0 p1_1 p1_2 p1_3 p1_4 f0_1
  have p1_0 := bx1.cell 0 rfl
  have p1_1 := bx1.cell 1 rfl
  have p1_2 := bx1.cell 2 rfl
  have p1_3 := bx1.cell 3 rfl
  have p1_4 := bx1.cell 4 rfl
  have q1_4 := bo1.cell 4 rfl
  have w1_4 := bo1.frozen 4
  go_upto_region 7 with fail
  refine wp_gen (fun W => Below w.heap.size w W ∧ Bx W w.heap.size 221 [.int .i64 x.m, .int .i64 x.pc, .int .i64 x.twin, .slice a0 x.temps.length c0, .slice a1 x.stack.length c1] ∧ Bx W (w.heap.size + 1) 53 [.int .i64 0, .int .i64 0, .int .i64 0, .slice none 0 0, .slice none 0 0] ∧ Bx W (w.heap.size + 1 + 1) 53 [.int .i64 x.m, .int .i64 x.pc, .int .i64 x.twin, .slice (some ⟨n0, 0, none⟩) x.temps.length x.temps.length, .slice (some ⟨n1, 0, none⟩) x.stack.length x.stack.length] ∧ w.heap.size + 1 + 1 + 1 ≤ W.heap.size ∧ From (w.heap.size + 1 + 1 + 1) W (fun w'' => OpsAt w'' (.slice (some ⟨n0, 0, none⟩) x.temps.length x.temps.length) x.temps) ∧ From (w.heap.size + 1 + 1 + 1) W (fun w'' => OpsAt w'' (.slice (some ⟨n1, 0, none⟩) x.stack.length x.stack.length) x.stack)) ?_ ?_
  · have HW := ((Wr.refl1 (w.heap.size + 1 + 1) V1).set1 (o := 4) (.slice (some ⟨n1, 0, none⟩) x.stack.length x.stack.length))
    exact ⟨HW.below1 BB1 (Nat.le_refl _) (Nat.le_trans (Nat.le_succ _) (Nat.le_succ _)), HW.bx bx1 (by omega), HW.bx by1 (by omega), (bo1.set 4 _), Nat.le_trans bs1 HW.size, bf0_1.wr1 HW (by omega), bf1_1.wr1 HW (by omega)⟩
  rintro W2 ⟨B2, x2, y2, o2, s2, f0_2, f1_2⟩
  clear bx1 by1 bo1 BB1 bs1 bf0_1 bf1_1 p1_0 p1_1 p1_2 p1_3 p1_4 q1_4 w1_4
  have p2_0 := o2.cell 0 rfl
  have q2_0 := y2.cell 0 rfl
  have w2_0 := y2.frozen 0
  have p2_1 := o2.cell 1 rfl
  have q2_1 := y2.cell 1 rfl
  have w2_1 := y2.frozen 1
  have p2_2 := o2.cell 2 rfl
  have q2_2 := y2.cell 2 rfl
  have w2_2 := y2.frozen 2
  have p2_3 := o2.cell 3 rfl
  have q2_3 := y2.cell 3 rfl
  have w2_3 := y2.frozen 3
  have p2_4 := o2.cell 4 rfl
  have q2_4 := y2.cell 4 rfl
  have w2_4 := y2.frozen 4
  go_wp2
  refine bp_gen (fun W => Below w.heap.size w W ∧ Bx W (w.heap.size + 1) 53 [.int .i64 x.m, .int .i64 x.pc, .int .i64 x.twin, .slice (some ⟨n0, 0, none⟩) x.temps.length x.temps.length, .slice (some ⟨n1, 0, none⟩) x.stack.length x.stack.length] ∧ From (w.heap.size + 1 + 1 + 1) W (fun w'' => OpsAt w'' (.slice (some ⟨n0, 0, none⟩) x.temps.length x.temps.length) x.temps) ∧ From (w.heap.size + 1 + 1 + 1) W (fun w'' => OpsAt w'' (.slice (some ⟨n1, 0, none⟩) x.stack.length x.stack.length) x.stack)) ?_ ?_
  · have HW := ((((((Wr.refl1 (w.heap.size + 1) W2).set1 (o := 0) (.int .i64 x.m)).set1 (o := 1) (.int .i64 x.pc)).set1 (o := 2) (.int .i64 x.twin)).set1 (o := 3) (.slice (some ⟨n0, 0, none⟩) x.temps.length x.temps.length)).set1 (o := 4) (.slice (some ⟨n1, 0, none⟩) x.stack.length x.stack.length))
    exact ⟨HW.below1 B2 (Nat.le_refl _) (Nat.le_succ _), (((((y2.set 0 _).set 1 _).set 2 _).set 3 _).set 4 _), f0_2.wr1 HW (by omega), f1_2.wr1 HW (by omega)⟩
  rintro W9 ⟨B9, x9, k0, k1⟩
  have i0 := x9.cell 0 rfl
  have i1 := x9.cell 1 rfl
  have i2 := x9.cell 2 rfl
  have i3 := x9.cell 3 rfl
  have i4 := x9.cell 4 rfl
  exact bodyPost_ret (v := .agg #[.int .i64 x.m, .int .i64 x.pc, .int .i64 x.twin, .slice (some ⟨n0, 0, none⟩) x.temps.length x.temps.length, .slice (some ⟨n1, 0, none⟩) x.stack.length x.stack.length]) (by simp [results, Try.results158, go_sem, i0, i1, i2, i3, i4]) rfl ⟨_, _, rfl, (From.and (k0.mono (by omega)) (k1.mono (by omega))), B9⟩

/-- the cells of an element that was copied -/
def elFrame (xs : List Fr) : Nat → List Value → World → Prop := fun i v w'' => ∃ hi : i < xs.length, ∃ g0 g1 : Nat, v = [.int .i64 xs[i].m, .int .i64 xs[i].pc, .int .i64 xs[i].twin, .slice (some ⟨g0, 0, none⟩) xs[i].temps.length xs[i].temps.length, .slice (some ⟨g1, 0, none⟩) xs[i].stack.length xs[i].stack.length] ∧ OpsAt w'' (.slice (some ⟨g0, 0, none⟩) xs[i].temps.length xs[i].temps.length) xs[i].temps ∧ OpsAt w'' (.slice (some ⟨g1, 0, none⟩) xs[i].stack.length xs[i].stack.length) xs[i].stack

theorem Try.infoFrameM : (Try.prog.info? 53).map (fun i => (i.zero, i.size, i.bytes)) = some (some (.agg #[.int .i64 0, .int .i64 0, .int .i64 0, .slice none 0 0, .slice none 0 0]), 5, 72) := by kernel_rfl

theorem elFrame_at {xs : List Fr} {w : World} {g : Nat} (hl : xs.length ≤ maxLen) (h : Laid w g xs.length 5 (elFrame xs)) : FramesAt w (.slice (some ⟨g, 0, none⟩) xs.length xs.length) xs := by
  obtain ⟨c, hc⟩ := h
  refine ⟨_, xs.length, rfl, hl, fun i hi => ?_⟩
  obtain ⟨_, hx, _, g0, g1, he, q0, q1⟩ := hc i hi
  rw [he] at hx
  refine ⟨g, 0, (.slice (some ⟨g0, 0, none⟩) xs[i].temps.length xs[i].temps.length), (.slice (some ⟨g1, 0, none⟩) xs[i].stack.length xs[i].stack.length), rfl, ?_⟩
  rw [Nat.zero_add]
  exact ⟨hx 0 _ rfl, hx 1 _ rfl, hx 2 _ rfl, hx 3 _ rfl, hx 4 _ rfl, q0, q1⟩

set_option maxRecDepth 100000 in
set_option maxHeartbeats 4000000 in
theorem toFrameS_any (v : Value) (xs : List Fr) (w : World) (h : FramesAt w v xs) (hn : xs.length ≤ 1048576) (ho : ∀ i, (hi : i < xs.length) → xs[i].small) :
    Calls Try.prog 145 #[v] w fun e w' => ∃ g : Nat, e = .returned (.slice (some ⟨g, 0, none⟩) xs.length xs.length) ∧ From w.heap.size w' (fun w'' => FramesAt w'' (.slice (some ⟨g, 0, none⟩) xs.length xs.length) xs) ∧ Below w.heap.size w w' := by
  obtain ⟨a, cap, rfl, hl, hc⟩ := h
  have hl' := hl
  unfold maxLen at hl
  obtain ⟨i0, hi, hz0, hz1, hz2⟩ := info_parts Try.infoFrameM
  have hmk : ∀ w : World, (Instr.makeSlice 49 (.int .i64 (xs.length : Int)) (.int .i64 (xs.length : Int))).run Try.prog w = .ok (.slice (some ⟨w.heap.size, 0, none⟩) xs.length xs.length) (w.alloc (.cells (madeCells #[.int .i64 0, .int .i64 0, .int .i64 0, .slice none 0 0, .slice none 0 0] (xs.length * 5)) 53)) := by
    intro w
    have := run_make (P := Try.prog) w 49 53 i0 _ Try.underlying49 hi hz0 .i64 .i64 xs.length xs.length (by omega) (Int.le_refl _) (by rw [hz2]; omega) (by omega)
    simpa [hz1, Value.cells] using this
  go_enter Try.func145, Try.ntmps145
  go_wp2
  clear hmk hi hz0 hz1 hz2
  go_loopg [4] xs.length (fun g i wr => ∃ k : Nat, k ≤ xs.length ∧ g = xs.length - k ∧ i = .int .i64 k ∧ Cop w wr 53 xs.length 5 k [.int .i64 0, .int .i64 0, .int .i64 0, .slice none 0 0, .slice none 0 0] (elFrame xs))
  case atStart => exact ⟨0, Nat.zero_le _, rfl, rfl, Cop.start w _ _ _ _ _ rfl⟩
  case round =>
    obtain ⟨k, hk, rfl, rfl, hC⟩ := hrel
    by_cases hlt : k < xs.length
    · obtain ⟨b, o, vt, vs, rfl, hcl⟩ := hc k hlt
      have hok := ho k hlt
      obtain ⟨c, hB, hrow, hV⟩ := id hC
      obtain ⟨d0, d1, d2, d3, d4, g0, g1⟩ := hcl.below hB
      obtain ⟨a0, k0, h0⟩ := g0.shape
      rw [h0] at d3 g0
      obtain ⟨a1, k1, h1⟩ := g1.shape
      rw [h1] at d4 g1
      have HOK : Hid (xs[k].small) := hok
      have HC : Hid (Cop w wr 53 xs.length 5 k [.int .i64 0, .int .i64 0, .int .i64 0, .slice none 0 0, .slice none 0 0] (elFrame xs)) := hC
      clear hcl hc ho hV hok hC h0 h1
      have hkz : (k : Int) < (xs.length : Int) := by omega
      go_wp2_with fail
      refine (toFrame_any xs[k] _ _ _ g0 g1 HOK.out).mono ?_
      rintro e w1 ⟨n0, n1, rfl, hF, hb1⟩
      have hrow1 : RowTo w1 w.heap.size 53 xs.length 5 k [.int .i64 0, .int .i64 0, .int .i64 0, .slice none 0 0, .slice none 0 0] c := row_below hb1 hrow
      have HR : Hid (Cop w _ 53 xs.length 5 (k + 1) [.int .i64 0, .int .i64 0, .int .i64 0, .slice none 0 0, .slice none 0 0] (elFrame xs)) := HC.out.step hb1 [.int .i64 xs[k].m, .int .i64 xs[k].pc, .int .i64 xs[k].twin, .slice (some ⟨n0, 0, none⟩) xs[k].temps.length xs[k].temps.length, .slice (some ⟨n1, 0, none⟩) xs[k].stack.length xs[k].stack.length] rfl (hF.imp fun w'' q => ⟨hlt, n0, n1, rfl, q⟩)
      have f0 := World.rowIs.frozen hrow1 (k * 5)
      have r0 := World.rowIs.cell hrow1 (i := k * 5) (by omega)
      have f1 := World.rowIs.frozen hrow1 (k * 5 + 1)
      have r1 := World.rowIs.cell hrow1 (i := k * 5 + 1) (by omega)
      have f2 := World.rowIs.frozen hrow1 (k * 5 + 2)
      have r2 := World.rowIs.cell hrow1 (i := k * 5 + 2) (by omega)
      have f3 := World.rowIs.frozen hrow1 (k * 5 + 3)
      have r3 := World.rowIs.cell hrow1 (i := k * 5 + 3) (by omega)
      have f4 := World.rowIs.frozen hrow1 (k * 5 + 4)
      have r4 := World.rowIs.cell hrow1 (i := k * 5 + 4) (by omega)
      clear hF hrow hrow1 HC hB hb1 d0 d1 d2 d3 d4 g0 g1
      go_wp2
      go_roundg (xs.length - (k + 1))
      case measure => omega
      case rel => exact ⟨k + 1, by omega, rfl, by go_num, HR.out⟩
    · obtain rfl : k = xs.length := by omega
      have hB := hC.choose_spec.1
      have HD : Hid (From w.heap.size wr (fun w'' => Laid w'' w.heap.size xs.length 5 (elFrame xs))) := hC.done
      clear hC
      go_wp2
      go_ret
      exact ⟨_, rfl, HD.out.imp fun w'' q => elFrame_at hl' q, hB⟩

set_option maxRecDepth 100000 in
set_option maxHeartbeats 4000000 in
theorem toPage_any (x : Pg) (vf : Value) (w : World) (h0 : FramesAt w vf x.frames) (hsm : x.small) :
    Calls Try.prog 119 #[.agg #[.int .i64 x.base, vf]] w fun e w' => ∃ g0 : Nat, e = .returned (.agg #[.int .i64 x.base, .slice (some ⟨g0, 0, none⟩) x.frames.length x.frames.length]) ∧ From w.heap.size w' (fun w'' => FramesAt w'' (.slice (some ⟨g0, 0, none⟩) x.frames.length x.frames.length) x.frames) ∧ Below w.heap.size w w' := by
  obtain ⟨a0, c0, e0⟩ := h0.shape
  subst e0
  go_enter Try.func119, Try.ntmps119
  go_upto_region 3 with fail
  refine wp_gen (fun W => Below w.heap.size w W ∧ Bx W w.heap.size 163 [.int .i64 x.base, .slice a0 x.frames.length c0] ∧ Bx W (w.heap.size + 1) 51 [.int .i64 0, .slice none 0 0] ∧ Bx W (w.heap.size + 1 + 1) 51 [.int .i64 x.base, .slice none 0 0] ∧ w.heap.size + 1 + 1 + 1 ≤ W.heap.size) ⟨(((Below.refl _ _).alloc (Nat.le_refl _) _).alloc (by simp) _).alloc (by simp; omega) _, ((Bx.new w _ _).alloc _).alloc _, (Bx.newAt _ _ _ (by simp)).alloc _, Bx.newAt _ _ _ (by simp), by simp⟩ ?_
  rintro W0 ⟨B0, x0, y0, o0, s0⟩
  have p0_0 := x0.cell 0 rfl
  have p0_1 := x0.cell 1 rfl
  have z0 := B0.size
  go_wp2_with fail
  refine (toFrameS_any _ x.frames _ (h0.below B0) hsm.1 hsm.2).mono ?_
  rintro e V0 ⟨n0, rfl, r0, t0⟩
  have bx0 := x0.below t0
  have by0 := y0.below t0
  have bo0 := o0.below t0
  have BB0 := B0.trans (t0.mono z0)
  have bs0 := Nat.le_trans s0 t0.size
  have bf0_0 := r0.mono s0
  clear t0 x0 y0 o0 B0 s0 r0 p0_0 p0_1 
  have p0_0 := bx0.cell 0 rfl
  have p0_1 := bx0.cell 1 rfl
  have q0_1 := bo0.cell 1 rfl
  have w0_1 := bo0.frozen 1
  go_upto_region 4 with fail
  refine wp_gen (fun W => Below w.heap.size w W ∧ Bx W w.heap.size 163 [.int .i64 x.base, .slice a0 x.frames.length c0] ∧ Bx W (w.heap.size + 1) 51 [.int .i64 0, .slice none 0 0] ∧ Bx W (w.heap.size + 1 + 1) 51 [.int .i64 x.base, .slice (some ⟨n0, 0, none⟩) x.frames.length x.frames.length] ∧ w.heap.size + 1 + 1 + 1 ≤ W.heap.size ∧ From (w.heap.size + 1 + 1 + 1) W (fun w'' => FramesAt w'' (.slice (some ⟨n0, 0, none⟩) x.frames.length x.frames.length) x.frames)) ?_ ?_
  · have HW := ((Wr.refl1 (w.heap.size + 1 + 1) V0).set1 (o := 1) (.slice (some ⟨n0, 0, none⟩) x.frames.length x.frames.length))
    exact ⟨HW.below1 BB0 (Nat.le_refl _) (Nat.le_trans (Nat.le_succ _) (Nat.le_succ _)), HW.bx bx0 (by omega), HW.bx by0 (by omega), (bo0.set 1 _), Nat.le_trans bs0 HW.size, bf0_0.wr1 HW (by omega)⟩
  rintro W1 ⟨B1, x1, y1, o1, s1, f0_1⟩
  clear bx0 by0 bo0 BB0 bs0 bf0_0 p0_0 p0_1 q0_1 w0_1
  have p1_0 := o1.cell 0 rfl
  have q1_0 := y1.cell 0 rfl
  have w1_0 := y1.frozen 0
  have p1_1 := o1.cell 1 rfl
  have q1_1 := y1.cell 1 rfl
  have w1_1 := y1.frozen 1
  go_wp2
  refine bp_gen (fun W => Below w.heap.size w W ∧ Bx W (w.heap.size + 1) 51 [.int .i64 x.base, .slice (some ⟨n0, 0, none⟩) x.frames.length x.frames.length] ∧ From (w.heap.size + 1 + 1 + 1) W (fun w'' => FramesAt w'' (.slice (some ⟨n0, 0, none⟩) x.frames.length x.frames.length) x.frames)) ?_ ?_
  · have HW := (((Wr.refl1 (w.heap.size + 1) W1).set1 (o := 0) (.int .i64 x.base)).set1 (o := 1) (.slice (some ⟨n0, 0, none⟩) x.frames.length x.frames.length))
    exact ⟨HW.below1 B1 (Nat.le_refl _) (Nat.le_succ _), ((y1.set 0 _).set 1 _), f0_1.wr1 HW (by omega)⟩
  rintro W9 ⟨B9, x9, k0⟩
  have i0 := x9.cell 0 rfl
  have i1 := x9.cell 1 rfl
  exact bodyPost_ret (v := .agg #[.int .i64 x.base, .slice (some ⟨n0, 0, none⟩) x.frames.length x.frames.length]) (by simp [results, Try.results119, go_sem, i0, i1]) rfl ⟨_, rfl, k0.mono (by omega), B9⟩

/-- the cells of an element that was copied -/
def elPage (xs : List Pg) : Nat → List Value → World → Prop := fun i v w'' => ∃ hi : i < xs.length, ∃ g0 : Nat, v = [.int .i64 xs[i].base, .slice (some ⟨g0, 0, none⟩) xs[i].frames.length xs[i].frames.length] ∧ FramesAt w'' (.slice (some ⟨g0, 0, none⟩) xs[i].frames.length xs[i].frames.length) xs[i].frames

theorem Try.infoPageM : (Try.prog.info? 51).map (fun i => (i.zero, i.size, i.bytes)) = some (some (.agg #[.int .i64 0, .slice none 0 0]), 2, 32) := by kernel_rfl

theorem elPage_at {xs : List Pg} {w : World} {g : Nat} (hl : xs.length ≤ maxLen) (h : Laid w g xs.length 2 (elPage xs)) : PagesAt w (.slice (some ⟨g, 0, none⟩) xs.length xs.length) xs := by
  obtain ⟨c, hc⟩ := h
  refine ⟨_, xs.length, rfl, hl, fun i hi => ?_⟩
  obtain ⟨_, hx, _, g0, he, q0⟩ := hc i hi
  rw [he] at hx
  refine ⟨g, 0, (.slice (some ⟨g0, 0, none⟩) xs[i].frames.length xs[i].frames.length), rfl, ?_⟩
  rw [Nat.zero_add]
  exact ⟨hx 0 _ rfl, hx 1 _ rfl, q0⟩

set_option maxRecDepth 100000 in
set_option maxHeartbeats 4000000 in
theorem toPageS_any (v : Value) (xs : List Pg) (w : World) (h : PagesAt w v xs) (hn : xs.length ≤ 1048576) (ho : ∀ i, (hi : i < xs.length) → xs[i].small) :
    Calls Try.prog 78 #[v] w fun e w' => ∃ g : Nat, e = .returned (.slice (some ⟨g, 0, none⟩) xs.length xs.length) ∧ From w.heap.size w' (fun w'' => PagesAt w'' (.slice (some ⟨g, 0, none⟩) xs.length xs.length) xs) ∧ Below w.heap.size w w' := by
  obtain ⟨a, cap, rfl, hl, hc⟩ := h
  have hl' := hl
  unfold maxLen at hl
  obtain ⟨i0, hi, hz0, hz1, hz2⟩ := info_parts Try.infoPageM
  have hmk : ∀ w : World, (Instr.makeSlice 28 (.int .i64 (xs.length : Int)) (.int .i64 (xs.length : Int))).run Try.prog w = .ok (.slice (some ⟨w.heap.size, 0, none⟩) xs.length xs.length) (w.alloc (.cells (madeCells #[.int .i64 0, .slice none 0 0] (xs.length * 2)) 51)) := by
    intro w
    have := run_make (P := Try.prog) w 28 51 i0 _ Try.underlying28 hi hz0 .i64 .i64 xs.length xs.length (by omega) (Int.le_refl _) (by rw [hz2]; omega) (by omega)
    simpa [hz1, Value.cells] using this
  go_enter Try.func78, Try.ntmps78
  go_wp2
  clear hmk hi hz0 hz1 hz2
  go_loopg [4] xs.length (fun g i wr => ∃ k : Nat, k ≤ xs.length ∧ g = xs.length - k ∧ i = .int .i64 k ∧ Cop w wr 51 xs.length 2 k [.int .i64 0, .slice none 0 0] (elPage xs))
  case atStart => exact ⟨0, Nat.zero_le _, rfl, rfl, Cop.start w _ _ _ _ _ rfl⟩
  case round =>
    obtain ⟨k, hk, rfl, rfl, hC⟩ := hrel
    by_cases hlt : k < xs.length
    · obtain ⟨b, o, vf, rfl, hcl⟩ := hc k hlt
      have hok := ho k hlt
      obtain ⟨c, hB, hrow, hV⟩ := id hC
      obtain ⟨d0, d1, g0⟩ := hcl.below hB
      obtain ⟨a0, k0, h0⟩ := g0.shape
      rw [h0] at d1 g0
      have HOK : Hid (xs[k].small) := hok
      have HC : Hid (Cop w wr 51 xs.length 2 k [.int .i64 0, .slice none 0 0] (elPage xs)) := hC
      clear hcl hc ho hV hok hC h0
      have hkz : (k : Int) < (xs.length : Int) := by omega
      go_wp2_with fail
      refine (toPage_any xs[k] _ _ g0 HOK.out).mono ?_
      rintro e w1 ⟨n0, rfl, hF, hb1⟩
      have hrow1 : RowTo w1 w.heap.size 51 xs.length 2 k [.int .i64 0, .slice none 0 0] c := row_below hb1 hrow
      have HR : Hid (Cop w _ 51 xs.length 2 (k + 1) [.int .i64 0, .slice none 0 0] (elPage xs)) := HC.out.step hb1 [.int .i64 xs[k].base, .slice (some ⟨n0, 0, none⟩) xs[k].frames.length xs[k].frames.length] rfl (hF.imp fun w'' q => ⟨hlt, n0, rfl, q⟩)
      have f0 := World.rowIs.frozen hrow1 (k * 2)
      have r0 := World.rowIs.cell hrow1 (i := k * 2) (by omega)
      have f1 := World.rowIs.frozen hrow1 (k * 2 + 1)
      have r1 := World.rowIs.cell hrow1 (i := k * 2 + 1) (by omega)
      clear hF hrow hrow1 HC hB hb1 d0 d1 g0
      go_wp2
      go_roundg (xs.length - (k + 1))
      case measure => omega
      case rel => exact ⟨k + 1, by omega, rfl, by go_num, HR.out⟩
    · obtain rfl : k = xs.length := by omega
      have hB := hC.choose_spec.1
      have HD : Hid (From w.heap.size wr (fun w'' => Laid w'' w.heap.size xs.length 2 (elPage xs))) := hC.done
      clear hC
      go_wp2
      go_ret
      exact ⟨_, rfl, HD.out.imp fun w'' q => elPage_at hl' q, hB⟩

set_option maxRecDepth 100000 in
set_option maxHeartbeats 4000000 in
theorem toTwin_any (x : Tw) (vt vs : Value) (w : World) (h0 : OpsAt w vt x.left.temps) (h1 : OpsAt w vs x.left.stack) (hsm : x.left.small) :
    Calls Try.prog 120 #[.agg #[.int .i64 x.page, .int .i64 x.place, .int .i64 x.left.m, .int .i64 x.left.pc, vt, vs, .int .i64 x.left.sender, .bool x.left.dead]] w fun e w' => ∃ g0 g1 : Nat, e = .returned (.agg #[.int .i64 x.page, .int .i64 x.place, .int .i64 x.left.m, .int .i64 x.left.pc, .slice (some ⟨g0, 0, none⟩) x.left.temps.length x.left.temps.length, .slice (some ⟨g1, 0, none⟩) x.left.stack.length x.left.stack.length, .int .i64 x.left.sender, .bool x.left.dead]) ∧ From w.heap.size w' (fun w'' => OpsAt w'' (.slice (some ⟨g0, 0, none⟩) x.left.temps.length x.left.temps.length) x.left.temps ∧ OpsAt w'' (.slice (some ⟨g1, 0, none⟩) x.left.stack.length x.left.stack.length) x.left.stack) ∧ Below w.heap.size w w' := by
  obtain ⟨a0, c0, e0⟩ := h0.shape
  subst e0
  obtain ⟨a1, c1, e1⟩ := h1.shape
  subst e1
  go_enter Try.func120, Try.ntmps120
  go_upto_region 4 with fail
  refine wp_gen (fun W => Below w.heap.size w W ∧ Bx W w.heap.size 168 [.int .i64 x.page, .int .i64 x.place, .int .i64 x.left.m, .int .i64 x.left.pc, .slice a0 x.left.temps.length c0, .slice a1 x.left.stack.length c1, .int .i64 x.left.sender, .bool x.left.dead] ∧ Bx W (w.heap.size + 1) 90 [.int .i64 0, .int .i64 0, .int .i64 0, .int .i64 0, .slice none 0 0, .slice none 0 0, .int .i64 0, .bool false] ∧ Bx W (w.heap.size + 1 + 1) 90 [.int .i64 x.page, .int .i64 x.place, .int .i64 0, .int .i64 0, .slice none 0 0, .slice none 0 0, .int .i64 0, .bool false] ∧ w.heap.size + 1 + 1 + 1 ≤ W.heap.size) ⟨(((Below.refl _ _).alloc (Nat.le_refl _) _).alloc (by simp) _).alloc (by simp; omega) _, ((Bx.new w _ _).alloc _).alloc _, (Bx.newAt _ _ _ (by simp)).alloc _, Bx.newAt _ _ _ (by simp), by simp⟩ ?_
  rintro W0 ⟨B0, x0, y0, o0, s0⟩
  have p0_0 := x0.cell 0 rfl
  have p0_1 := x0.cell 1 rfl
  have p0_2 := x0.cell 2 rfl
  have p0_3 := x0.cell 3 rfl
  have p0_4 := x0.cell 4 rfl
  have p0_5 := x0.cell 5 rfl
  have p0_6 := x0.cell 6 rfl
  have p0_7 := x0.cell 7 rfl
  have z0 := B0.size
  go_wp2_with fail
  refine (toCall_from x.left _ _ _ (h0.below B0) (h1.below B0) hsm).mono ?_
  rintro e V0 ⟨n0, n1, rfl, r0, t0⟩
  have bx0 := x0.below t0
  have by0 := y0.below t0
  have bo0 := o0.below t0
  have BB0 := B0.trans (t0.mono z0)
  have bs0 := Nat.le_trans s0 t0.size
  have bf0_0 := r0.mono s0
  clear t0 x0 y0 o0 B0 s0 r0 p0_0 p0_1 p0_2 p0_3 p0_4 p0_5 p0_6 p0_7 
  have p0_0 := bx0.cell 0 rfl
  have p0_1 := bx0.cell 1 rfl
  have p0_2 := bx0.cell 2 rfl
  have p0_3 := bx0.cell 3 rfl
  have p0_4 := bx0.cell 4 rfl
  have p0_5 := bx0.cell 5 rfl
  have p0_6 := bx0.cell 6 rfl
  have p0_7 := bx0.cell 7 rfl
  have q0_2 := bo0.cell 2 rfl
  have w0_2 := bo0.frozen 2
  have q0_3 := bo0.cell 3 rfl
  have w0_3 := bo0.frozen 3
  have q0_4 := bo0.cell 4 rfl
  have w0_4 := bo0.frozen 4
  have q0_5 := bo0.cell 5 rfl
  have w0_5 := bo0.frozen 5
  have q0_6 := bo0.cell 6 rfl
  have w0_6 := bo0.frozen 6
  have q0_7 := bo0.cell 7 rfl
  have w0_7 := bo0.frozen 7
  go_upto_region 5 with fail
  refine wp_gen (fun W => Below w.heap.size w W ∧ Bx W w.heap.size 168 [.int .i64 x.page, .int .i64 x.place, .int .i64 x.left.m, .int .i64 x.left.pc, .slice a0 x.left.temps.length c0, .slice a1 x.left.stack.length c1, .int .i64 x.left.sender, .bool x.left.dead] ∧ Bx W (w.heap.size + 1) 90 [.int .i64 0, .int .i64 0, .int .i64 0, .int .i64 0, .slice none 0 0, .slice none 0 0, .int .i64 0, .bool false] ∧ Bx W (w.heap.size + 1 + 1) 90 [.int .i64 x.page, .int .i64 x.place, .int .i64 x.left.m, .int .i64 x.left.pc, .slice (some ⟨n0, 0, none⟩) x.left.temps.length x.left.temps.length, .slice (some ⟨n1, 0, none⟩) x.left.stack.length x.left.stack.length, .int .i64 x.left.sender, .bool x.left.dead] ∧ w.heap.size + 1 + 1 + 1 ≤ W.heap.size ∧ From (w.heap.size + 1 + 1 + 1) W (fun w'' => OpsAt w'' (.slice (some ⟨n0, 0, none⟩) x.left.temps.length x.left.temps.length) x.left.temps ∧ OpsAt w'' (.slice (some ⟨n1, 0, none⟩) x.left.stack.length x.left.stack.length) x.left.stack)) ?_ ?_
  · have HW := (((((((Wr.refl1 (w.heap.size + 1 + 1) V0).set1 (o := 2) (.int .i64 x.left.m)).set1 (o := 3) (.int .i64 x.left.pc)).set1 (o := 4) (.slice (some ⟨n0, 0, none⟩) x.left.temps.length x.left.temps.length)).set1 (o := 5) (.slice (some ⟨n1, 0, none⟩) x.left.stack.length x.left.stack.length)).set1 (o := 6) (.int .i64 x.left.sender)).set1 (o := 7) (.bool x.left.dead))
    exact ⟨HW.below1 BB0 (Nat.le_refl _) (Nat.le_trans (Nat.le_succ _) (Nat.le_succ _)), HW.bx bx0 (by omega), HW.bx by0 (by omega), ((((((bo0.set 2 _).set 3 _).set 4 _).set 5 _).set 6 _).set 7 _), Nat.le_trans bs0 HW.size, bf0_0.wr1 HW (by omega)⟩
  rintro W1 ⟨B1, x1, y1, o1, s1, f0_1⟩
  clear bx0 by0 bo0 BB0 bs0 bf0_0 p0_0 p0_1 p0_2 p0_3 p0_4 p0_5 p0_6 p0_7 q0_2 w0_2 q0_3 w0_3 q0_4 w0_4 q0_5 w0_5 q0_6 w0_6 q0_7 w0_7
  have p1_0 := o1.cell 0 rfl
  have q1_0 := y1.cell 0 rfl
  have w1_0 := y1.frozen 0
  have p1_1 := o1.cell 1 rfl
  have q1_1 := y1.cell 1 rfl
  have w1_1 := y1.frozen 1
  have p1_2 := o1.cell 2 rfl
  have q1_2 := y1.cell 2 rfl
  have w1_2 := y1.frozen 2
  have p1_3 := o1.cell 3 rfl
  have q1_3 := y1.cell 3 rfl
  have w1_3 := y1.frozen 3
  have p1_4 := o1.cell 4 rfl
  have q1_4 := y1.cell 4 rfl
  have w1_4 := y1.frozen 4
  have p1_5 := o1.cell 5 rfl
  have q1_5 := y1.cell 5 rfl
  have w1_5 := y1.frozen 5
  have p1_6 := o1.cell 6 rfl
  have q1_6 := y1.cell 6 rfl
  have w1_6 := y1.frozen 6
  have p1_7 := o1.cell 7 rfl
  have q1_7 := y1.cell 7 rfl
  have w1_7 := y1.frozen 7
  go_wp2
  refine bp_gen (fun W => Below w.heap.size w W ∧ Bx W (w.heap.size + 1) 90 [.int .i64 x.page, .int .i64 x.place, .int .i64 x.left.m, .int .i64 x.left.pc, .slice (some ⟨n0, 0, none⟩) x.left.temps.length x.left.temps.length, .slice (some ⟨n1, 0, none⟩) x.left.stack.length x.left.stack.length, .int .i64 x.left.sender, .bool x.left.dead] ∧ From (w.heap.size + 1 + 1 + 1) W (fun w'' => OpsAt w'' (.slice (some ⟨n0, 0, none⟩) x.left.temps.length x.left.temps.length) x.left.temps ∧ OpsAt w'' (.slice (some ⟨n1, 0, none⟩) x.left.stack.length x.left.stack.length) x.left.stack)) ?_ ?_
  · have HW := (((((((((Wr.refl1 (w.heap.size + 1) W1).set1 (o := 0) (.int .i64 x.page)).set1 (o := 1) (.int .i64 x.place)).set1 (o := 2) (.int .i64 x.left.m)).set1 (o := 3) (.int .i64 x.left.pc)).set1 (o := 4) (.slice (some ⟨n0, 0, none⟩) x.left.temps.length x.left.temps.length)).set1 (o := 5) (.slice (some ⟨n1, 0, none⟩) x.left.stack.length x.left.stack.length)).set1 (o := 6) (.int .i64 x.left.sender)).set1 (o := 7) (.bool x.left.dead))
    exact ⟨HW.below1 B1 (Nat.le_refl _) (Nat.le_succ _), ((((((((y1.set 0 _).set 1 _).set 2 _).set 3 _).set 4 _).set 5 _).set 6 _).set 7 _), f0_1.wr1 HW (by omega)⟩
  rintro W9 ⟨B9, x9, k0⟩
  have i0 := x9.cell 0 rfl
  have i1 := x9.cell 1 rfl
  have i2 := x9.cell 2 rfl
  have i3 := x9.cell 3 rfl
  have i4 := x9.cell 4 rfl
  have i5 := x9.cell 5 rfl
  have i6 := x9.cell 6 rfl
  have i7 := x9.cell 7 rfl
  exact bodyPost_ret (v := .agg #[.int .i64 x.page, .int .i64 x.place, .int .i64 x.left.m, .int .i64 x.left.pc, .slice (some ⟨n0, 0, none⟩) x.left.temps.length x.left.temps.length, .slice (some ⟨n1, 0, none⟩) x.left.stack.length x.left.stack.length, .int .i64 x.left.sender, .bool x.left.dead]) (by simp [results, Try.results120, go_sem, i0, i1, i2, i3, i4, i5, i6, i7]) rfl ⟨_, _, rfl, k0.mono (by omega), B9⟩

/-- the cells of an element that was copied -/
def elTwin (xs : List Tw) : Nat → List Value → World → Prop := fun i v w'' => ∃ hi : i < xs.length, ∃ g0 g1 : Nat, v = [.int .i64 xs[i].page, .int .i64 xs[i].place, .int .i64 xs[i].left.m, .int .i64 xs[i].left.pc, .slice (some ⟨g0, 0, none⟩) xs[i].left.temps.length xs[i].left.temps.length, .slice (some ⟨g1, 0, none⟩) xs[i].left.stack.length xs[i].left.stack.length, .int .i64 xs[i].left.sender, .bool xs[i].left.dead] ∧ OpsAt w'' (.slice (some ⟨g0, 0, none⟩) xs[i].left.temps.length xs[i].left.temps.length) xs[i].left.temps ∧ OpsAt w'' (.slice (some ⟨g1, 0, none⟩) xs[i].left.stack.length xs[i].left.stack.length) xs[i].left.stack

theorem Try.infoTwinM : (Try.prog.info? 90).map (fun i => (i.zero, i.size, i.bytes)) = some (some (.agg #[.int .i64 0, .int .i64 0, .int .i64 0, .int .i64 0, .slice none 0 0, .slice none 0 0, .int .i64 0, .bool false]), 8, 96) := by kernel_rfl

theorem elTwin_at {xs : List Tw} {w : World} {g : Nat} (hl : xs.length ≤ maxLen) (h : Laid w g xs.length 8 (elTwin xs)) : TwinsAt w (.slice (some ⟨g, 0, none⟩) xs.length xs.length) xs := by
  obtain ⟨c, hc⟩ := h
  refine ⟨_, xs.length, rfl, hl, fun i hi => ?_⟩
  obtain ⟨_, hx, _, g0, g1, he, q0, q1⟩ := hc i hi
  rw [he] at hx
  refine ⟨g, 0, (.slice (some ⟨g0, 0, none⟩) xs[i].left.temps.length xs[i].left.temps.length), (.slice (some ⟨g1, 0, none⟩) xs[i].left.stack.length xs[i].left.stack.length), rfl, ?_⟩
  rw [Nat.zero_add]
  exact ⟨hx 0 _ rfl, hx 1 _ rfl, hx 2 _ rfl, hx 3 _ rfl, hx 4 _ rfl, hx 5 _ rfl, hx 6 _ rfl, hx 7 _ rfl, q0, q1⟩

set_option maxRecDepth 100000 in
set_option maxHeartbeats 4000000 in
theorem toTwinS_any (v : Value) (xs : List Tw) (w : World) (h : TwinsAt w v xs) (hn : xs.length ≤ 1048576) (ho : ∀ i, (hi : i < xs.length) → xs[i].left.small) :
    Calls Try.prog 80 #[v] w fun e w' => ∃ g : Nat, e = .returned (.slice (some ⟨g, 0, none⟩) xs.length xs.length) ∧ From w.heap.size w' (fun w'' => TwinsAt w'' (.slice (some ⟨g, 0, none⟩) xs.length xs.length) xs) ∧ Below w.heap.size w w' := by
  obtain ⟨a, cap, rfl, hl, hc⟩ := h
  have hl' := hl
  unfold maxLen at hl
  obtain ⟨i0, hi, hz0, hz1, hz2⟩ := info_parts Try.infoTwinM
  have hmk : ∀ w : World, (Instr.makeSlice 30 (.int .i64 (xs.length : Int)) (.int .i64 (xs.length : Int))).run Try.prog w = .ok (.slice (some ⟨w.heap.size, 0, none⟩) xs.length xs.length) (w.alloc (.cells (madeCells #[.int .i64 0, .int .i64 0, .int .i64 0, .int .i64 0, .slice none 0 0, .slice none 0 0, .int .i64 0, .bool false] (xs.length * 8)) 90)) := by
    intro w
    have := run_make (P := Try.prog) w 30 90 i0 _ Try.underlying30 hi hz0 .i64 .i64 xs.length xs.length (by omega) (Int.le_refl _) (by rw [hz2]; omega) (by omega)
    simpa [hz1, Value.cells] using this
  go_enter Try.func80, Try.ntmps80
  go_wp2
  clear hmk hi hz0 hz1 hz2
  go_loopg [4] xs.length (fun g i wr => ∃ k : Nat, k ≤ xs.length ∧ g = xs.length - k ∧ i = .int .i64 k ∧ Cop w wr 90 xs.length 8 k [.int .i64 0, .int .i64 0, .int .i64 0, .int .i64 0, .slice none 0 0, .slice none 0 0, .int .i64 0, .bool false] (elTwin xs))
  case atStart => exact ⟨0, Nat.zero_le _, rfl, rfl, Cop.start w _ _ _ _ _ rfl⟩
  case round =>
    obtain ⟨k, hk, rfl, rfl, hC⟩ := hrel
    by_cases hlt : k < xs.length
    · obtain ⟨b, o, vt, vs, rfl, hcl⟩ := hc k hlt
      have hok := ho k hlt
      obtain ⟨c, hB, hrow, hV⟩ := id hC
      obtain ⟨d0, d1, d2, d3, d4, d5, d6, d7, g0, g1⟩ := hcl.below hB
      obtain ⟨a0, k0, h0⟩ := g0.shape
      rw [h0] at d4 g0
      obtain ⟨a1, k1, h1⟩ := g1.shape
      rw [h1] at d5 g1
      have HOK : Hid (xs[k].left.small) := hok
      have HC : Hid (Cop w wr 90 xs.length 8 k [.int .i64 0, .int .i64 0, .int .i64 0, .int .i64 0, .slice none 0 0, .slice none 0 0, .int .i64 0, .bool false] (elTwin xs)) := hC
      clear hcl hc ho hV hok hC h0 h1
      have hkz : (k : Int) < (xs.length : Int) := by omega
      go_wp2_with fail
      refine (toTwin_any xs[k] _ _ _ g0 g1 HOK.out).mono ?_
      rintro e w1 ⟨n0, n1, rfl, hF, hb1⟩
      have hrow1 : RowTo w1 w.heap.size 90 xs.length 8 k [.int .i64 0, .int .i64 0, .int .i64 0, .int .i64 0, .slice none 0 0, .slice none 0 0, .int .i64 0, .bool false] c := row_below hb1 hrow
      have HR : Hid (Cop w _ 90 xs.length 8 (k + 1) [.int .i64 0, .int .i64 0, .int .i64 0, .int .i64 0, .slice none 0 0, .slice none 0 0, .int .i64 0, .bool false] (elTwin xs)) := HC.out.step hb1 [.int .i64 xs[k].page, .int .i64 xs[k].place, .int .i64 xs[k].left.m, .int .i64 xs[k].left.pc, .slice (some ⟨n0, 0, none⟩) xs[k].left.temps.length xs[k].left.temps.length, .slice (some ⟨n1, 0, none⟩) xs[k].left.stack.length xs[k].left.stack.length, .int .i64 xs[k].left.sender, .bool xs[k].left.dead] rfl (hF.imp fun w'' q => ⟨hlt, n0, n1, rfl, q⟩)
      have f0 := World.rowIs.frozen hrow1 (k * 8)
      have r0 := World.rowIs.cell hrow1 (i := k * 8) (by omega)
      have f1 := World.rowIs.frozen hrow1 (k * 8 + 1)
      have r1 := World.rowIs.cell hrow1 (i := k * 8 + 1) (by omega)
      have f2 := World.rowIs.frozen hrow1 (k * 8 + 2)
      have r2 := World.rowIs.cell hrow1 (i := k * 8 + 2) (by omega)
      have f3 := World.rowIs.frozen hrow1 (k * 8 + 3)
      have r3 := World.rowIs.cell hrow1 (i := k * 8 + 3) (by omega)
      have f4 := World.rowIs.frozen hrow1 (k * 8 + 4)
      have r4 := World.rowIs.cell hrow1 (i := k * 8 + 4) (by omega)
      have f5 := World.rowIs.frozen hrow1 (k * 8 + 5)
      have r5 := World.rowIs.cell hrow1 (i := k * 8 + 5) (by omega)
      have f6 := World.rowIs.frozen hrow1 (k * 8 + 6)
      have r6 := World.rowIs.cell hrow1 (i := k * 8 + 6) (by omega)
      have f7 := World.rowIs.frozen hrow1 (k * 8 + 7)
      have r7 := World.rowIs.cell hrow1 (i := k * 8 + 7) (by omega)
      clear hF hrow hrow1 HC hB hb1 d0 d1 d2 d3 d4 d5 d6 d7 g0 g1
      go_wp2
      go_roundg (xs.length - (k + 1))
      case measure => omega
      case rel => exact ⟨k + 1, by omega, rfl, by go_num, HR.out⟩
    · obtain rfl : k = xs.length := by omega
      have hB := hC.choose_spec.1
      have HD : Hid (From w.heap.size wr (fun w'' => Laid w'' w.heap.size xs.length 8 (elTwin xs))) := hC.done
      clear hC
      go_wp2
      go_ret
      exact ⟨_, rfl, HD.out.imp fun w'' q => elTwin_at hl' q, hB⟩

set_option maxRecDepth 100000 in
set_option maxHeartbeats 4000000 in
theorem toMach_any (x : Mc) (vp vo vt vs : Value) (w : World) (h0 : PagesAt w vp x.pages) (h1 : IntsAt w vo x.order) (h2 : TwinsAt w vt x.twins) (h3 : OpsAt w vs x.said) (hsm : x.sized) :
    Calls Try.prog 28 #[.agg #[.int .i64 x.cells, vp, vo, .int .i64 x.now, vt, .int .i64 x.born, vs, .int .i64 x.code]] w fun e w' => ∃ g0 g1 g2 g3 : Nat, e = .returned (.agg #[.int .i64 x.cells, .slice (some ⟨g0, 0, none⟩) x.pages.length x.pages.length, .slice (some ⟨g1, 0, none⟩) x.order.length x.order.length, .int .i64 x.now, .slice (some ⟨g2, 0, none⟩) x.twins.length x.twins.length, .int .i64 x.born, .slice (some ⟨g3, 0, none⟩) x.said.length x.said.length, .int .i64 x.code]) ∧ From w.heap.size w' (fun w'' => PagesAt w'' (.slice (some ⟨g0, 0, none⟩) x.pages.length x.pages.length) x.pages ∧ IntsAt w'' (.slice (some ⟨g1, 0, none⟩) x.order.length x.order.length) x.order ∧ TwinsAt w'' (.slice (some ⟨g2, 0, none⟩) x.twins.length x.twins.length) x.twins ∧ OpsAt w'' (.slice (some ⟨g3, 0, none⟩) x.said.length x.said.length) x.said) ∧ Below w.heap.size w w' := by
  obtain ⟨a0, c0, e0⟩ := h0.shape
  subst e0
  obtain ⟨a1, c1, e1⟩ := h1.shape
  subst e1
  obtain ⟨a2, c2, e2⟩ := h2.shape
  subst e2
  obtain ⟨a3, c3, e3⟩ := h3.shape
  subst e3
  go_enter Try.func28, Try.ntmps28
  go_upto_region 3 with fail
  refine wp_gen (fun W => Below w.heap.size w W ∧ Bx W w.heap.size 67 [.int .i64 x.cells, .slice a0 x.pages.length c0, .slice a1 x.order.length c1, .int .i64 x.now, .slice a2 x.twins.length c2, .int .i64 x.born, .slice a3 x.said.length c3, .int .i64 x.code] ∧ Bx W (w.heap.size + 1) 33 [.int .i64 0, .slice none 0 0, .slice none 0 0, .int .i64 0, .slice none 0 0, .int .i64 0, .slice none 0 0, .int .i64 0] ∧ Bx W (w.heap.size + 1 + 1) 33 [.int .i64 x.cells, .slice none 0 0, .slice none 0 0, .int .i64 0, .slice none 0 0, .int .i64 0, .slice none 0 0, .int .i64 0] ∧ w.heap.size + 1 + 1 + 1 ≤ W.heap.size) ⟨(((Below.refl _ _).alloc (Nat.le_refl _) _).alloc (by simp) _).alloc (by simp; omega) _, ((Bx.new w _ _).alloc _).alloc _, (Bx.newAt _ _ _ (by simp)).alloc _, Bx.newAt _ _ _ (by simp), by simp⟩ ?_
  rintro W0 ⟨B0, x0, y0, o0, s0⟩
  have p0_0 := x0.cell 0 rfl
  have p0_1 := x0.cell 1 rfl
  have p0_2 := x0.cell 2 rfl
  have p0_3 := x0.cell 3 rfl
  have p0_4 := x0.cell 4 rfl
  have p0_5 := x0.cell 5 rfl
  have p0_6 := x0.cell 6 rfl
  have p0_7 := x0.cell 7 rfl
  have z0 := B0.size
  go_wp2_with fail
  refine (toPageS_any _ x.pages _ (h0.below B0) hsm.1.1 hsm.1.2).mono ?_
  rintro e V0 ⟨n0, rfl, r0, t0⟩
  have bx0 := x0.below t0
  have by0 := y0.below t0
  have bo0 := o0.below t0
  have BB0 := B0.trans (t0.mono z0)
  have bs0 := Nat.le_trans s0 t0.size
  have bf0_0 := r0.mono s0
  clear t0 x0 y0 o0 B0 s0 r0 p0_0 p0_1 p0_2 p0_3 p0_4 p0_5 p0_6 p0_7 
  have p0_0 := bx0.cell 0 rfl
  have p0_1 := bx0.cell 1 rfl
  have p0_2 := bx0.cell 2 rfl
  have p0_3 := bx0.cell 3 rfl
  have p0_4 := bx0.cell 4 rfl
  have p0_5 := bx0.cell 5 rfl
  have p0_6 := bx0.cell 6 rfl
  have p0_7 := bx0.cell 7 rfl
  have q0_1 := bo0.cell 1 rfl
  have w0_1 := bo0.frozen 1
  go_upto_region 4 with fail
  refine wp_gen (fun W => Below w.heap.size w W ∧ Bx W w.heap.size 67 [.int .i64 x.cells, .slice a0 x.pages.length c0, .slice a1 x.order.length c1, .int .i64 x.now, .slice a2 x.twins.length c2, .int .i64 x.born, .slice a3 x.said.length c3, .int .i64 x.code] ∧ Bx W (w.heap.size + 1) 33 [.int .i64 0, .slice none 0 0, .slice none 0 0, .int .i64 0, .slice none 0 0, .int .i64 0, .slice none 0 0, .int .i64 0] ∧ Bx W (w.heap.size + 1 + 1) 33 [.int .i64 x.cells, .slice (some ⟨n0, 0, none⟩) x.pages.length x.pages.length, .slice none 0 0, .int .i64 0, .slice none 0 0, .int .i64 0, .slice none 0 0, .int .i64 0] ∧ w.heap.size + 1 + 1 + 1 ≤ W.heap.size ∧ From (w.heap.size + 1 + 1 + 1) W (fun w'' => PagesAt w'' (.slice (some ⟨n0, 0, none⟩) x.pages.length x.pages.length) x.pages)) ?_ ?_
  · have HW := ((Wr.refl1 (w.heap.size + 1 + 1) V0).set1 (o := 1) (.slice (some ⟨n0, 0, none⟩) x.pages.length x.pages.length))
    exact ⟨HW.below1 BB0 (Nat.le_refl _) (Nat.le_trans (Nat.le_succ _) (Nat.le_succ _)), HW.bx bx0 (by omega), HW.bx by0 (by omega), (bo0.set 1 _), Nat.le_trans bs0 HW.size, bf0_0.wr1 HW (by omega)⟩
  rintro W1 ⟨B1, x1, y1, o1, s1, f0_1⟩
  clear bx0 by0 bo0 BB0 bs0 bf0_0 p0_0 p0_1 p0_2 p0_3 p0_4 p0_5 p0_6 p0_7 q0_1 w0_1
  have p1_0 := x1.cell 0 rfl
  have p1_1 := x1.cell 1 rfl
  have p1_2 := x1.cell 2 rfl
  have p1_3 := x1.cell 3 rfl
  have p1_4 := x1.cell 4 rfl
  have p1_5 := x1.cell 5 rfl
  have p1_6 := x1.cell 6 rfl
  have p1_7 := x1.cell 7 rfl
  have z1 := B1.size
  go_wp2_with fail
  refine (toIntS_any _ x.order _ (h1.below B1) hsm.2.1).mono ?_
  rintro e V1 ⟨n1, rfl, r1, t1⟩
  have bx1 := x1.below t1
  have by1 := y1.below t1
  have bo1 := o1.below t1
  have BB1 := B1.trans (t1.mono z1)
  have bs1 := Nat.le_trans s1 t1.size
  have bf0_1 := f0_1.below t1
  have bf1_1 := r1.mono s1
  clear t1 x1 y1 o1 B1 s1 r1 p1_0 p1_1 p1_2 p1_3 p1_4 p1_5 p1_6 p1_7 f0_1
  have p1_0 := bx1.cell 0 rfl
  have p1_1 := bx1.cell 1 rfl
  have p1_2 := bx1.cell 2 rfl
  have p1_3 := bx1.cell 3 rfl
  have p1_4 := bx1.cell 4 rfl
  have p1_5 := bx1.cell 5 rfl
  have p1_6 := bx1.cell 6 rfl
  have p1_7 := bx1.cell 7 rfl
  have q1_2 := bo1.cell 2 rfl
  have w1_2 := bo1.frozen 2
  have q1_3 := bo1.cell 3 rfl
  have w1_3 := bo1.frozen 3
  go_upto_region 6 with fail
  refine wp_gen (fun W => Below w.heap.size w W ∧ Bx W w.heap.size 67 [.int .i64 x.cells, .slice a0 x.pages.length c0, .slice a1 x.order.length c1, .int .i64 x.now, .slice a2 x.twins.length c2, .int .i64 x.born, .slice a3 x.said.length c3, .int .i64 x.code] ∧ Bx W (w.heap.size + 1) 33 [.int .i64 0, .slice none 0 0, .slice none 0 0, .int .i64 0, .slice none 0 0, .int .i64 0, .slice none 0 0, .int .i64 0] ∧ Bx W (w.heap.size + 1 + 1) 33 [.int .i64 x.cells, .slice (some ⟨n0, 0, none⟩) x.pages.length x.pages.length, .slice (some ⟨n1, 0, none⟩) x.order.length x.order.length, .int .i64 x.now, .slice none 0 0, .int .i64 0, .slice none 0 0, .int .i64 0] ∧ w.heap.size + 1 + 1 + 1 ≤ W.heap.size ∧ From (w.heap.size + 1 + 1 + 1) W (fun w'' => PagesAt w'' (.slice (some ⟨n0, 0, none⟩) x.pages.length x.pages.length) x.pages) ∧ From (w.heap.size + 1 + 1 + 1) W (fun w'' => IntsAt w'' (.slice (some ⟨n1, 0, none⟩) x.order.length x.order.length) x.order)) ?_ ?_
  · have HW := (((Wr.refl1 (w.heap.size + 1 + 1) V1).set1 (o := 2) (.slice (some ⟨n1, 0, none⟩) x.order.length x.order.length)).set1 (o := 3) (.int .i64 x.now))
    exact ⟨HW.below1 BB1 (Nat.le_refl _) (Nat.le_trans (Nat.le_succ _) (Nat.le_succ _)), HW.bx bx1 (by omega), HW.bx by1 (by omega), ((bo1.set 2 _).set 3 _), Nat.le_trans bs1 HW.size, bf0_1.wr1 HW (by omega), bf1_1.wr1 HW (by omega)⟩
  rintro W2 ⟨B2, x2, y2, o2, s2, f0_2, f1_2⟩
  clear bx1 by1 bo1 BB1 bs1 bf0_1 bf1_1 p1_0 p1_1 p1_2 p1_3 p1_4 p1_5 p1_6 p1_7 q1_2 w1_2 q1_3 w1_3
  have p2_0 := x2.cell 0 rfl
  have p2_1 := x2.cell 1 rfl
  have p2_2 := x2.cell 2 rfl
  have p2_3 := x2.cell 3 rfl
  have p2_4 := x2.cell 4 rfl
  have p2_5 := x2.cell 5 rfl
  have p2_6 := x2.cell 6 rfl
  have p2_7 := x2.cell 7 rfl
  have z2 := B2.size
  go_wp2_with fail
  refine (toTwinS_any _ x.twins _ (h2.below B2) hsm.2.2.1.1 hsm.2.2.1.2).mono ?_
  rintro e V2 ⟨n2, rfl, r2, t2⟩
  have bx2 := x2.below t2
  have by2 := y2.below t2
  have bo2 := o2.below t2
  have BB2 := B2.trans (t2.mono z2)
  have bs2 := Nat.le_trans s2 t2.size
  have bf0_2 := f0_2.below t2
  have bf1_2 := f1_2.below t2
  have bf2_2 := r2.mono s2
  clear t2 x2 y2 o2 B2 s2 r2 p2_0 p2_1 p2_2 p2_3 p2_4 p2_5 p2_6 p2_7 f0_2 f1_2
  have p2_0 := bx2.cell 0 rfl
  have p2_1 := bx2.cell 1 rfl
  have p2_2 := bx2.cell 2 rfl
  have p2_3 := bx2.cell 3 rfl
  have p2_4 := bx2.cell 4 rfl
  have p2_5 := bx2.cell 5 rfl
  have p2_6 := bx2.cell 6 rfl
  have p2_7 := bx2.cell 7 rfl
  have q2_4 := bo2.cell 4 rfl
  have w2_4 := bo2.frozen 4
  have q2_5 := bo2.cell 5 rfl
  have w2_5 := bo2.frozen 5
  go_upto_region 8 with fail
  refine wp_gen (fun W => Below w.heap.size w W ∧ Bx W w.heap.size 67 [.int .i64 x.cells, .slice a0 x.pages.length c0, .slice a1 x.order.length c1, .int .i64 x.now, .slice a2 x.twins.length c2, .int .i64 x.born, .slice a3 x.said.length c3, .int .i64 x.code] ∧ Bx W (w.heap.size + 1) 33 [.int .i64 0, .slice none 0 0, .slice none 0 0, .int .i64 0, .slice none 0 0, .int .i64 0, .slice none 0 0, .int .i64 0] ∧ Bx W (w.heap.size + 1 + 1) 33 [.int .i64 x.cells, .slice (some ⟨n0, 0, none⟩) x.pages.length x.pages.length, .slice (some ⟨n1, 0, none⟩) x.order.length x.order.length, .int .i64 x.now, .slice (some ⟨n2, 0, none⟩) x.twins.length x.twins.length, .int .i64 x.born, .slice none 0 0, .int .i64 0] ∧ w.heap.size + 1 + 1 + 1 ≤ W.heap.size ∧ From (w.heap.size + 1 + 1 + 1) W (fun w'' => PagesAt w'' (.slice (some ⟨n0, 0, none⟩) x.pages.length x.pages.length) x.pages) ∧ From (w.heap.size + 1 + 1 + 1) W (fun w'' => IntsAt w'' (.slice (some ⟨n1, 0, none⟩) x.order.length x.order.length) x.order) ∧ From (w.heap.size + 1 + 1 + 1) W (fun w'' => TwinsAt w'' (.slice (some ⟨n2, 0, none⟩) x.twins.length x.twins.length) x.twins)) ?_ ?_
  · have HW := (((Wr.refl1 (w.heap.size + 1 + 1) V2).set1 (o := 4) (.slice (some ⟨n2, 0, none⟩) x.twins.length x.twins.length)).set1 (o := 5) (.int .i64 x.born))
    exact ⟨HW.below1 BB2 (Nat.le_refl _) (Nat.le_trans (Nat.le_succ _) (Nat.le_succ _)), HW.bx bx2 (by omega), HW.bx by2 (by omega), ((bo2.set 4 _).set 5 _), Nat.le_trans bs2 HW.size, bf0_2.wr1 HW (by omega), bf1_2.wr1 HW (by omega), bf2_2.wr1 HW (by omega)⟩
  rintro W3 ⟨B3, x3, y3, o3, s3, f0_3, f1_3, f2_3⟩
  clear bx2 by2 bo2 BB2 bs2 bf0_2 bf1_2 bf2_2 p2_0 p2_1 p2_2 p2_3 p2_4 p2_5 p2_6 p2_7 q2_4 w2_4 q2_5 w2_5
  have p3_0 := x3.cell 0 rfl
  have p3_1 := x3.cell 1 rfl
  have p3_2 := x3.cell 2 rfl
  have p3_3 := x3.cell 3 rfl
  have p3_4 := x3.cell 4 rfl
  have p3_5 := x3.cell 5 rfl
  have p3_6 := x3.cell 6 rfl
  have p3_7 := x3.cell 7 rfl
  have z3 := B3.size
  go_wp2_with fail
  refine (toValS_from _ x.said _ (h3.below B3) hsm.2.2.2).mono ?_
  rintro e V3 ⟨n3, rfl, r3, t3⟩
  have bx3 := x3.below t3
  have by3 := y3.below t3
  have bo3 := o3.below t3
  have BB3 := B3.trans (t3.mono z3)
  have bs3 := Nat.le_trans s3 t3.size
  have bf0_3 := f0_3.below t3
  have bf1_3 := f1_3.below t3
  have bf2_3 := f2_3.below t3
  have bf3_3 := r3.mono s3
  clear t3 x3 y3 o3 B3 s3 r3 p3_0 p3_1 p3_2 p3_3 p3_4 p3_5 p3_6 p3_7 f0_3 f1_3 f2_3
  have p3_0 := bx3.cell 0 rfl
  have p3_1 := bx3.cell 1 rfl
  have p3_2 := bx3.cell 2 rfl
  have p3_3 := bx3.cell 3 rfl
  have p3_4 := bx3.cell 4 rfl
  have p3_5 := bx3.cell 5 rfl
  have p3_6 := bx3.cell 6 rfl
  have p3_7 := bx3.cell 7 rfl
  have q3_6 := bo3.cell 6 rfl
  have w3_6 := bo3.frozen 6
  have q3_7 := bo3.cell 7 rfl
  have w3_7 := bo3.frozen 7
  go_upto_region 10 with fail
  refine wp_gen (fun W => Below w.heap.size w W ∧ Bx W w.heap.size 67 [.int .i64 x.cells, .slice a0 x.pages.length c0, .slice a1 x.order.length c1, .int .i64 x.now, .slice a2 x.twins.length c2, .int .i64 x.born, .slice a3 x.said.length c3, .int .i64 x.code] ∧ Bx W (w.heap.size + 1) 33 [.int .i64 0, .slice none 0 0, .slice none 0 0, .int .i64 0, .slice none 0 0, .int .i64 0, .slice none 0 0, .int .i64 0] ∧ Bx W (w.heap.size + 1 + 1) 33 [.int .i64 x.cells, .slice (some ⟨n0, 0, none⟩) x.pages.length x.pages.length, .slice (some ⟨n1, 0, none⟩) x.order.length x.order.length, .int .i64 x.now, .slice (some ⟨n2, 0, none⟩) x.twins.length x.twins.length, .int .i64 x.born, .slice (some ⟨n3, 0, none⟩) x.said.length x.said.length, .int .i64 x.code] ∧ w.heap.size + 1 + 1 + 1 ≤ W.heap.size ∧ From (w.heap.size + 1 + 1 + 1) W (fun w'' => PagesAt w'' (.slice (some ⟨n0, 0, none⟩) x.pages.length x.pages.length) x.pages) ∧ From (w.heap.size + 1 + 1 + 1) W (fun w'' => IntsAt w'' (.slice (some ⟨n1, 0, none⟩) x.order.length x.order.length) x.order) ∧ From (w.heap.size + 1 + 1 + 1) W (fun w'' => TwinsAt w'' (.slice (some ⟨n2, 0, none⟩) x.twins.length x.twins.length) x.twins) ∧ From (w.heap.size + 1 + 1 + 1) W (fun w'' => OpsAt w'' (.slice (some ⟨n3, 0, none⟩) x.said.length x.said.length) x.said)) ?_ ?_
  · have HW := (((Wr.refl1 (w.heap.size + 1 + 1) V3).set1 (o := 6) (.slice (some ⟨n3, 0, none⟩) x.said.length x.said.length)).set1 (o := 7) (.int .i64 x.code))
    exact ⟨HW.below1 BB3 (Nat.le_refl _) (Nat.le_trans (Nat.le_succ _) (Nat.le_succ _)), HW.bx bx3 (by omega), HW.bx by3 (by omega), ((bo3.set 6 _).set 7 _), Nat.le_trans bs3 HW.size, bf0_3.wr1 HW (by omega), bf1_3.wr1 HW (by omega), bf2_3.wr1 HW (by omega), bf3_3.wr1 HW (by omega)⟩
  rintro W4 ⟨B4, x4, y4, o4, s4, f0_4, f1_4, f2_4, f3_4⟩
  clear bx3 by3 bo3 BB3 bs3 bf0_3 bf1_3 bf2_3 bf3_3 p3_0 p3_1 p3_2 p3_3 p3_4 p3_5 p3_6 p3_7 q3_6 w3_6 q3_7 w3_7
  have p4_0 := o4.cell 0 rfl
  have q4_0 := y4.cell 0 rfl
  have w4_0 := y4.frozen 0
  have p4_1 := o4.cell 1 rfl
  have q4_1 := y4.cell 1 rfl
  have w4_1 := y4.frozen 1
  have p4_2 := o4.cell 2 rfl
  have q4_2 := y4.cell 2 rfl
  have w4_2 := y4.frozen 2
  have p4_3 := o4.cell 3 rfl
  have q4_3 := y4.cell 3 rfl
  have w4_3 := y4.frozen 3
  have p4_4 := o4.cell 4 rfl
  have q4_4 := y4.cell 4 rfl
  have w4_4 := y4.frozen 4
  have p4_5 := o4.cell 5 rfl
  have q4_5 := y4.cell 5 rfl
  have w4_5 := y4.frozen 5
  have p4_6 := o4.cell 6 rfl
  have q4_6 := y4.cell 6 rfl
  have w4_6 := y4.frozen 6
  have p4_7 := o4.cell 7 rfl
  have q4_7 := y4.cell 7 rfl
  have w4_7 := y4.frozen 7
  go_wp2
  refine bp_gen (fun W => Below w.heap.size w W ∧ Bx W (w.heap.size + 1) 33 [.int .i64 x.cells, .slice (some ⟨n0, 0, none⟩) x.pages.length x.pages.length, .slice (some ⟨n1, 0, none⟩) x.order.length x.order.length, .int .i64 x.now, .slice (some ⟨n2, 0, none⟩) x.twins.length x.twins.length, .int .i64 x.born, .slice (some ⟨n3, 0, none⟩) x.said.length x.said.length, .int .i64 x.code] ∧ From (w.heap.size + 1 + 1 + 1) W (fun w'' => PagesAt w'' (.slice (some ⟨n0, 0, none⟩) x.pages.length x.pages.length) x.pages) ∧ From (w.heap.size + 1 + 1 + 1) W (fun w'' => IntsAt w'' (.slice (some ⟨n1, 0, none⟩) x.order.length x.order.length) x.order) ∧ From (w.heap.size + 1 + 1 + 1) W (fun w'' => TwinsAt w'' (.slice (some ⟨n2, 0, none⟩) x.twins.length x.twins.length) x.twins) ∧ From (w.heap.size + 1 + 1 + 1) W (fun w'' => OpsAt w'' (.slice (some ⟨n3, 0, none⟩) x.said.length x.said.length) x.said)) ?_ ?_
  · have HW := (((((((((Wr.refl1 (w.heap.size + 1) W4).set1 (o := 0) (.int .i64 x.cells)).set1 (o := 1) (.slice (some ⟨n0, 0, none⟩) x.pages.length x.pages.length)).set1 (o := 2) (.slice (some ⟨n1, 0, none⟩) x.order.length x.order.length)).set1 (o := 3) (.int .i64 x.now)).set1 (o := 4) (.slice (some ⟨n2, 0, none⟩) x.twins.length x.twins.length)).set1 (o := 5) (.int .i64 x.born)).set1 (o := 6) (.slice (some ⟨n3, 0, none⟩) x.said.length x.said.length)).set1 (o := 7) (.int .i64 x.code))
    exact ⟨HW.below1 B4 (Nat.le_refl _) (Nat.le_succ _), ((((((((y4.set 0 _).set 1 _).set 2 _).set 3 _).set 4 _).set 5 _).set 6 _).set 7 _), f0_4.wr1 HW (by omega), f1_4.wr1 HW (by omega), f2_4.wr1 HW (by omega), f3_4.wr1 HW (by omega)⟩
  rintro W9 ⟨B9, x9, k0, k1, k2, k3⟩
  have i0 := x9.cell 0 rfl
  have i1 := x9.cell 1 rfl
  have i2 := x9.cell 2 rfl
  have i3 := x9.cell 3 rfl
  have i4 := x9.cell 4 rfl
  have i5 := x9.cell 5 rfl
  have i6 := x9.cell 6 rfl
  have i7 := x9.cell 7 rfl
  exact bodyPost_ret (v := .agg #[.int .i64 x.cells, .slice (some ⟨n0, 0, none⟩) x.pages.length x.pages.length, .slice (some ⟨n1, 0, none⟩) x.order.length x.order.length, .int .i64 x.now, .slice (some ⟨n2, 0, none⟩) x.twins.length x.twins.length, .int .i64 x.born, .slice (some ⟨n3, 0, none⟩) x.said.length x.said.length, .int .i64 x.code]) (by simp [results, Try.results28, go_sem, i0, i1, i2, i3, i4, i5, i6, i7]) rfl ⟨_, _, _, _, rfl, (From.and (k0.mono (by omega)) (From.and (k1.mono (by omega)) (From.and (k2.mono (by omega)) (k3.mono (by omega))))), B9⟩

end Go.Proofs.Ytldiccheboipeaa
