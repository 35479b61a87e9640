/-
  The sizes that the exact laws look at first, of frames, pages, twins and machines: where szMach answers no number below 0, none of its lists is longer than 1048576; it writes to nothing that was there. (Written by mkmx.py.)
-/
import Derived.Test.YtldiccheboipeaaMBase
import Derived.Test.YtldiccheboipeaaHSize
import Derived.Deep.DeepCutAuto
namespace Go.Proofs.Ytldiccheboipeaa
open Go.RowKit

def Fr.small (x : Fr) : Prop := x.temps.length ≤ 1048576 ∧ x.stack.length ≤ 1048576
def Pg.small (x : Pg) : Prop := x.frames.length ≤ 1048576 ∧ ∀ i, (hi : i < x.frames.length) → x.frames[i].small
def Mc.sized (x : Mc) : Prop := (x.pages.length ≤ 1048576 ∧ ∀ i, (hi : i < x.pages.length) → x.pages[i].small) ∧ x.order.length ≤ 1048576 ∧ (x.twins.length ≤ 1048576 ∧ ∀ i, (hi : i < x.twins.length) → x.twins[i].left.small) ∧ x.said.length ≤ 1048576

theorem szIntS_any (a : Option Addr) (n c : Nat) (left : Int) (w : World) (h0 : 0 ≤ left) (h1 : left ≤ 1048576) (hn : n ≤ maxLen) :
    Calls Try.prog 75 #[.slice a n c, .int .i64 left] w fun e w' => ∃ r : Int, e = .returned (.int .i64 r) ∧ r ≤ 1048576 ∧ (0 ≤ r → n ≤ 1048576) ∧ w' = w := by
  unfold maxLen at hn
  go_enter Try.func75, Try.ntmps75
  by_cases hlt : left - n < 0
  · go_wp2
    go_ret
    exact ⟨_, rfl, by omega, fun h => absurd h (by omega), rfl⟩
  · go_wp2
    go_ret
    exact ⟨_, rfl, by omega, fun _ => by omega, rfl⟩


set_option maxRecDepth 100000 in
set_option maxHeartbeats 2000000 in
theorem szFrame_any (x : Fr) (vt vs : Value) (left : Int) (w : World) (h0 : OpsAt w vt x.temps) (h1 : OpsAt w vs x.stack) (l0 : 0 ≤ left) (l1 : left ≤ 1048576) :
    Calls Try.prog 157 #[.agg #[.int .i64 x.m, .int .i64 x.pc, .int .i64 x.twin, vt, vs], .int .i64 left] w fun e w' => ∃ r : Int, e = .returned (.int .i64 r) ∧ r ≤ 1048576 ∧ (0 ≤ r → x.small) ∧ Below w.heap.size w w' := by
  obtain ⟨a0, c0, e0⟩ := h0.shape
  subst e0
  obtain ⟨_, _, _, n0, _⟩ := id h0
  obtain ⟨a1, c1, e1⟩ := h1.shape
  subst e1
  obtain ⟨_, _, _, n1, _⟩ := id h1
  go_enter Try.func157, Try.ntmps157
  go_upto_region 1 with fail
  refine wp_gen (fun W => Below w.heap.size w W ∧ Bx W w.heap.size 221 [.int .i64 x.m, .int .i64 x.pc, .int .i64 x.twin, .slice a0 x.temps.length c0, .slice a1 x.stack.length c1]) ⟨(Below.refl _ _).alloc (Nat.le_refl _) _, Bx.new w _ _⟩ ?_
  rintro W0 ⟨B0, x0⟩
  have p0_0 := x0.cell 0 rfl
  have p0_1 := x0.cell 1 rfl
  have p0_2 := x0.cell 2 rfl
  have p0_3 := x0.cell 3 rfl
  have p0_4 := x0.cell 4 rfl
  have z0 := B0.size
  go_wp2_with fail
  refine (szValS_any _ _ _ _ _ l0 l1 n0).mono ?_
  rintro e W1 ⟨r0, rfl, u0, v0, t1⟩
  have H0 : Hid (0 ≤ r0 → x.temps.length ≤ 1048576) := v0
  clear v0
  obtain rfl := t1.symm
  have x1 := x0
  have B1 := B0
  clear x0 B0 p0_0 p0_1 p0_2 p0_3 p0_4
  by_cases m0 : r0 < 0
  · go_wp2
    go_ret
    exact ⟨_, rfl, by omega, fun h => absurd h (by omega), B1⟩
  have s0 : 0 ≤ r0 := by omega
  have p1_0 := x1.cell 0 rfl
  have p1_1 := x1.cell 1 rfl
  have p1_2 := x1.cell 2 rfl
  have p1_3 := x1.cell 3 rfl
  have p1_4 := x1.cell 4 rfl
  have z1 := B1.size
  go_wp2_with fail
  refine (szValS_any _ _ _ _ _ s0 u0 n1).mono ?_
  rintro e W2 ⟨r1, rfl, u1, v1, t2⟩
  have H1 : Hid (0 ≤ r1 → x.stack.length ≤ 1048576) := v1
  clear v1
  obtain rfl := t2.symm
  have x2 := x1
  have B2 := B1
  clear x1 B1 p1_0 p1_1 p1_2 p1_3 p1_4
  by_cases m1 : r1 < 0
  · go_wp2
    go_ret
    exact ⟨_, rfl, by omega, fun h => absurd h (by omega), B2⟩
  have s1 : 0 ≤ r1 := by omega
  have p2_0 := x2.cell 0 rfl
  have p2_1 := x2.cell 1 rfl
  have p2_2 := x2.cell 2 rfl
  have p2_3 := x2.cell 3 rfl
  have p2_4 := x2.cell 4 rfl
  go_wp2
  go_ret
  exact ⟨_, rfl, by omega, fun _ => ⟨H0.out s0, H1.out s1⟩, B2⟩

set_option maxRecDepth 100000 in
set_option maxHeartbeats 2000000 in
theorem szFrameS_any (v : Value) (xs : List Fr) (left : Int) (w : World) (h : FramesAt w v xs) (h0 : 0 ≤ left) (h1 : left ≤ 1048576) :
    Calls Try.prog 143 #[v, .int .i64 left] w fun e w' => ∃ r : Int, e = .returned (.int .i64 r) ∧ r ≤ 1048576 ∧ (0 ≤ r → xs.length ≤ 1048576 ∧ ∀ i, (hi : i < xs.length) → xs[i].small) ∧ Below w.heap.size w w' := by
  obtain ⟨a, cap, rfl, hl, hc⟩ := h
  unfold maxLen at hl
  go_enter Try.func143, Try.ntmps143
  by_cases hlt : left - xs.length < 0
  · go_wp2
    go_ret
    exact ⟨_, rfl, by omega, fun h => absurd h (by omega), Below.refl _ _⟩
  · go_wp2
    go_loopg [1, 5] xs.length (fun g l i wr => ∃ (k : Nat) (r : Int), k ≤ xs.length ∧ g = xs.length - k ∧ i = .int .i64 k ∧ l = .int .i64 r ∧ 0 ≤ r ∧ r ≤ 1048576 ∧ Below w.heap.size w wr ∧ ∀ j, (hj : j < xs.length) → j < k → xs[j].small)
    case atStart => exact ⟨0, _, Nat.zero_le _, rfl, rfl, rfl, by omega, by omega, Below.refl _ _, fun j _ h => absurd h (Nat.not_lt_zero _)⟩
    case round =>
      obtain ⟨k, r, hk, rfl, rfl, rfl, hr0, hr1, hb, hall⟩ := hrel
      have H : Hid (∀ j, (hj : j < xs.length) → j < k → xs[j].small) := hall
      clear hall
      by_cases hlk : k < xs.length
      · obtain ⟨b, o, vt, vs, rfl, hcl⟩ := hc k hlk
        obtain ⟨d0, d1, d2, d3, d4, g0, g1⟩ := hcl.below hb
        obtain ⟨a0, k0, h0⟩ := g0.shape
        rw [h0] at d3 g0
        obtain ⟨a1, k1, h1⟩ := g1.shape
        rw [h1] at d4 g1
        clear hcl  
        have hkz : (k : Int) < (xs.length : Int) := by omega
        go_wp2_with fail
        refine (szFrame_any xs[k] _ _ _ _ g0 g1 hr0 hr1).mono ?_
        rintro e w1 ⟨q, rfl, hq1, hq0, hb1⟩
        have hb2 : Below w.heap.size w w1 := hb.trans (hb1.mono hb.size)
        have HQ : Hid (0 ≤ q → xs[k].small) := hq0
        clear hb hb1 d0 d1 d2 d3 d4 g0 g1 hq0
        by_cases hq : q < 0
        · go_wp2
          go_ret
          exact ⟨_, rfl, by omega, fun h => absurd h (by omega), hb2⟩
        · have hqs := HQ.out (by omega)
          have HS : Hid (xs[k].small) := hqs
          clear HQ hqs
          go_wp2
          go_roundg (xs.length - (k + 1))
          case measure => omega
          case rel =>
            refine ⟨k + 1, q, by omega, rfl, by go_num, rfl, by omega, hq1, hb2, fun j hj hjk => ?_⟩
            by_cases e : j = k
            · subst e; exact HS.out
            · exact H.out j hj (by omega)
      · obtain rfl : k = xs.length := by omega
        go_wp2
        go_ret
        exact ⟨_, rfl, by omega, fun _ => ⟨by omega, fun i hi => H.out i hi hi⟩, hb⟩

set_option maxRecDepth 100000 in
set_option maxHeartbeats 2000000 in
theorem szPage_any (x : Pg) (vf : Value) (left : Int) (w : World) (h0 : FramesAt w vf x.frames) (l0 : 0 ≤ left) (l1 : left ≤ 1048576) :
    Calls Try.prog 117 #[.agg #[.int .i64 x.base, vf], .int .i64 left] w fun e w' => ∃ r : Int, e = .returned (.int .i64 r) ∧ r ≤ 1048576 ∧ (0 ≤ r → x.small) ∧ Below w.heap.size w w' := by
  obtain ⟨a0, c0, e0⟩ := h0.shape
  subst e0
  go_enter Try.func117, Try.ntmps117
  go_upto_region 1 with fail
  refine wp_gen (fun W => Below w.heap.size w W ∧ Bx W w.heap.size 163 [.int .i64 x.base, .slice a0 x.frames.length c0]) ⟨(Below.refl _ _).alloc (Nat.le_refl _) _, Bx.new w _ _⟩ ?_
  rintro W0 ⟨B0, x0⟩
  have p0_0 := x0.cell 0 rfl
  have p0_1 := x0.cell 1 rfl
  have z0 := B0.size
  go_wp2_with fail
  refine (szFrameS_any _ x.frames _ _ (h0.below B0) l0 l1).mono ?_
  rintro e W1 ⟨r0, rfl, u0, v0, t1⟩
  have H0 : Hid (0 ≤ r0 → x.frames.length ≤ 1048576 ∧ ∀ i, (hi : i < x.frames.length) → x.frames[i].small) := v0
  clear v0
  have x1 := x0.below t1
  have B1 := B0.trans (t1.mono z0)
  clear t1
  clear x0 B0 p0_0 p0_1
  by_cases m0 : r0 < 0
  · go_wp2
    go_ret
    exact ⟨_, rfl, by omega, fun h => absurd h (by omega), B1⟩
  have s0 : 0 ≤ r0 := by omega
  have p1_0 := x1.cell 0 rfl
  have p1_1 := x1.cell 1 rfl
  go_wp2
  go_ret
  exact ⟨_, rfl, by omega, fun _ => H0.out s0, B1⟩

set_option maxRecDepth 100000 in
set_option maxHeartbeats 2000000 in
theorem szPageS_any (v : Value) (xs : List Pg) (left : Int) (w : World) (h : PagesAt w v xs) (h0 : 0 ≤ left) (h1 : left ≤ 1048576) :
    Calls Try.prog 74 #[v, .int .i64 left] w fun e w' => ∃ r : Int, e = .returned (.int .i64 r) ∧ r ≤ 1048576 ∧ (0 ≤ r → xs.length ≤ 1048576 ∧ ∀ i, (hi : i < xs.length) → xs[i].small) ∧ Below w.heap.size w w' := by
  obtain ⟨a, cap, rfl, hl, hc⟩ := h
  unfold maxLen at hl
  go_enter Try.func74, Try.ntmps74
  by_cases hlt : left - xs.length < 0
  · go_wp2
    go_ret
    exact ⟨_, rfl, by omega, fun h => absurd h (by omega), Below.refl _ _⟩
  · go_wp2
    go_loopg [1, 5] xs.length (fun g l i wr => ∃ (k : Nat) (r : Int), k ≤ xs.length ∧ g = xs.length - k ∧ i = .int .i64 k ∧ l = .int .i64 r ∧ 0 ≤ r ∧ r ≤ 1048576 ∧ Below w.heap.size w wr ∧ ∀ j, (hj : j < xs.length) → j < k → xs[j].small)
    case atStart => exact ⟨0, _, Nat.zero_le _, rfl, rfl, rfl, by omega, by omega, Below.refl _ _, fun j _ h => absurd h (Nat.not_lt_zero _)⟩
    case round =>
      obtain ⟨k, r, hk, rfl, rfl, rfl, hr0, hr1, hb, hall⟩ := hrel
      have H : Hid (∀ j, (hj : j < xs.length) → j < k → xs[j].small) := hall
      clear hall
      by_cases hlk : k < xs.length
      · obtain ⟨b, o, vf, rfl, hcl⟩ := hc k hlk
        obtain ⟨d0, d1, g0⟩ := hcl.below hb
        obtain ⟨a0, k0, h0⟩ := g0.shape
        rw [h0] at d1 g0
        clear hcl 
        have hkz : (k : Int) < (xs.length : Int) := by omega
        go_wp2_with fail
        refine (szPage_any xs[k] _ _ _ g0 hr0 hr1).mono ?_
        rintro e w1 ⟨q, rfl, hq1, hq0, hb1⟩
        have hb2 : Below w.heap.size w w1 := hb.trans (hb1.mono hb.size)
        have HQ : Hid (0 ≤ q → xs[k].small) := hq0
        clear hb hb1 d0 d1 g0 hq0
        by_cases hq : q < 0
        · go_wp2
          go_ret
          exact ⟨_, rfl, by omega, fun h => absurd h (by omega), hb2⟩
        · have hqs := HQ.out (by omega)
          have HS : Hid (xs[k].small) := hqs
          clear HQ hqs
          go_wp2
          go_roundg (xs.length - (k + 1))
          case measure => omega
          case rel =>
            refine ⟨k + 1, q, by omega, rfl, by go_num, rfl, by omega, hq1, hb2, fun j hj hjk => ?_⟩
            by_cases e : j = k
            · subst e; exact HS.out
            · exact H.out j hj (by omega)
      · obtain rfl : k = xs.length := by omega
        go_wp2
        go_ret
        exact ⟨_, rfl, by omega, fun _ => ⟨by omega, fun i hi => H.out i hi hi⟩, hb⟩

set_option maxRecDepth 100000 in
set_option maxHeartbeats 2000000 in
theorem szTwin_any (x : Tw) (vt vs : Value) (left : Int) (w : World) (h0 : OpsAt w vt x.left.temps) (h1 : OpsAt w vs x.left.stack) (l0 : 0 ≤ left) (l1 : left ≤ 1048576) :
    Calls Try.prog 118 #[.agg #[.int .i64 x.page, .int .i64 x.place, .int .i64 x.left.m, .int .i64 x.left.pc, vt, vs, .int .i64 x.left.sender, .bool x.left.dead], .int .i64 left] w fun e w' => ∃ r : Int, e = .returned (.int .i64 r) ∧ r ≤ 1048576 ∧ (0 ≤ r → x.left.small) ∧ Below w.heap.size w w' := by
  obtain ⟨a0, c0, e0⟩ := h0.shape
  subst e0
  obtain ⟨_, _, _, n0, _⟩ := id h0
  obtain ⟨a1, c1, e1⟩ := h1.shape
  subst e1
  obtain ⟨_, _, _, n1, _⟩ := id h1
  go_enter Try.func118, Try.ntmps118
  go_upto_region 1 with fail
  refine wp_gen (fun W => Below w.heap.size w W ∧ Bx W w.heap.size 168 [.int .i64 x.page, .int .i64 x.place, .int .i64 x.left.m, .int .i64 x.left.pc, .slice a0 x.left.temps.length c0, .slice a1 x.left.stack.length c1, .int .i64 x.left.sender, .bool x.left.dead]) ⟨(Below.refl _ _).alloc (Nat.le_refl _) _, Bx.new w _ _⟩ ?_
  rintro W0 ⟨B0, x0⟩
  have p0_0 := x0.cell 0 rfl
  have p0_1 := x0.cell 1 rfl
  have p0_2 := x0.cell 2 rfl
  have p0_3 := x0.cell 3 rfl
  have p0_4 := x0.cell 4 rfl
  have p0_5 := x0.cell 5 rfl
  have p0_6 := x0.cell 6 rfl
  have p0_7 := x0.cell 7 rfl
  have z0 := B0.size
  go_wp2_with fail
  refine (szCall_any x.left _ _ _ _ (h0.below B0) (h1.below B0) l0 l1).mono ?_
  rintro e W1 ⟨r0, rfl, u0, v0, t1⟩
  have H0 : Hid (0 ≤ r0 → x.left.small) := v0
  clear v0
  have x1 := x0.below t1
  have B1 := B0.trans (t1.mono z0)
  clear t1
  clear x0 B0 p0_0 p0_1 p0_2 p0_3 p0_4 p0_5 p0_6 p0_7
  by_cases m0 : r0 < 0
  · go_wp2
    go_ret
    exact ⟨_, rfl, by omega, fun h => absurd h (by omega), B1⟩
  have s0 : 0 ≤ r0 := by omega
  have p1_0 := x1.cell 0 rfl
  have p1_1 := x1.cell 1 rfl
  have p1_2 := x1.cell 2 rfl
  have p1_3 := x1.cell 3 rfl
  have p1_4 := x1.cell 4 rfl
  have p1_5 := x1.cell 5 rfl
  have p1_6 := x1.cell 6 rfl
  have p1_7 := x1.cell 7 rfl
  go_wp2
  go_ret
  exact ⟨_, rfl, by omega, fun _ => H0.out s0, B1⟩

set_option maxRecDepth 100000 in
set_option maxHeartbeats 2000000 in
theorem szTwinS_any (v : Value) (xs : List Tw) (left : Int) (w : World) (h : TwinsAt w v xs) (h0 : 0 ≤ left) (h1 : left ≤ 1048576) :
    Calls Try.prog 76 #[v, .int .i64 left] w fun e w' => ∃ r : Int, e = .returned (.int .i64 r) ∧ r ≤ 1048576 ∧ (0 ≤ r → xs.length ≤ 1048576 ∧ ∀ i, (hi : i < xs.length) → xs[i].left.small) ∧ Below w.heap.size w w' := by
  obtain ⟨a, cap, rfl, hl, hc⟩ := h
  unfold maxLen at hl
  go_enter Try.func76, Try.ntmps76
  by_cases hlt : left - xs.length < 0
  · go_wp2
    go_ret
    exact ⟨_, rfl, by omega, fun h => absurd h (by omega), Below.refl _ _⟩
  · go_wp2
    go_loopg [1, 5] xs.length (fun g l i wr => ∃ (k : Nat) (r : Int), k ≤ xs.length ∧ g = xs.length - k ∧ i = .int .i64 k ∧ l = .int .i64 r ∧ 0 ≤ r ∧ r ≤ 1048576 ∧ Below w.heap.size w wr ∧ ∀ j, (hj : j < xs.length) → j < k → xs[j].left.small)
    case atStart => exact ⟨0, _, Nat.zero_le _, rfl, rfl, rfl, by omega, by omega, Below.refl _ _, fun j _ h => absurd h (Nat.not_lt_zero _)⟩
    case round =>
      obtain ⟨k, r, hk, rfl, rfl, rfl, hr0, hr1, hb, hall⟩ := hrel
      have H : Hid (∀ j, (hj : j < xs.length) → j < k → xs[j].left.small) := hall
      clear hall
      by_cases hlk : k < xs.length
      · obtain ⟨b, o, vt, vs, rfl, hcl⟩ := hc k hlk
        obtain ⟨d0, d1, d2, d3, d4, d5, d6, d7, g0, g1⟩ := hcl.below hb
        obtain ⟨a0, k0, h0⟩ := g0.shape
        rw [h0] at d4 g0
        obtain ⟨a1, k1, h1⟩ := g1.shape
        rw [h1] at d5 g1
        clear hcl  
        have hkz : (k : Int) < (xs.length : Int) := by omega
        go_wp2_with fail
        refine (szTwin_any xs[k] _ _ _ _ g0 g1 hr0 hr1).mono ?_
        rintro e w1 ⟨q, rfl, hq1, hq0, hb1⟩
        have hb2 : Below w.heap.size w w1 := hb.trans (hb1.mono hb.size)
        have HQ : Hid (0 ≤ q → xs[k].left.small) := hq0
        clear hb hb1 d0 d1 d2 d3 d4 d5 d6 d7 g0 g1 hq0
        by_cases hq : q < 0
        · go_wp2
          go_ret
          exact ⟨_, rfl, by omega, fun h => absurd h (by omega), hb2⟩
        · have hqs := HQ.out (by omega)
          have HS : Hid (xs[k].left.small) := hqs
          clear HQ hqs
          go_wp2
          go_roundg (xs.length - (k + 1))
          case measure => omega
          case rel =>
            refine ⟨k + 1, q, by omega, rfl, by go_num, rfl, by omega, hq1, hb2, fun j hj hjk => ?_⟩
            by_cases e : j = k
            · subst e; exact HS.out
            · exact H.out j hj (by omega)
      · obtain rfl : k = xs.length := by omega
        go_wp2
        go_ret
        exact ⟨_, rfl, by omega, fun _ => ⟨by omega, fun i hi => H.out i hi hi⟩, hb⟩

set_option maxRecDepth 100000 in
set_option maxHeartbeats 2000000 in
theorem szMach_any (x : Mc) (vp vo vt vs : Value) (left : Int) (w : World) (h0 : PagesAt w vp x.pages) (h1 : IntsAt w vo x.order) (h2 : TwinsAt w vt x.twins) (h3 : OpsAt w vs x.said) (l0 : 0 ≤ left) (l1 : left ≤ 1048576) :
    Calls Try.prog 27 #[.agg #[.int .i64 x.cells, vp, vo, .int .i64 x.now, vt, .int .i64 x.born, vs, .int .i64 x.code], .int .i64 left] w fun e w' => ∃ r : Int, e = .returned (.int .i64 r) ∧ r ≤ 1048576 ∧ (0 ≤ r → x.sized) ∧ Below w.heap.size w w' := by
  obtain ⟨a0, c0, e0⟩ := h0.shape
  subst e0
  obtain ⟨a1, c1, e1⟩ := h1.shape
  subst e1
  obtain ⟨_, _, _, n1, _⟩ := id h1
  obtain ⟨a2, c2, e2⟩ := h2.shape
  subst e2
  obtain ⟨a3, c3, e3⟩ := h3.shape
  subst e3
  obtain ⟨_, _, _, n3, _⟩ := id h3
  go_enter Try.func27, Try.ntmps27
  go_upto_region 1 with fail
  refine wp_gen (fun W => Below w.heap.size w W ∧ Bx W w.heap.size 67 [.int .i64 x.cells, .slice a0 x.pages.length c0, .slice a1 x.order.length c1, .int .i64 x.now, .slice a2 x.twins.length c2, .int .i64 x.born, .slice a3 x.said.length c3, .int .i64 x.code]) ⟨(Below.refl _ _).alloc (Nat.le_refl _) _, Bx.new w _ _⟩ ?_
  rintro W0 ⟨B0, x0⟩
  have p0_0 := x0.cell 0 rfl
  have p0_1 := x0.cell 1 rfl
  have p0_2 := x0.cell 2 rfl
  have p0_3 := x0.cell 3 rfl
  have p0_4 := x0.cell 4 rfl
  have p0_5 := x0.cell 5 rfl
  have p0_6 := x0.cell 6 rfl
  have p0_7 := x0.cell 7 rfl
  have z0 := B0.size
  go_wp2_with fail
  refine (szPageS_any _ x.pages _ _ (h0.below B0) l0 l1).mono ?_
  rintro e W1 ⟨r0, rfl, u0, v0, t1⟩
  have H0 : Hid (0 ≤ r0 → x.pages.length ≤ 1048576 ∧ ∀ i, (hi : i < x.pages.length) → x.pages[i].small) := v0
  clear v0
  have x1 := x0.below t1
  have B1 := B0.trans (t1.mono z0)
  clear t1
  clear x0 B0 p0_0 p0_1 p0_2 p0_3 p0_4 p0_5 p0_6 p0_7
  by_cases m0 : r0 < 0
  · go_wp2
    go_ret
    exact ⟨_, rfl, by omega, fun h => absurd h (by omega), B1⟩
  have s0 : 0 ≤ r0 := by omega
  have p1_0 := x1.cell 0 rfl
  have p1_1 := x1.cell 1 rfl
  have p1_2 := x1.cell 2 rfl
  have p1_3 := x1.cell 3 rfl
  have p1_4 := x1.cell 4 rfl
  have p1_5 := x1.cell 5 rfl
  have p1_6 := x1.cell 6 rfl
  have p1_7 := x1.cell 7 rfl
  have z1 := B1.size
  go_wp2_with fail
  refine (szIntS_any _ _ _ _ _ s0 u0 n1).mono ?_
  rintro e W2 ⟨r1, rfl, u1, v1, t2⟩
  have H1 : Hid (0 ≤ r1 → x.order.length ≤ 1048576) := v1
  clear v1
  obtain rfl := t2.symm
  have x2 := x1
  have B2 := B1
  clear x1 B1 p1_0 p1_1 p1_2 p1_3 p1_4 p1_5 p1_6 p1_7
  by_cases m1 : r1 < 0
  · go_wp2
    go_ret
    exact ⟨_, rfl, by omega, fun h => absurd h (by omega), B2⟩
  have s1 : 0 ≤ r1 := by omega
  have p2_0 := x2.cell 0 rfl
  have p2_1 := x2.cell 1 rfl
  have p2_2 := x2.cell 2 rfl
  have p2_3 := x2.cell 3 rfl
  have p2_4 := x2.cell 4 rfl
  have p2_5 := x2.cell 5 rfl
  have p2_6 := x2.cell 6 rfl
  have p2_7 := x2.cell 7 rfl
  have z2 := B2.size
  go_wp2_with fail
  refine (szTwinS_any _ x.twins _ _ (h2.below B2) s1 u1).mono ?_
  rintro e W3 ⟨r2, rfl, u2, v2, t3⟩
  have H2 : Hid (0 ≤ r2 → x.twins.length ≤ 1048576 ∧ ∀ i, (hi : i < x.twins.length) → x.twins[i].left.small) := v2
  clear v2
  have x3 := x2.below t3
  have B3 := B2.trans (t3.mono z2)
  clear t3
  clear x2 B2 p2_0 p2_1 p2_2 p2_3 p2_4 p2_5 p2_6 p2_7
  by_cases m2 : r2 < 0
  · go_wp2
    go_ret
    exact ⟨_, rfl, by omega, fun h => absurd h (by omega), B3⟩
  have s2 : 0 ≤ r2 := by omega
  have p3_0 := x3.cell 0 rfl
  have p3_1 := x3.cell 1 rfl
  have p3_2 := x3.cell 2 rfl
  have p3_3 := x3.cell 3 rfl
  have p3_4 := x3.cell 4 rfl
  have p3_5 := x3.cell 5 rfl
  have p3_6 := x3.cell 6 rfl
  have p3_7 := x3.cell 7 rfl
  have z3 := B3.size
  go_wp2_with fail
  refine (szValS_any _ _ _ _ _ s2 u2 n3).mono ?_
  rintro e W4 ⟨r3, rfl, u3, v3, t4⟩
  have H3 : Hid (0 ≤ r3 → x.said.length ≤ 1048576) := v3
  clear v3
  obtain rfl := t4.symm
  have x4 := x3
  have B4 := B3
  clear x3 B3 p3_0 p3_1 p3_2 p3_3 p3_4 p3_5 p3_6 p3_7
  by_cases m3 : r3 < 0
  · go_wp2
    go_ret
    exact ⟨_, rfl, by omega, fun h => absurd h (by omega), B4⟩
  have s3 : 0 ≤ r3 := by omega
  have p4_0 := x4.cell 0 rfl
  have p4_1 := x4.cell 1 rfl
  have p4_2 := x4.cell 2 rfl
  have p4_3 := x4.cell 3 rfl
  have p4_4 := x4.cell 4 rfl
  have p4_5 := x4.cell 5 rfl
  have p4_6 := x4.cell 6 rfl
  have p4_7 := x4.cell 7 rfl
  go_wp2
  go_ret
  exact ⟨_, rfl, by omega, fun _ => ⟨H0.out s0, H1.out s1, H2.out s2, H3.out s3⟩, B4⟩

end Go.Proofs.Ytldiccheboipeaa
