/-
  What draws: DrawSaidText draws what was said: that of a heap, and up to two values more.
-/
import Derived.Test.YtileneepajcbgaaDoorDrawHeapS
import Derived.Test.YtileneepajcbgaaDoorDraw13
import Derived.Deep.RegionLaw
namespace Go.Proofs.YtileneepajcbgaaDoor
open Go.RowKit

/-- what was said, in the box of a heap at block bh -/
structure SDr (w w2 : World) (b : Nat) (a : Option Addr) (n cap q bh : Nat) (x0 x1 x2 x4 : Value) (v : Value) (L : List (Int × Int)) (wx : World) : Prop where
  rd : Rd wx b a n cap q
  sz : w2.heap.size ≤ wx.heap.size
  R : wx.rowIs bh 32 5 (five x0 x1 x2 v x4)
  pr : PairRow w2.heap.size wx v L
  nb : v.ownBlock ≠ some bh
  bl : Below w.heap.size w wx

variable {w w2 wx w' : World} {b : Nat} {a : Option Addr} {n cap q bh : Nat} {x0 x1 x2 x4 v : Value} {L : List (Int × Int)}

theorem SDr.drew (k : SDr w w2 b a n cap q bh x0 x1 x2 x4 v L wx) : SDr w w2 b a n cap q bh x0 x1 x2 x4 v L wx.drew :=
  ⟨Rd.heap k.rd rfl, k.sz, k.R, k.pr, k.nb, k.bl.drew⟩

theorem SDr.alloc (k : SDr w w2 b a n cap q bh x0 x1 x2 x4 v L wx) (o : Obj) : SDr w w2 b a n cap q bh x0 x1 x2 x4 v L (wx.alloc o) := by
  have hb : Below wx.heap.size wx (wx.alloc o) := (Below.refl _ _).alloc (Nat.le_refl _) _
  exact ⟨k.rd.alloc o, Nat.le_trans k.sz hb.size, row_below hb k.R, k.pr.below hb, k.nb, k.bl.trans (hb.mono k.bl.size)⟩

theorem SDr.pick {q' : Nat} (k : SDr w w2 b a n cap q bh x0 x1 x2 x4 v L wx) (hb : w.heap.size ≤ b) (hb2 : b < w2.heap.size) (hbh : w2.heap.size ≤ bh) (hr : Rd w' b a n cap q') (hg : wx.grownBy w' (some b)) : SDr w w2 b a n cap q' bh x0 x1 x2 x4 v L w' := by
  have hz := k.sz
  have hz2 := k.bl.size
  exact ⟨hr, Nat.le_trans k.sz hg.size, row_kept k.R hg (by intro e; injection e with e; omega), k.pr.kept hg.size fun g e => hg.block g (k.pr.lt g e).2 (by intro e2; injection e2 with e2; have := (k.pr.lt g e).1; omega), k.nb, k.bl.grown hg hz2 (fun g e => by injection e with e; omega)⟩

/-- one more was said -/
theorem SDr.app {q0 : Nat} {M : List (Int × Int)} {v' : Value} (k : SDr w w2 b a n cap q bh x0 x1 x2 x4 v L wx) (r0 : Rd w2 b a n cap q0) (hw : w.heap.size ≤ w2.heap.size) (hbh : w2.heap.size ≤ bh) (hr : PairRow w2.heap.size w' v' M) (hg : wx.grownBy w' v.ownBlock)
    (hv : v'.ownBlock = v.ownBlock ∨ v'.ownBlock = some wx.heap.size) :
    (w'.cell? ⟨bh, 3, none⟩ = some v ∧ w'.frozen? ⟨bh, 3, none⟩ = false) ∧ SDr w w2 b a n cap q bh x0 x1 x2 x4 v' M (w'.setCell ⟨bh, 3, none⟩ v') := by
  have R' := row_kept k.R hg (by intro e; exact k.nb e.symm)
  obtain ⟨⟨_, _, _, c3, _⟩, _, _, _, f3, _⟩ := five_cells R'
  have hlt := k.R.lt
  have hz := hg.size
  have hz2 := k.sz
  have hnb : v'.ownBlock ≠ some bh := by
    rcases hv with e | e
    · rw [e]; exact k.nb
    · rw [e]; intro x; injection x with x; omega
  have rd' := Rd.kept r0 k.rd k.sz hg (fun g e => (k.pr.lt g e).1)
  have rd2 := Rd.kept r0 rd' (by omega) (grown_set w' bh 3 v') (fun g e => by injection e with e; omega)
  have bl' := k.bl.grown hg k.bl.size (fun g e => Nat.le_trans hw (k.pr.lt g e).1)
  exact ⟨⟨c3, f3⟩, rd2, by simp [World.setCell]; omega, five_set3 R' v', hr.set_other _ hnb, hnb, bl'.setCell (p := ⟨bh, 3, none⟩) (by show w.heap.size ≤ bh; omega) _⟩

set_option maxRecDepth 100000 in
set_option maxHeartbeats 4000000 in
theorem drawSaidText_any (w : World) (a : Option Addr) (len cap : Nat) (h : BytesAt w a len cap) :
    Calls Tryd.prog 5 #[.slice a len cap] w fun e w' => ∃ (a' : Option Addr) (c' : Nat) (L : List (Int × Int)), e = .returned (.slice a' L.length c') ∧ PairRow w.heap.size w' (.slice a' L.length c') L ∧ L.length ≤ 102 ∧ (∀ v ∈ L, Few v) ∧ Below w.heap.size w w' := by
  go_enter Tryd.func5, Tryd.ntmps5
  go_wp2_with fail
  refine (l6Open_any _ a len cap h).mono ?_
  rintro e w2 ⟨n, rfl, hr2, z2, hb2⟩
  go_wp2_with fail
  refine (l71Heap_said _ _ _ _ _ _ hr2 (by omega)).mono ?_
  rintro e w3 ⟨v, vc, vs, ms, H, p3, rfl, st3, _, fi3, hq3, hq3', hr3, hg3⟩
  have B3 : Below w.heap.size w w3 := hb2.grown hg3 (by omega) (fun k e => by cases e; omega)
  have z3 := hg3.size
  obtain ⟨hM, hH⟩ := st3.here
  obtain ⟨aV, cV, hvV, _⟩ := id hM
  obtain ⟨ac, kc, hvc⟩ := hH.c.shape
  obtain ⟨aD, kD, hvs⟩ := hH.s.shape
  subst hvV hvc hvs
  have PR := hH.r
  have sd100 := fi3.sd
  have HFW : Hid (∀ v ∈ H.said, Few v) := fi3.few
  clear hM hH st3 fi3
  unfold hpCells
  generalize plainOf ms = MS at *
  go_upto_region 3 with fail
  have N4 : Below w3.heap.size w3 ((w3.alloc (.cells #[.slice aV MS.length cV] 29)).alloc (.cells #[.slice ac H.calls.length kc, .int .i64 H.now, .int .i64 H.born, .slice aD H.said.length kD, .int .i64 H.code] 32)) := ((Below.refl _ _).alloc (Nat.le_refl _) _).alloc (by simp) _
  have rh4 := five_new (w3.alloc (.cells #[.slice aV MS.length cV] 29)) 32 (.slice ac H.calls.length kc) (.int .i64 H.now) (.int .i64 H.born) (.slice aD H.said.length kD) (.int .i64 H.code)
  have hr4 := (hr3.alloc (.cells #[.slice aV MS.length cV] 29)).alloc (.cells #[.slice ac H.calls.length kc, .int .i64 H.now, .int .i64 H.born, .slice aD H.said.length kD, .int .i64 H.code] 32)
  simp only [World.size_alloc] at rh4
  have k4 : SDr w w2 w.heap.size a n cap p3 (w3.heap.size + 1) (.slice ac H.calls.length kc) (.int .i64 H.now) (.int .i64 H.born) (.int .i64 H.code) (.slice aD H.said.length kD) H.said ((w3.alloc (.cells #[.slice aV MS.length cV] 29)).alloc (.cells #[.slice ac H.calls.length kc, .int .i64 H.now, .int .i64 H.born, .slice aD H.said.length kD, .int .i64 H.code] 32)) :=
    ⟨hr4, by simp; omega, rh4, PR.below N4, fun e => by have := (PR.lt _ e).2; omega, B3.trans (N4.mono (by omega))⟩
  generalize (w3.alloc (.cells #[.slice aV MS.length cV] 29)).alloc (.cells #[.slice ac H.calls.length kc, .int .i64 H.now, .int .i64 H.born, .slice aD H.said.length kD, .int .i64 H.code] 32) = W4 at *
  clear N4 rh4 PR hr3 hg3 hb2 B3
  have hb0 : w.heap.size ≤ w.heap.size := Nat.le_refl _
  have hbW : w.heap.size < w2.heap.size := by omega
  have hbh : w2.heap.size ≤ w3.heap.size + 1 := by omega
  go_wp2_with fail
  refine (pick_any _ _ _ _ _ _ 3 hr4 (by omega) (by omega) (by omega)).mono ?_
  rintro e w5 ⟨x, rfl, hx0, hx1, hr5, hg5⟩
  have k5 := k4.pick hb0 hbW hbh hr5 hg5
  obtain ⟨m, rfl⟩ := Int.eq_ofNat_of_zero_le hx0
  clear k4 hr4 hr5 hg5
  generalize hbhe : w3.heap.size + 1 = bh at *
  clear hbhe
  go_wp2
  go_loopg [6] m (fun g i wr => ∃ (k q : Nat) (ao : Option Addr) (ks : Nat) (L : List (Int × Int)), g = k * 1 ∧ i = .int .i64 k ∧ k ≤ 2 ∧ q + 2 * k ≤ p3 + 5 ∧ L.length + k ≤ 102 ∧ (∀ v ∈ L, Few v) ∧ SDr w w2 w.heap.size a n cap q bh (.slice ac H.calls.length kc) (.int .i64 H.now) (.int .i64 H.born) (.int .i64 H.code) (.slice ao L.length ks) L wr)
  case atStart => exact ⟨m, p3 + 1, aD, kD, H.said, by omega, rfl, by omega, by omega, by omega, HFW.out, k5⟩
  case round =>
    obtain ⟨k, q, ao, ks, L, rfl, rfl, hk2, hq, hL, hFew, kr⟩ := hrel
    clear k5
    have HF : Hid (∀ v ∈ L, Few v) := hFew
    clear hFew
    obtain ⟨⟨d0, d1, d2, d3, d4⟩, f0, f1, f2, f3, f4⟩ := five_cells kr.R
    by_cases hk : k = 0
    · subst hk
      go_wp2
      go_ret
      exact ⟨ao, ks, L, rfl, kr.pr.mono (by omega), by omega, HF.out, kr.bl⟩
    · obtain ⟨j, rfl⟩ : ∃ j, k = j + 1 := ⟨k - 1, by omega⟩
      have hkz : (0 : Int) < ((j + 1 : Nat) : Int) := by omega
      have krd := kr.drew
      have hwW : w.heap.size ≤ w2.heap.size := by omega
      clear hk
      go_wp2_with fail
      go_region_law (first
        | (have hh := hg7; clear hh; have k8 := k7.alloc (.cells #[.int .i64 x6, .int .i64 y6] 42); refine step_vals _ (by rfl) _ _ (by rfl) w2.heap.size _ _ L [(x6, y6)] (by rfl) (by rfl) k8.pr (one_at w7 x6 y6 _ _) (by simp; omega) k8.sz ?_; intro v' w' hrow hg hbk; obtain ⟨a', c', hv', _⟩ := hrow.slice; rw [List.length_append, List.length_singleton] at hv'; subst hv'; obtain ⟨⟨z4, z5⟩, kP⟩ := k8.app hr2 hwW hbh hrow hg hbk)
        | (have hh := hg6; clear hh; go_simp; go_at_call 13; refine (pick_any _ _ _ _ _ _ 20 k6.rd (by omega) (by omega) (by omega)).mono ?_; rintro e w7 ⟨y6, rfl, hy0, hy1, hr7, hg7⟩; have k7 := k6.pick hb0 hbW hbh hr7 hg7; obtain ⟨⟨_, _, _, _, _⟩, _⟩ := five_cells k7.R; obtain ⟨⟨_, _, _, _, _⟩, _⟩ := five_cells (k7.alloc (.cells #[.int .i64 x6, .int .i64 y6] 42)).R)
        | (go_simp; go_at_call 13; refine (pick_any _ _ _ _ _ _ 3 krd.rd (by omega) (by omega) (by omega)).mono ?_; rintro e w6 ⟨x6, rfl, hu0, hu1, hr6, hg6⟩; have k6 := krd.pick hb0 hbW hbh hr6 hg6; obtain ⟨⟨_, _, _, _, _⟩, _⟩ := five_cells k6.R))
      all_goals
        have HFN : Hid (∀ v ∈ L ++ [(x6, y6)], Few v) := few_snoc HF.out ⟨hu0, by show x6 ≤ 2; omega, hy0, by show y6 < 1000; omega⟩
        go_wp2
        go_roundg j
        case measure => omega
        case rel => exact ⟨j, q + 1 + 1, a', c', L ++ [(x6, y6)], by omega, by go_num, by omega, by omega, by simp; omega, HFN.out, by rw [List.length_append, List.length_singleton]; exact kP⟩

end Go.Proofs.YtileneepajcbgaaDoor
