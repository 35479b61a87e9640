/-
  What is seen of a heap, by the program: renumbered.
-/
import Derived.Test.YtldiccheboipeaaVImpl3
namespace Go.Proofs.Ytldiccheboipeaa
open Go.RowKit

set_option maxRecDepth 100000 in
set_option maxHeartbeats 2000000 in
theorem renumbered_any (A : Nat → Prop) (B bo n : Nat) (ps : List Nat) (vp vn vt vs : Value) (c : Cl) (w : World) (h : Ord A B bo n ps vp vn w) (hps : PsOk n ps) (hn : n ≤ 1000) (ht : OpsAt w vt c.temps) (hs : OpsAt w vs c.stack) (hb : c.temps.length ≤ 1000 ∧ c.stack.length ≤ 1000) :
    Calls Try.prog 105 #[.agg (clCells vt vs c), .func (.func 106) #[.pointer (some ⟨bo, 0, none⟩)] #[]] w fun e w' => ∃ vt' vs', e = .returned (.agg (clCells vt' vs' (viewC ps c))) ∧ PairRow w.heap.size w' vt' (c.temps.map (ren ps)) ∧ PairRow w.heap.size w' vs' (c.stack.map (ren ps)) ∧ (∀ g, vt'.ownBlock = some g → vs'.ownBlock ≠ some g) ∧ Below w.heap.size w w' := by
  obtain ⟨at', ct', hvt⟩ := ht.shape
  obtain ⟨as', cs', hvs⟩ := hs.shape
  subst hvt hvs
  unfold clCells viewC
  obtain ⟨hb1, hb2⟩ := hb
  have hA : Below w.heap.size w ((w.alloc (.cells #[.int .i64 c.m, .int .i64 c.pc, .slice at' c.temps.length ct', .slice as' c.stack.length cs', .int .i64 c.sender, .bool c.dead] 88)).alloc (.cells #[.int .i64 0, .int .i64 0, .slice none 0 0, .slice none 0 0, .int .i64 0, .bool false] 88)) := ((Below.refl _ _).alloc (Nat.le_refl _) _).alloc (by simp) _
  have bc := (six_new w 88 (.int .i64 c.m) (.int .i64 c.pc) (.slice at' c.temps.length ct') (.slice as' c.stack.length cs') (.int .i64 c.sender) (.bool c.dead)).alloc (.cells #[.int .i64 0, .int .i64 0, .slice none 0 0, .slice none 0 0, .int .i64 0, .bool false] 88)
  have bz := six_new (w.alloc (.cells #[.int .i64 c.m, .int .i64 c.pc, .slice at' c.temps.length ct', .slice as' c.stack.length cs', .int .i64 c.sender, .bool c.dead] 88)) 88 (.int .i64 0) (.int .i64 0) (.slice none 0 0) (.slice none 0 0) (.int .i64 0) (.bool false)
  simp only [World.size_alloc] at bz
  have HLT : Hid (bo < w.heap.size ∧ (∀ g, vp.ownBlock = some g → g < w.heap.size) ∧ (∀ g, vn.ownBlock = some g → g < w.heap.size)) := ⟨h.box.lt, fun g e => (h.p.lt g e).2, fun g e => (h.n.lt g e).2⟩
  go_enter Try.func105, Try.ntmps105
  go_upto_region 1 with fail
  generalize (w.alloc (.cells #[.int .i64 c.m, .int .i64 c.pc, .slice at' c.temps.length ct', .slice as' c.stack.length cs', .int .i64 c.sender, .bool c.dead] 88)).alloc (.cells #[.int .i64 0, .int .i64 0, .slice none 0 0, .slice none 0 0, .int .i64 0, .bool false] 88) = W1 at *
  have zA := hA.size
  have yA := bz.lt
  have hO1 := h.below hA
  obtain ⟨⟨x0, x1, x2, x3, x4, x5⟩, f0, f1, f2, f3, f4, f5⟩ := six_cells bc
  have nb : bo ≠ w.heap.size ∧ vp.ownBlock ≠ some w.heap.size ∧ vn.ownBlock ≠ some w.heap.size := ⟨by have := HLT.out.1; omega, fun e => by have := HLT.out.2.1 _ e; omega, fun e => by have := HLT.out.2.2 _ e; omega⟩
  go_upto_region 2 with (go_at_call 106; refine (numberOf_any A B bo n ps vp vn _ _ hO1 hps hn).mono ?_; rintro e w' ⟨rfl, hw⟩; obtain rfl := hw.symm)
  have bc2 := six_set4 bc (.int .i64 (numOf ps c.sender))
  have bz2 := row_set (k := w.heap.size) (o := 4) bz (by omega) (.int .i64 (numOf ps c.sender))
  have hO2 := hO1.set (p := ⟨w.heap.size, 4, none⟩) (.int .i64 (numOf ps c.sender)) nb.1 nb.2.1 nb.2.2
  have B2 := hA.setCell (p := ⟨w.heap.size, 4, none⟩) (Nat.le_refl _) (.int .i64 (numOf ps c.sender))
  have z2 : (W1.setCell ⟨w.heap.size, 4, none⟩ (.int .i64 (numOf ps c.sender))).heap.size ≥ W1.heap.size := by simp [World.setCell]
  generalize W1.setCell ⟨w.heap.size, 4, none⟩ (.int .i64 (numOf ps c.sender)) = w2 at *
  clear bc bz hO1 hA x0 x1 x2 x3 x4 x5 f0 f1 f2 f3 f4 f5
  obtain ⟨⟨x0, x1, x2, x3, x4, x5⟩, f0, f1, f2, f3, f4, f5⟩ := six_cells bc2
  have ht2 := ht.below B2
  have y2 := bz2.lt
  go_upto_region 3 with (go_at_call 132; refine (renumberedVals_any A B bo n ps vp vn _ c.temps _ hO2 hps hn ht2 hb1).mono ?_; rintro e w3 ⟨v3, rfl, hr3, hb3⟩; obtain ⟨a3, c3, hv3, _⟩ := hr3.slice; rw [List.length_map] at hv3; subst hv3; have bc3 := row_below hb3 bc2; obtain ⟨⟨y0, y1, y2, y3, y4, y5⟩, k0, k1, k2, k3, k4, k5⟩ := six_cells bc3)
  have bz3 := row_below hb3 bz2
  have hO3 := hO2.below hb3
  have B3 := B2.trans (hb3.mono B2.size)
  have z3 := hb3.size
  clear bc2 bz2 hO2 B2 hb3 x0 x1 x2 x3 x4 x5 f0 f1 f2 f3 f4 f5 y0 y1 y2 y3 y4 y5 k0 k1 k2 k3 k4 k5 ht2
  have nt3 : (Value.slice a3 c.temps.length c3).ownBlock ≠ some w.heap.size := fun e => by have := (hr3.lt _ e).1; omega
  have bc4 := six_set2 bc3 (.slice a3 c.temps.length c3)
  have bz4 := row_set (k := w.heap.size) (o := 2) bz3 (by omega) (.slice a3 c.temps.length c3)
  have hO4 := hO3.set (p := ⟨w.heap.size, 2, none⟩) (.slice a3 c.temps.length c3) nb.1 nb.2.1 nb.2.2
  have P4 := hr3.set_other (p := ⟨w.heap.size, 2, none⟩) (.slice a3 c.temps.length c3) nt3
  have B4 := B3.setCell (p := ⟨w.heap.size, 2, none⟩) (Nat.le_refl _) (.slice a3 c.temps.length c3)
  have z4 : (w3.setCell ⟨w.heap.size, 2, none⟩ (.slice a3 c.temps.length c3)).heap.size ≥ w3.heap.size := by simp [World.setCell]
  generalize w3.setCell ⟨w.heap.size, 2, none⟩ (.slice a3 c.temps.length c3) = w4 at *
  clear bc3 bz3 hO3 hr3 B3
  obtain ⟨⟨x0, x1, x2, x3, x4, x5⟩, f0, f1, f2, f3, f4, f5⟩ := six_cells bc4
  have hs4 := hs.below B4
  go_upto_region 4 with (go_at_call 132; refine (renumberedVals_any A B bo n ps vp vn _ c.stack _ hO4 hps hn hs4 hb2).mono ?_; rintro e w5 ⟨v5, rfl, hr5, hb5⟩; obtain ⟨a5, c5, hv5, _⟩ := hr5.slice; rw [List.length_map] at hv5; subst hv5; have bc5 := row_below hb5 bc4; obtain ⟨⟨y0, y1, y2, y3, y4, y5⟩, k0, k1, k2, k3, k4, k5⟩ := six_cells bc5)
  have bz5 := row_below hb5 bz4
  have P5 := P4.below hb5
  have B5 := B4.trans (hb5.mono B4.size)
  have z5 := hb5.size
  have hap : ∀ q, (Value.slice a3 c.temps.length c3).ownBlock = some q → (Value.slice a5 c.stack.length c5).ownBlock ≠ some q := fun q e e2 => by have h1 := (P4.lt q e).2; have h2 := (hr5.lt q e2).1; omega
  clear bc4 bz4 hO4 B4 hb5 x0 x1 x2 x3 x4 x5 f0 f1 f2 f3 f4 f5 y0 y1 y2 y3 y4 y5 k0 k1 k2 k3 k4 k5 hs4 P4
  have ns5 : (Value.slice a5 c.stack.length c5).ownBlock ≠ some w.heap.size := fun e => by have := (hr5.lt _ e).1; omega
  have bc6 := six_set3 bc5 (.slice a5 c.stack.length c5)
  have bz6 := row_set (k := w.heap.size) (o := 3) bz5 (by omega) (.slice a5 c.stack.length c5)
  have P6 := P5.set_other (p := ⟨w.heap.size, 3, none⟩) (.slice a5 c.stack.length c5) nt3
  have Q6 := hr5.set_other (p := ⟨w.heap.size, 3, none⟩) (.slice a5 c.stack.length c5) ns5
  have B6 := B5.setCell (p := ⟨w.heap.size, 3, none⟩) (Nat.le_refl _) (.slice a5 c.stack.length c5)
  generalize w5.setCell ⟨w.heap.size, 3, none⟩ (.slice a5 c.stack.length c5) = w6 at *
  clear bc5 bz5 P5 hr5 B5
  have nt1 : (Value.slice a3 c.temps.length c3).ownBlock ≠ some (w.heap.size + 1) := fun e => by have := (P6.lt _ e).1; omega
  have ns1 : (Value.slice a5 c.stack.length c5).ownBlock ≠ some (w.heap.size + 1) := fun e => by have := (Q6.lt _ e).1; omega
  obtain ⟨⟨x0, x1, x2, x3, x4, x5⟩, xf⟩ := six_cells bc6
  obtain ⟨⟨y0, y1, y2, y3, y4, y5⟩, k0, k1, k2, k3, k4, k5⟩ := six_cells bz6
  clear xf
  have R9 := six_set5 (six_set4 (six_set3 (six_set2 (six_set1 (six_set0 bz6 (.int .i64 c.m)) (.int .i64 c.pc)) (.slice a3 c.temps.length c3)) (.slice a5 c.stack.length c5)) (.int .i64 (numOf ps c.sender))) (.bool c.dead)
  have P9 := (((((P6.set_other (p := ⟨w.heap.size + 1, 0, none⟩) (.int .i64 c.m) nt1).set_other (p := ⟨w.heap.size + 1, 1, none⟩) (.int .i64 c.pc) nt1).set_other (p := ⟨w.heap.size + 1, 2, none⟩) (.slice a3 c.temps.length c3) nt1).set_other (p := ⟨w.heap.size + 1, 3, none⟩) (.slice a5 c.stack.length c5) nt1).set_other (p := ⟨w.heap.size + 1, 4, none⟩) (.int .i64 (numOf ps c.sender)) nt1).set_other (p := ⟨w.heap.size + 1, 5, none⟩) (.bool c.dead) nt1
  have Q9 := (((((Q6.set_other (p := ⟨w.heap.size + 1, 0, none⟩) (.int .i64 c.m) ns1).set_other (p := ⟨w.heap.size + 1, 1, none⟩) (.int .i64 c.pc) ns1).set_other (p := ⟨w.heap.size + 1, 2, none⟩) (.slice a3 c.temps.length c3) ns1).set_other (p := ⟨w.heap.size + 1, 3, none⟩) (.slice a5 c.stack.length c5) ns1).set_other (p := ⟨w.heap.size + 1, 4, none⟩) (.int .i64 (numOf ps c.sender)) ns1).set_other (p := ⟨w.heap.size + 1, 5, none⟩) (.bool c.dead) ns1
  have B9 := (((((B6.setCell (p := ⟨w.heap.size + 1, 0, none⟩) (Nat.le_succ _) (.int .i64 c.m)).setCell (p := ⟨w.heap.size + 1, 1, none⟩) (Nat.le_succ _) (.int .i64 c.pc)).setCell (p := ⟨w.heap.size + 1, 2, none⟩) (Nat.le_succ _) (.slice a3 c.temps.length c3)).setCell (p := ⟨w.heap.size + 1, 3, none⟩) (Nat.le_succ _) (.slice a5 c.stack.length c5)).setCell (p := ⟨w.heap.size + 1, 4, none⟩) (Nat.le_succ _) (.int .i64 (numOf ps c.sender))).setCell (p := ⟨w.heap.size + 1, 5, none⟩) (Nat.le_succ _) (.bool c.dead)
  go_wp2
  generalize (((((w6.setCell ⟨w.heap.size + 1, 0, none⟩ (.int .i64 c.m)).setCell ⟨w.heap.size + 1, 1, none⟩ (.int .i64 c.pc)).setCell ⟨w.heap.size + 1, 2, none⟩ (.slice a3 c.temps.length c3)).setCell ⟨w.heap.size + 1, 3, none⟩ (.slice a5 c.stack.length c5)).setCell ⟨w.heap.size + 1, 4, none⟩ (.int .i64 (numOf ps c.sender))).setCell ⟨w.heap.size + 1, 5, none⟩ (.bool c.dead) = W9 at *
  obtain ⟨⟨q0, q1, q2, q3, q4, q5⟩, _⟩ := six_cells R9
  exact bodyPost_ret (v := .agg #[.int .i64 c.m, .int .i64 c.pc, .slice a3 c.temps.length c3, .slice a5 c.stack.length c5, .int .i64 (numOf ps c.sender), .bool c.dead]) (by simp [results, Try.results105, go_sem, q0, q1, q2, q3, q4, q5]) rfl ⟨_, _, rfl, P9.mono (by omega), Q9.mono (by omega), hap, B9⟩

end Go.Proofs.Ytldiccheboipeaa
