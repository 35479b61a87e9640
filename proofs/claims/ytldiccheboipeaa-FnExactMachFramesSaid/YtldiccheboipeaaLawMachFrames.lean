/-
  The law FnExactMachFrames, walked: whatever machine lies behind its argument, it answers true and writes to nothing that was there. (Written by mklmf.py.)
-/
import Derived.Test.YtldiccheboipeaaMCopy
import Derived.Test.YtldiccheboipeaaMSame
import Derived.Test.YtldiccheboipeaaMFrames
import Derived.Deep.RegionHeld3
namespace Go.Proofs.Ytldiccheboipeaa
open Go.RowKit

theorem framesN_sized {m : Mc} (h : m.sized) : framesN m.pages ≤ 1099511627776 := by
  have key : ∀ k, k ≤ m.pages.length → framesTo m.pages k ≤ k * 1048576 := by
    intro k
    induction k with
    | zero => intro _; rw [framesTo_zero]; exact Nat.zero_le _
    | succ k ih =>
      intro hk
      rw [framesTo_succ (show k < m.pages.length from hk)]
      have := ih (by omega)
      have := (h.1.2 k hk).1
      omega
  have := key m.pages.length (Nat.le_refl _)
  have := h.1.1
  unfold framesN
  omega

set_option maxRecDepth 100000 in
set_option maxHeartbeats 4000000 in
theorem law_any (vp vo vt vs : Value) (m : Mc) (w : World) (hm : MachAt w vp vo vt vs m) :
    Calls Try.prog 6 #[.agg (mcCells vp vo vt vs m).toArray] w fun e w' => e = .returned (.bool true) ∧ Below w.heap.size w w' := by
  obtain ⟨ap, cp, hvp⟩ := hm.p.shape
  obtain ⟨ao, co, hvo⟩ := hm.o.shape
  obtain ⟨at', ct, hvt⟩ := hm.t.shape
  obtain ⟨as', cs, hvs⟩ := hm.s.shape
  subst hvp hvo hvt hvs
  unfold mcCells
  go_enter Try.func6, Try.ntmps6
  go_upto_region 1 with fail
  refine wp_gen (fun W => Below w.heap.size w W ∧ Bx W w.heap.size 67 [.int .i64 m.cells, .slice ap m.pages.length cp, .slice ao m.order.length co, .int .i64 m.now, .slice at' m.twins.length ct, .int .i64 m.born, .slice as' m.said.length cs, .int .i64 m.code]) ⟨(Below.refl _ _).alloc (Nat.le_refl _) _, Bx.new w _ _⟩ ?_
  rintro W0 ⟨B0, x0⟩
  obtain ⟨⟨p0, p1, p2, p3, p4, p5, p6, p7⟩, _⟩ := bx8 x0
  have z0 := B0.size
  go_wp2_with fail
  refine (szMach_any m _ _ _ _ _ _ (hm.below B0).p (hm.below B0).o (hm.below B0).t (hm.below B0).s (by omega) (by omega)).mono ?_
  rintro e W1 ⟨r, rfl, hr, hs, t1⟩
  have HS0 : Hid (0 ≤ r → m.sized) := hs
  have x1 := x0.below t1
  have B1 := B0.trans (t1.mono z0)
  have z1 := B1.size
  clear hs t1 x0 B0 z0 p0 p1 p2 p3 p4 p5 p6 p7
  by_cases hr0 : r < 0
  · go_wp2
    go_ret
    exact ⟨rfl, B1⟩
  have HSM : Hid m.sized := HS0.out (by omega)
  have hfn : framesN m.pages ≤ 1099511627776 := framesN_sized HSM.out
  have hpn : m.pages.length ≤ 1048576 := HSM.out.1.1
  clear HS0
  obtain ⟨⟨p0, p1, p2, p3, p4, p5, p6, p7⟩, _⟩ := bx8 x1
  go_wp2_with fail
  refine (toMach_any m _ _ _ _ _ (hm.below B1).p (hm.below B1).o (hm.below B1).t (hm.below B1).s HSM.out).mono ?_
  rintro e W2 ⟨g0, g1, g2, g3, rfl, hF2, t2⟩
  have M2 : MachAt W2 _ _ _ _ m := ⟨hF2.here.1, hF2.here.2.1, hF2.here.2.2.1, hF2.here.2.2.2⟩
  have x2 := x1.below t2
  have B2 := B1.trans (t2.mono z1)
  have z2 := B2.size
  clear hF2 t2 x1 B1 z1 p0 p1 p2 p3 p4 p5 p6 p7
  have HS := specMachFrames_any _ _ _ _ m _ M2 hfn
  unfold mcCells at HS
  go_wp2_with fail
  refine HS.mono ?_
  rintro e W3 ⟨rfl, t3⟩
  have x3 := x2.below t3
  have B3 := B2.trans (t3.mono z2)
  have z3 := B3.size
  clear HS M2 t3 x2 B2 z2
  obtain ⟨⟨p0, p1, p2, p3, p4, p5, p6, p7⟩, _⟩ := bx8 x3
  go_wp2_with fail
  refine (toMach_any m _ _ _ _ _ (hm.below B3).p (hm.below B3).o (hm.below B3).t (hm.below B3).s HSM.out).mono ?_
  rintro e W4 ⟨k0, k1, k2, k3, rfl, hF4, t4⟩
  have M4 : MachAt W4 _ _ _ _ m := ⟨hF4.here.1, hF4.here.2.1, hF4.here.2.2.1, hF4.here.2.2.2⟩
  have x4 := x3.below t4
  have B4 := B3.trans (t4.mono z3)
  have z4 := B4.size
  clear hF4 t4 x3 B3 z3 p0 p1 p2 p3 p4 p5 p6 p7
  go_upto_region 7 with fail
  refine wp_gen (fun W => Below w.heap.size w W ∧ Bx W w.heap.size 67 [.int .i64 m.cells, .slice ap m.pages.length cp, .slice ao m.order.length co, .int .i64 m.now, .slice at' m.twins.length ct, .int .i64 m.born, .slice as' m.said.length cs, .int .i64 m.code] ∧ Bx W W4.heap.size 33 [.int .i64 m.cells, .slice (some ⟨k0, 0, none⟩) m.pages.length m.pages.length, .slice (some ⟨k1, 0, none⟩) m.order.length m.order.length, .int .i64 m.now, .slice (some ⟨k2, 0, none⟩) m.twins.length m.twins.length, .int .i64 m.born, .slice (some ⟨k3, 0, none⟩) m.said.length m.said.length, .int .i64 m.code] ∧ MachAt W (.slice (some ⟨k0, 0, none⟩) m.pages.length m.pages.length) (.slice (some ⟨k1, 0, none⟩) m.order.length m.order.length) (.slice (some ⟨k2, 0, none⟩) m.twins.length m.twins.length) (.slice (some ⟨k3, 0, none⟩) m.said.length m.said.length) m) ⟨B4.alloc z4 _, x4.alloc _, Bx.new _ _ _, M4.below ((Below.refl _ _).alloc (Nat.le_refl _) _)⟩ ?_
  rintro W5 ⟨B5, x5, y5, M5⟩
  have z5 := B5.size
  clear B4 x4 M4 z4
  obtain ⟨⟨q0, q1, q2, q3, q4, q5, q6, q7⟩, _⟩ := bx8 y5
  have HS := implMachFrames_any _ _ _ _ m _ M5 hpn hfn
  unfold mcCells at HS
  go_wp2_with fail
  refine HS.mono ?_
  rintro e W6 ⟨rfl, t6⟩
  have x6 := x5.below t6
  have y6 := y5.below t6
  have M6 := M5.below t6
  have B6 := B5.trans (t6.mono z5)
  have z6 := B6.size
  clear HS M5 t6 x5 y5 B5 z5 q0 q1 q2 q3 q4 q5 q6 q7
  go_upto_region 10 with fail
  have x6d : Bx W6.drew w.heap.size _ _ := x6
  have y6d : Bx W6.drew W4.heap.size _ _ := y6
  have M6d := M6.below (Below.refl _ _).drew
  have m6d := hm.below B6.drew
  have B6d := B6.drew
  have z6d := B6d.size
  obtain ⟨⟨p0, p1, p2, p3, p4, p5, p6, p7⟩, _⟩ := bx8 x6
  obtain ⟨⟨q0, q1, q2, q3, q4, q5, q6, q7⟩, _⟩ := bx8 y6
  go_wp2_with fail
  go_region_held3 (fun w' => (w'.cell? ⟨w.heap.size, 0, none⟩ = some (.int .i64 m.cells) ∧ w'.cell? ⟨w.heap.size, 1, none⟩ = some (.slice ap m.pages.length cp) ∧ w'.cell? ⟨w.heap.size, 2, none⟩ = some (.slice ao m.order.length co) ∧ w'.cell? ⟨w.heap.size, 3, none⟩ = some (.int .i64 m.now) ∧ w'.cell? ⟨w.heap.size, 4, none⟩ = some (.slice at' m.twins.length ct) ∧ w'.cell? ⟨w.heap.size, 5, none⟩ = some (.int .i64 m.born) ∧ w'.cell? ⟨w.heap.size, 6, none⟩ = some (.slice as' m.said.length cs) ∧ w'.cell? ⟨w.heap.size, 7, none⟩ = some (.int .i64 m.code)) ∧ (w'.cell? ⟨W4.heap.size, 0, none⟩ = some (.int .i64 m.cells) ∧ w'.cell? ⟨W4.heap.size, 1, none⟩ = some (.slice (some ⟨k0, 0, none⟩) m.pages.length m.pages.length) ∧ w'.cell? ⟨W4.heap.size, 2, none⟩ = some (.slice (some ⟨k1, 0, none⟩) m.order.length m.order.length) ∧ w'.cell? ⟨W4.heap.size, 3, none⟩ = some (.int .i64 m.now) ∧ w'.cell? ⟨W4.heap.size, 4, none⟩ = some (.slice (some ⟨k2, 0, none⟩) m.twins.length m.twins.length) ∧ w'.cell? ⟨W4.heap.size, 5, none⟩ = some (.int .i64 m.born) ∧ w'.cell? ⟨W4.heap.size, 6, none⟩ = some (.slice (some ⟨k3, 0, none⟩) m.said.length m.said.length) ∧ w'.cell? ⟨W4.heap.size, 7, none⟩ = some (.int .i64 m.code)))
    (first | exact ⟨C8.out, D8.out⟩ | exact ⟨C7.out, D7.out⟩ | go_keep)
    ((first
      | (have hh := t7; clear hh; go_at_call 22; refine (eqMach_same m _ _ _ _ _ _ _ _ _ (M6d.below t7).p (M6d.below t7).o (M6d.below t7).t (M6d.below t7).s hF7.here.1 hF7.here.2.1 hF7.here.2.2.1 hF7.here.2.2.2).mono ?_; rintro e W8 ⟨rfl, t8⟩; have C8 : Hid _ := (bx8 (x7.below t8)).1; have D8 : Hid _ := (bx8 (y7.below t8)).1)
      | (go_at_call 28; refine (toMach_any m _ _ _ _ _ m6d.p m6d.o m6d.t m6d.s HSM.out).mono ?_; rintro e W7 ⟨j0, j1, j2, j3, rfl, hF7, t7⟩; have x7 := x6d.below t7; have y7 := y6d.below t7; have C7 : Hid _ := (bx8 x7).1; have D7 : Hid _ := (bx8 y7).1)))
  have z7 := t7.size
  have B8 : Below w.heap.size w W8 := B6d.trans ((t7.trans (t8.mono z7)).mono z6d)
  clear z7 t7 t8 hF7 x7 y7 C7 D7 C8 D8 x6d y6d M6d m6d B6d z6d p0 p1 p2 p3 p4 p5 p6 p7 q0 q1 q2 q3 q4 q5 q6 q7 x6 y6 M6 B6 z6
  go_wp2
  go_ret
  exact ⟨rfl, B8⟩

end Go.Proofs.Ytldiccheboipeaa
