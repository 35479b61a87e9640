/-
  The program's step, its parts: the operation that is next, the kinds of what is taken, what is taken, who does it.
-/
import Derived.Test.YtnffknlgaiehdaaPiece
import Derived.Test.YtnffknlgaiehdaaVImpl3
import Derived.Test.YtnffknlgaiehdaaLMem
import Derived.Deep.RegionWith
namespace Go.Proofs.Ytnffknlgaiehdaa
open Go.RowKit

set_option maxRecDepth 100000 in
set_option maxHeartbeats 2000000 in
theorem opAt_any (vp : Value) (ms : Ms) (m pc : Nat) (w : World) (hM : MethsAt w vp ms) (hm : m < ms.length) :
    Calls Try.prog 45 #[.agg #[vp], .int .i64 m, .int .i64 pc] w fun e w' => e = .returned (.tuple #[.agg #[.int .i64 (ms[m].2.2.getD pc (0, 0)).1, .int .i64 (ms[m].2.2.getD pc (0, 0)).2], .bool (decide (pc < ms[m].2.2.length))]) ∧ Below w.heap.size w w' := by
  have hA : Below w.heap.size w ((w.alloc (.cells #[vp] 39)).alloc (.cells #[.int .i64 0, .int .i64 0] 48)) := ((Below.refl _ _).alloc (Nat.le_refl _) _).alloc (by simp) _
  have hMA := hM.below hA
  obtain ⟨ap, cp, hvp, hlp, hms⟩ := id hMA
  obtain ⟨pb, po, vo, hap, p0, p1, p2, p3⟩ := hms m hm
  obtain ⟨oa, oc, hvo, hol, hops⟩ := id p3
  subst hvp hap hvo
  have r1 := two_new (w.alloc (.cells #[.slice (some ⟨pb, po, none⟩) ms.length cp] 39)) 48 (.int .i64 0) (.int .i64 0)
  simp only [World.size_alloc] at r1
  have hmz : (m : Int) < (ms.length : Int) := by omega
  clear hms hM hMA
  by_cases hpl : pc < ms[m].2.2.length
  · rw [decide_eq_true hpl, getD_at hpl]
    obtain ⟨ob, oo, hob, q0, q1⟩ := hops pc hpl
    subst hob
    have hpz : (pc : Int) < (ms[m].2.2.length : Int) := by omega
    have hp0 : (0 : Int) ≤ (pc : Int) := by omega
    clear hops p3
    generalize ms[m].2.2[pc] = op at *
    obtain ⟨kk, a⟩ := op
    generalize ms[m].2.2.length = no at *
    have r0 := (box_row w 39 (.slice (some ⟨pb, po, none⟩) ms.length cp)).alloc (.cells #[.int .i64 0, .int .i64 0] 48)
    go_enter Try.func45, Try.ntmps45
    go_upto_region 1 with fail
    generalize (w.alloc (.cells #[.slice (some ⟨pb, po, none⟩) ms.length cp] 39)).alloc (.cells #[.int .i64 0, .int .i64 0] 48) = W at *
    obtain ⟨⟨u0, u1⟩, uf0, uf1⟩ := two_cells r1
    have v0 := r0.cell (i := 0) (by decide)
    go_wp2_with (go_at_call 75; refine (isPlace_any _ _ _).mono ?_; rintro e w' ⟨rfl, hw⟩; obtain rfl := hw.symm; rw [inR_true.2 ⟨hp0, by omega⟩])
    have R9 : ((W.setCell ⟨w.heap.size + 1, 0, none⟩ (.int .i64 kk)).setCell ⟨w.heap.size + 1, 1, none⟩ (.int .i64 a)).rowIs (w.heap.size + 1) 48 2 (two (.int .i64 kk) (.int .i64 a)) := ((two_set0 r1 (.int .i64 kk)).set 1 (.int .i64 a)).congr fun i hi => by match i, hi with | 0, _ => rfl | 1, _ => rfl
    have B9 : Below w.heap.size w ((W.setCell ⟨w.heap.size + 1, 0, none⟩ (.int .i64 kk)).setCell ⟨w.heap.size + 1, 1, none⟩ (.int .i64 a)) := (hA.setCell (p := ⟨w.heap.size + 1, 0, none⟩) (Nat.le_succ _) _).setCell (p := ⟨w.heap.size + 1, 1, none⟩) (Nat.le_succ _) _
    obtain ⟨⟨s0, s1⟩, _⟩ := two_cells R9
    generalize (W.setCell ⟨w.heap.size + 1, 0, none⟩ (.int .i64 kk)).setCell ⟨w.heap.size + 1, 1, none⟩ (.int .i64 a) = W9 at *
    exact bodyPost_ret (v := .tuple #[.agg #[.int .i64 kk, .int .i64 a], .bool true]) (by simp [results, Try.results45, go_sem, s0, s1]) rfl ⟨rfl, B9⟩
  · rw [decide_eq_false hpl, List.getD_eq_getElem?_getD, List.getElem?_eq_none (by omega)]
    clear hops
    generalize ms[m].2.2.length = no at *
    have r0 := (box_row w 39 (.slice (some ⟨pb, po, none⟩) ms.length cp)).alloc (.cells #[.int .i64 0, .int .i64 0] 48)
    go_enter Try.func45, Try.ntmps45
    go_upto_region 1 with fail
    generalize (w.alloc (.cells #[.slice (some ⟨pb, po, none⟩) ms.length cp] 39)).alloc (.cells #[.int .i64 0, .int .i64 0] 48) = W at *
    obtain ⟨⟨u0, u1⟩, uf0, uf1⟩ := two_cells r1
    have v0 := r0.cell (i := 0) (by decide)
    go_wp2_with (go_at_call 75; refine (isPlace_any _ _ _).mono ?_; rintro e w' ⟨rfl, hw⟩; obtain rfl := hw.symm; rw [inR_false.2 (by omega)])
    have R9 : ((W.setCell ⟨w.heap.size + 1, 0, none⟩ (.int .i64 0)).setCell ⟨w.heap.size + 1, 1, none⟩ (.int .i64 0)).rowIs (w.heap.size + 1) 48 2 (two (.int .i64 0) (.int .i64 0)) := ((two_set0 r1 (.int .i64 0)).set 1 (.int .i64 0)).congr fun i hi => by match i, hi with | 0, _ => rfl | 1, _ => rfl
    have B9 : Below w.heap.size w ((W.setCell ⟨w.heap.size + 1, 0, none⟩ (.int .i64 0)).setCell ⟨w.heap.size + 1, 1, none⟩ (.int .i64 0)) := (hA.setCell (p := ⟨w.heap.size + 1, 0, none⟩) (Nat.le_succ _) _).setCell (p := ⟨w.heap.size + 1, 1, none⟩) (Nat.le_succ _) _
    obtain ⟨⟨s0, s1⟩, _⟩ := two_cells R9
    generalize (W.setCell ⟨w.heap.size + 1, 0, none⟩ (.int .i64 0)).setCell ⟨w.heap.size + 1, 1, none⟩ (.int .i64 0) = W9 at *
    exact bodyPost_ret (v := .tuple #[.agg #[.int .i64 0, .int .i64 0], .bool false]) (by simp [results, Try.results45, go_sem, s0, s1]) rfl ⟨rfl, B9⟩

end Go.Proofs.Ytnffknlgaiehdaa
