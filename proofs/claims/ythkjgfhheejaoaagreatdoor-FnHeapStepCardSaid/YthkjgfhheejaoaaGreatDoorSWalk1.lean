/-
  The model's heap at work, walked: l11Num, l11Bit, now, die.
-/
import Derived.Test.YthkjgfhheejaoaaGreatDoorSMem2
import Derived.Test.YthkjgfhheejaoaaGreatDoorTakes2
import Derived.BigQuiet
import Derived.Deep.QuietTactic
import Derived.Deep.RegionHeld3
import Derived.Handy
namespace Go.Proofs.YthkjgfhheejaoaaGreatDoor
open Go.RowKit

/-- a value in a box -/
def duo (x0 x1 : Value) : Nat → Value := fun i => if i = 0 then x0 else x1
theorem duo_new (w : World) (t : TypeId) (x0 x1 : Value) : (w.alloc (.cells #[x0, x1] t)).rowIs w.heap.size t 2 (duo x0 x1) :=
  ⟨_, Go.Deep.blk_alloc_new _ _, rfl, fun i hi => by match i, hi with | 0, _ => rfl | 1, _ => rfl⟩
theorem duo_cells {w : World} {g : Nat} {t : TypeId} {x0 x1 : Value} (h : w.rowIs g t 2 (duo x0 x1)) : (w.cell? ⟨g, 0, none⟩ = some x0 ∧ w.cell? ⟨g, 1, none⟩ = some x1) ∧ (w.frozen? ⟨g, 0, none⟩ = false ∧ w.frozen? ⟨g, 1, none⟩ = false) :=
  ⟨⟨h.cell (i := 0) (by decide), h.cell (i := 1) (by decide)⟩, h.frozen 0, h.frozen 1⟩
theorem duo_set {w : World} {g : Nat} {t : TypeId} {x0 x1 : Value} (h : w.rowIs g t 2 (duo x0 x1)) (u v : Value) : ((w.setCell ⟨g, 0, none⟩ u).setCell ⟨g, 1, none⟩ v).rowIs g t 2 (duo u v) :=
  ((h.set 0 u).set 1 v).congr fun i hi => by match i, hi with | 0, _ => rfl | 1, _ => rfl

set_option maxHeartbeats 1000000 in
theorem l11Num_any (n : Int) (w : World) : Calls Tryz.prog 84 #[.int .i64 n] w fun e w' => e = .returned (.agg #[.int .i64 1, .int .i64 n]) ∧ Below w.heap.size w w' := by
  go_enter Tryz.func84, Tryz.ntmps84
  go_wp2
  go_returns
  exact ⟨rfl, (Below.refl _ _).alloc (Nat.le_refl _) _⟩

set_option maxHeartbeats 1000000 in
theorem l11Bit_any (b : Bool) (w : World) : Calls Tryz.prog 114 #[.bool b] w fun e w' => e = .returned (.agg #[.int .i64 1, .int .i64 (if b then 1 else 0)]) ∧ Below w.heap.size w w' := by
  have hA : Below w.heap.size w (w.alloc (.cells #[.int .i64 0, .int .i64 0] 43)) := (Below.refl _ _).alloc (Nat.le_refl _) _
  have rx := duo_new w 43 (.int .i64 0) (.int .i64 0)
  cases b
  all_goals
    go_enter Tryz.func114, Tryz.ntmps114
    go_upto_region 1 with fail
    generalize w.alloc (.cells #[.int .i64 0, .int .i64 0] 43) = W at *
    go_wp2_with (go_at_call 84; refine (l11Num_any _ _).mono ?_; rintro e w' ⟨rfl, hw⟩; have r2 := row_below hw rx; obtain ⟨⟨t0, t1⟩, tf0, tf1⟩ := duo_cells r2; have hB := hA.trans (hw.mono hA.size))
  · obtain ⟨⟨s0, s1⟩, _⟩ := duo_cells (duo_set r2 (.int .i64 1) (.int .i64 0))
    refine bodyPost_ret (v := .agg #[.int .i64 1, .int .i64 0]) (by simp [results, Tryz.results114, go_sem, s0, s1]) rfl ?_
    exact ⟨rfl, (hB.setCell (p := ⟨w.heap.size, 0, none⟩) (Nat.le_refl _) _).setCell (p := ⟨w.heap.size, 1, none⟩) (Nat.le_refl _) _⟩
  · obtain ⟨⟨s0, s1⟩, _⟩ := duo_cells (duo_set r2 (.int .i64 1) (.int .i64 1))
    refine bodyPost_ret (v := .agg #[.int .i64 1, .int .i64 1]) (by simp [results, Tryz.results114, go_sem, s0, s1]) rfl ?_
    exact ⟨rfl, (hB.setCell (p := ⟨w.heap.size, 0, none⟩) (Nat.le_refl _) _).setCell (p := ⟨w.heap.size, 1, none⟩) (Nat.le_refl _) _⟩

set_option maxRecDepth 100000 in
set_option maxHeartbeats 2000000 in
theorem now_any {A : Nat → Prop} {B : Nat} {w : World} {bo : Nat} {vp vs : Value} {g off cap : Nat} {ms : List (Int × Int × List (Int × Int))} {h : Hp} {V : Nat → Value × Value} (k : SM A B w bo vp (.slice (some ⟨g, off, none⟩) h.calls.length cap) vs ms h V) {j : Nat} (hn : h.now = j) (hj : j < h.calls.length) :
    Calls Tryz.prog 70 #[.pointer (some ⟨bo, 0, none⟩)] w fun e w' => e = .returned (.pointer (some ⟨g, off + j * 6, none⟩)) ∧ Below w.heap.size w w' := by
  obtain ⟨⟨x0, x1, x2, x3, x4, x5⟩, _⟩ := six_cells k.box
  rw [hn] at x2
  have hjz : (j : Int) < (h.calls.length : Int) := by omega
  go_enter Tryz.func70, Tryz.ntmps70
  go_wp2
  go_region
  go_wp2
  go_ret
  exact ⟨rfl, (Below.refl _ _).drew⟩

/-- a call that has returned, cell by cell -/
theorem SM.die {A : Nat → Prop} {B : Nat} {w : World} {bo : Nat} {vp vs : Value} {g off cap : Nat} {ms : List (Int × Int × List (Int × Int))} {h : Hp} {V : Nat → Value × Value} (k : SM A B w bo vp (.slice (some ⟨g, off, none⟩) h.calls.length cap) vs ms h V) {j : Nat} (hj : j < h.calls.length) (e : TypeId) :
    ∃ V', SM A B ((((w.setCell ⟨g, off + j * 6 + 5, none⟩ (.bool true)).alloc (.cells #[] e)).setCell ⟨g, off + j * 6 + 3, none⟩ (.slice (some ⟨w.heap.size, 0, none⟩) 0 0)).setCell ⟨g, off + j * 6 + 4, none⟩ (.int .i64 (-1))) bo vp (.slice (some ⟨g, off, none⟩) h.calls.length cap) vs ms { h with calls := h.calls.set j { h.calls[j] with stack := [], sender := -1, dead := true } } V' ∧
      Cm A B w ((((w.setCell ⟨g, off + j * 6 + 5, none⟩ (.bool true)).alloc (.cells #[] e)).setCell ⟨g, off + j * 6 + 3, none⟩ (.slice (some ⟨w.heap.size, 0, none⟩) 0 0)).setCell ⟨g, off + j * 6 + 4, none⟩ (.int .i64 (-1))) := by
  obtain ⟨hgB, hgl⟩ := k.own.c.lt (g := g) (.inl rfl)
  have b1 := (Below.refl B w).setCell (p := ⟨g, off + j * 6 + 5, none⟩) hgB (.bool true)
  obtain ⟨k1, m1⟩ := k.put hj (put_cell k.own.c hj 5 (.bool true) { h.calls[j] with dead := true } (by decide) rfl rfl rfl rfl rfl rfl) b1
  have hs1 : (w.setCell ⟨g, off + j * 6 + 5, none⟩ (.bool true)).heap.size = w.heap.size := by simp [World.setCell]
  have hj1 : j < (h.calls.set j { h.calls[j] with dead := true }).length := by simpa using hj
  have hwB : B ≤ w.heap.size := by omega
  have mk : PairRow B ((w.setCell ⟨g, off + j * 6 + 5, none⟩ (.bool true)).alloc (.cells #[] e)) (.slice (some ⟨w.heap.size, 0, none⟩) 0 0) [] := by
    have := PairRow.made (B := B) (w := w.setCell ⟨g, off + j * 6 + 5, none⟩ (.bool true)) (e := e) (by rw [hs1]; exact hwB)
    rwa [hs1] at this
  obtain ⟨k2, m2⟩ := k1.put hj1 (put_stack k1.own.c hj1 (.slice (some ⟨w.heap.size, 0, none⟩) 0 0) [] (Nat.le_of_lt (by simp)) (fun q hq _ => Below.heap_alloc _ _ q hq) mk (fun q e => by
    simp [Value.ownBlock] at e
    exact .inr (by rw [hs1]; omega))) (((Below.refl B _).alloc (by rw [hs1]; exact hwB) _).setCell (p := ⟨g, off + j * 6 + 3, none⟩) hgB _)
  have hj2 : j < ((h.calls.set j { h.calls[j] with dead := true }).set j { (h.calls.set j { h.calls[j] with dead := true })[j] with stack := [] }).length := by simpa using hj
  obtain ⟨k3, m3⟩ := k2.put hj2 (put_cell k2.own.c hj2 4 (.int .i64 (-1)) { ((h.calls.set j { h.calls[j] with dead := true }).set j { (h.calls.set j { h.calls[j] with dead := true })[j] with stack := [] })[j] with sender := -1 } (by decide) rfl rfl rfl rfl rfl rfl) ((Below.refl B _).setCell (p := ⟨g, off + j * 6 + 4, none⟩) hgB _)
  simp only [List.getElem_set_self, List.set_set] at k3
  exact ⟨_, k3, (m1.trans m2).trans m3⟩

set_option maxRecDepth 100000 in
set_option maxHeartbeats 2000000 in
theorem die_any {A : Nat → Prop} {B : Nat} {w : World} {bo : Nat} {vp vs : Value} {g off cap : Nat} {ms : List (Int × Int × List (Int × Int))} {h : Hp} {V : Nat → Value × Value} (k : SM A B w bo vp (.slice (some ⟨g, off, none⟩) h.calls.length cap) vs ms h V) {j : Nat} (hj : j < h.calls.length) :
    Calls Tryz.prog 115 #[.pointer (some ⟨bo, 0, none⟩), .int .i64 (j : Int)] w fun e w' => e = .returned (.tuple #[]) ∧ (∃ V', SM A B w' bo vp (.slice (some ⟨g, off, none⟩) h.calls.length cap) vs ms { h with calls := h.calls.set j { h.calls[j] with stack := [], sender := -1, dead := true } } V') ∧ Cm A B w w' := by
  obtain ⟨⟨x0, x1, x2, x3, x4, x5⟩, _⟩ := six_cells k.box
  obtain ⟨⟨c0, c1, c2, c3, c4, c5⟩, fz⟩ := k.own.c.cells hj
  have f3 := fz 3 (by decide)
  have f4 := fz 4 (by decide)
  have f5 := fz 5 (by decide)
  have hjz : (j : Int) < (h.calls.length : Int) := by omega
  have hgl := (k.own.c.lt (g := g) (.inl rfl)).2
  obtain ⟨V', k', b'⟩ := k.die hj 43
  have hs1 : g < (w.setCell ⟨g, off + j * 6 + 5, none⟩ (.bool true)).heap.size := by simp [World.setCell]; exact hgl
  have hs2 : g < ((w.setCell ⟨g, off + j * 6 + 5, none⟩ (.bool true)).setCell ⟨g, off + j * 6 + 3, none⟩ (.slice (some ⟨w.heap.size, 0, none⟩) 0 0)).heap.size := by simp [World.setCell]; exact hgl
  rw [World.setCell_alloc_past _ _ _ _ hs1, World.setCell_alloc_past _ _ _ _ hs2] at k' b'
  clear hs1 hs2
  have HK : Hid (SM A B _ bo vp _ vs ms _ V') := k'
  clear fz k' k
  go_enter Tryz.func115, Tryz.ntmps115
  go_wp2
  refine bodyPost_end (results_none rfl _ _ _) rfl ?_
  exact ⟨rfl, ⟨V', HK.out⟩, b'⟩

end Go.Proofs.YthkjgfhheejaoaaGreatDoor
