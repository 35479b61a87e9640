/-
  What draws: words for a method that is being drawn (its box, its operations, the box of the answer), and what each statement of l71Method does to them.
-/
import Derived.Test.YtldiccheboipeaaDraw5
namespace Go.Proofs.Ytldiccheboipeaa
open Go.RowKit

/-- a row of another type than operations is none of theirs -/
theorem row_ne {w : World} {g : Nat} {t : TypeId} {n : Nat} {f : Nat → Value} {B : Nat} {v : Value} {L : List (Int × Int)} (hr : w.rowIs g t n f) (h : OpsRow B w v L) (ht : t ≠ 175) : v.ownBlock ≠ some g := by
  intro e
  obtain ⟨c, hc, _⟩ := hr
  obtain ⟨_, h2⟩ := h
  rcases h2 with ⟨rfl, _⟩ | ⟨g', cap, cur, rfl, _, hh, _⟩
  · cases e
  · simp [Value.ownBlock] at e
    subst e
    rw [hc] at hh
    simp at hh
    exact ht hh.2

theorem row_kept {w w' : World} {g : Nat} {t : TypeId} {n : Nat} {f : Nat → Value} {row : Option Nat} (hr : w.rowIs g t n f) (k : w.grownBy w' row) (hne : some g ≠ row) : w'.rowIs g t n f := hr.of_block (k.block g hr.lt hne)

theorem Rd.heap {w w' : World} {b : Nat} {a : Option Addr} {len cap p : Nat} (h : Rd w b a len cap p) (e : w'.heap = w.heap) : Rd w' b a len cap p := by
  have hc : ∀ q, w'.cell? q = w.cell? q := fun q => by simp [World.cell?, e]
  have hf : ∀ q, w'.frozen? q = w.frozen? q := fun q => by simp [World.frozen?, e]
  exact ⟨by rw [hc]; exact h.s, by rw [hc]; exact h.p, by rw [hf]; exact h.f, h.l, fun i hi => by
    obtain ⟨b', o, x, h1, h2, h3, h4⟩ := h.c i hi
    exact ⟨b', o, x, h1, h2, by rw [hc]; exact h3, h4⟩⟩
theorem Rd.alloc {w : World} {b : Nat} {a : Option Addr} {len cap p : Nat} (h : Rd w b a len cap p) (o : Obj) : Rd (w.alloc o) b a len cap p := Rd.kept h h (Nat.le_refl _) (World.grownBy_alloc w o none) (fun g e => by cases e)

def boxF (A T : Int) (v : Value) : Nat → Value := fun i => if i = 0 then .int .i64 A else if i = 1 then .int .i64 T else v

theorem box_new (w : World) (A T : Int) (v : Value) : (w.alloc (.cells #[.int .i64 A, .int .i64 T, v] 83)).rowIs w.heap.size 83 3 (boxF A T v) :=
  ⟨_, Go.Deep.blk_alloc_new _ _, rfl, fun i hi => by match i, hi with | 0, _ => rfl | 1, _ => rfl | 2, _ => rfl⟩

/-- a method that is being drawn since w0: the reader, its box at block g, its operations, the box of the answer -/
structure MS (w0 w : World) (b : Nat) (a : Option Addr) (len cap p g : Nat) (A T : Int) (v : Value) (L : List (Int × Int)) : Prop where
  rd : Rd w b a len cap p
  gr : w0.grownBy w (some b)
  box : w.rowIs g 83 3 (boxF A T v)
  own : w0.heap.size < g
  row : OpsRow w0.heap.size w v L
  res : w.rowIs w0.heap.size 83 3 (boxF 0 0 (.slice none 0 0))
  r0 : ∃ p0, Rd w0 b a len cap p0

namespace MS
variable {w0 w w' W : World} {b : Nat} {a : Option Addr} {len cap p q g : Nat} {A T : Int} {v v' : Value} {L L' : List (Int × Int)}

theorem blt (h : MS w0 w b a len cap p g A T v L) : b < w0.heap.size := by obtain ⟨_, h0⟩ := h.r0; exact World.block_lt_of_cell? _ _ h0.s
theorem c0 (h : MS w0 w b a len cap p g A T v L) : w.cell? ⟨g, 0, none⟩ = some (.int .i64 A) := h.box.cell (by decide)
theorem c1 (h : MS w0 w b a len cap p g A T v L) : w.cell? ⟨g, 1, none⟩ = some (.int .i64 T) := h.box.cell (i := 1) (by decide)
theorem c2 (h : MS w0 w b a len cap p g A T v L) : w.cell? ⟨g, 2, none⟩ = some v := h.box.cell (i := 2) (by decide)
theorem f2 (h : MS w0 w b a len cap p g A T v L) : w.frozen? ⟨g, 2, none⟩ = false := h.box.frozen 2

/-- the reader has moved on, nothing else of it has turned -/
theorem pick (h : MS w0 w b a len cap p g A T v L) (hrd : Rd w' b a len cap q) (hg : w.grownBy w' (some b)) : MS w0 w' b a len cap q g A T v L :=
  ⟨hrd, grown_trans h.gr hg, row_kept h.box hg (by have := h.own; have := h.blt; simp; omega), h.own, h.row.kept hg (fun k e hk => by cases e; have := (h.row.lt _ hk).1; have := h.blt; omega), row_kept h.res hg (by have := h.blt; simp; omega), h.r0⟩

theorem drew (h : MS w0 w b a len cap p g A T v L) : MS w0 w.drew b a len cap p g A T v L := ⟨Rd.heap h.rd rfl, ⟨h.gr.os, h.gr.tape, h.gr.output, h.gr.size, h.gr.block⟩, h.box, h.own, h.row, h.res, h.r0⟩

/-- an append to its operations: what lies in the world behind it -/
theorem appended (h : MS w0 w b a len cap p g A T v L) (hW : Below w.heap.size w W) (hg2 : W.grownBy w' v.ownBlock) : Rd w' b a len cap p ∧ w0.grownBy w' (some b) ∧ w'.rowIs g 83 3 (boxF A T v) ∧ w'.rowIs w0.heap.size 83 3 (boxF 0 0 (.slice none 0 0)) := by
  have hA := below_grown hW v.ownBlock
  have hA2 : w.grownBy w' v.ownBlock := ⟨hg2.os.trans hA.os, hg2.tape.trans hA.tape, hg2.output.trans hA.output, Nat.le_trans hA.size hg2.size, fun i hi hn => (hg2.block i (Nat.lt_of_lt_of_le hi hA.size) hn).trans (hA.block i hi hn)⟩
  have hrow : ∀ k, v.ownBlock = some k → w0.heap.size ≤ k := fun k e => (h.row.lt k e).1
  obtain ⟨p0, h0⟩ := h.r0
  exact ⟨Rd.kept h0 h.rd h.gr.size hA2 hrow, grown_own h.gr hA2 hrow, row_kept h.box hA2 (fun e => row_ne h.box h.row (by decide) e.symm), row_kept h.res hA2 (fun e => row_ne h.res h.row (by decide) e.symm)⟩

/-- .. and the new row stored into the box -/
theorem stored (h : MS w0 w b a len cap p g A T v L) (hW : Below w.heap.size w W) (hg2 : W.grownBy w' v.ownBlock) (hrow' : OpsRow w0.heap.size w' v' L') : MS w0 (w'.setCell ⟨g, 2, none⟩ v') b a len cap p g A T v' L' := by
  obtain ⟨h1, h2, h3, h4⟩ := h.appended hW hg2
  have hown := h.own
  have k := grown_set w' g 2 v'
  have e : ∀ k, some g = some k → w0.heap.size ≤ k := fun k e => by cases e; omega
  obtain ⟨p0, h0⟩ := h.r0
  refine ⟨Rd.kept h0 h1 h2.size k e, grown_own h2 k e, (h3.set 2 v').congr (fun i hi => ?_), hown, hrow'.kept k (fun q hq hk => by cases hq; exact row_ne h3 hrow' (by decide) hk), row_kept h4 k (by simp; omega), h.r0⟩
  match i, hi with
  | 0, _ => simp [boxF]
  | 1, _ => simp [boxF]
  | 2, _ => simp [boxF]

end MS

/-- the first statement, in either of its two orders -/
theorem ms_one {w : World} {b : Nat} {a : Option Addr} {len cap p : Nat} (hr : Rd w b a len cap p) (A T : Int) (k : Nat) :
    MS w (((((w.setCell ⟨b, 1, none⟩ (.int .i64 ((p : Int) + 1))).alloc (.cells #[.int .i64 0, .int .i64 0, .slice none 0 0] 83)).alloc (.cells #[] 175)).alloc (.cells #[.int .i64 A, .int .i64 T, .slice (some ⟨w.heap.size + 1, 0, none⟩) 0 0] 83)).drewN k) b a len cap (p + 1) (w.heap.size + 1 + 1) A T (.slice (some ⟨w.heap.size + 1, 0, none⟩) 0 0) [] := by
  have hn : Rd (w.setCell ⟨b, 1, none⟩ (.int .i64 ((p : Int) + 1))) b a len cap (p + 1) := hr.next (q := p + 1)
  have hg := grown_next w b (.int .i64 ((p : Int) + 1))
  have hz : (w.setCell ⟨b, 1, none⟩ (.int .i64 ((p : Int) + 1))).heap.size = w.heap.size := by simp [World.setCell]
  generalize w.setCell ⟨b, 1, none⟩ (.int .i64 ((p : Int) + 1)) = V at *
  have r1 := box_new V 0 0 (.slice none 0 0)
  have o2 := OpsRow.made (V.alloc (.cells #[.int .i64 0, .int .i64 0, .slice none 0 0] 83))
  have b3 := box_new ((V.alloc (.cells #[.int .i64 0, .int .i64 0, .slice none 0 0] 83)).alloc (.cells #[] 175)) A T (.slice (some ⟨w.heap.size + 1, 0, none⟩) 0 0)
  simp only [World.size_alloc, hz] at r1 o2 b3
  have o3 : OpsRow w.heap.size _ _ [] := (o2.mono (Nat.le_succ _)).kept (row := none) (World.grownBy_alloc _ (.cells #[.int .i64 A, .int .i64 T, .slice (some ⟨w.heap.size + 1, 0, none⟩) 0 0] 83) none) (fun g e => by cases e)
  exact ⟨Rd.heap (((hn.alloc _).alloc _).alloc _) rfl, grown_drewN (grown_alloc (grown_alloc (grown_alloc hg _) _) _) k, b3, by omega, o3, (r1.alloc _).alloc _, ⟨p, hr⟩⟩

theorem ms_two {w : World} {b : Nat} {a : Option Addr} {len cap p : Nat} (hr : Rd w b a len cap p) (A T : Int) (k : Nat) :
    MS w (((((w.setCell ⟨b, 1, none⟩ (.int .i64 ((p : Int) + 1))).alloc (.cells #[.int .i64 0, .int .i64 0, .slice none 0 0] 83)).alloc (.cells #[.int .i64 A, .int .i64 T, .slice (some ⟨w.heap.size + 1 + 1, 0, none⟩) 0 0] 83)).alloc (.cells #[] 175)).drewN k) b a len cap (p + 1) (w.heap.size + 1) A T (.slice (some ⟨w.heap.size + 1 + 1, 0, none⟩) 0 0) [] := by
  have hn : Rd (w.setCell ⟨b, 1, none⟩ (.int .i64 ((p : Int) + 1))) b a len cap (p + 1) := hr.next (q := p + 1)
  have hg := grown_next w b (.int .i64 ((p : Int) + 1))
  have hz : (w.setCell ⟨b, 1, none⟩ (.int .i64 ((p : Int) + 1))).heap.size = w.heap.size := by simp [World.setCell]
  generalize w.setCell ⟨b, 1, none⟩ (.int .i64 ((p : Int) + 1)) = V at *
  have r1 := box_new V 0 0 (.slice none 0 0)
  have b2 := box_new (V.alloc (.cells #[.int .i64 0, .int .i64 0, .slice none 0 0] 83)) A T (.slice (some ⟨w.heap.size + 1 + 1, 0, none⟩) 0 0)
  have o3 := OpsRow.made ((V.alloc (.cells #[.int .i64 0, .int .i64 0, .slice none 0 0] 83)).alloc (.cells #[.int .i64 A, .int .i64 T, .slice (some ⟨w.heap.size + 1 + 1, 0, none⟩) 0 0] 83))
  simp only [World.size_alloc, hz] at r1 b2 o3
  exact ⟨Rd.heap (((hn.alloc _).alloc _).alloc _) rfl, grown_drewN (grown_alloc (grown_alloc (grown_alloc hg _) _) _) k, b2.alloc _, by omega, o3.mono (by omega), (r1.alloc _).alloc _, ⟨p, hr⟩⟩

end Go.Proofs.Ytldiccheboipeaa
