/-
  A heap while the program's operations are done: each call a block of its own, its body another, who called a pointer; the lists of each in rows of their own. No two share a block.
-/
import Derived.Test.YtnffknlgaiehdaaVImpl3
import Derived.Test.YtnffknlgaiehdaaSMem
import Derived.Test.YtnffknlgaiehdaaStepT
namespace Go.Proofs.Ytnffknlgaiehdaa
open Go.RowKit

/-- three cells in a row -/
def trio (x0 x1 x2 : Value) : Nat → Value := fun i => if i = 0 then x0 else if i = 1 then x1 else x2
theorem trio_new (w : World) (t : TypeId) (x0 x1 x2 : Value) : (w.alloc (.cells #[x0, x1, x2] t)).rowIs w.heap.size t 3 (trio x0 x1 x2) :=
  ⟨_, Go.Deep.blk_alloc_new _ _, rfl, fun i hi => by match i, hi with | 0, _ => rfl | 1, _ => rfl | 2, _ => rfl⟩
theorem trio_cells {w : World} {g : Nat} {t : TypeId} {x0 x1 x2 : Value} (h : w.rowIs g t 3 (trio x0 x1 x2)) : (w.cell? ⟨g, 0, none⟩ = some x0 ∧ w.cell? ⟨g, 1, none⟩ = some x1 ∧ w.cell? ⟨g, 2, none⟩ = some x2) ∧ (w.frozen? ⟨g, 0, none⟩ = false ∧ w.frozen? ⟨g, 1, none⟩ = false ∧ w.frozen? ⟨g, 2, none⟩ = false) :=
  ⟨⟨h.cell (i := 0) (by decide), h.cell (i := 1) (by decide), h.cell (i := 2) (by decide)⟩, h.frozen 0, h.frozen 1, h.frozen 2⟩
theorem trio_set2 {w : World} {g : Nat} {t : TypeId} {x0 x1 x2 : Value} (h : w.rowIs g t 3 (trio x0 x1 x2)) (v : Value) : (w.setCell ⟨g, 2, none⟩ v).rowIs g t 3 (trio x0 x1 v) :=
  (h.set 2 v).congr fun i hi => by match i, hi with | 0, _ => rfl | 1, _ => rfl | 2, _ => rfl

/-- a call's block, told by its place; nil, if it is none -/
def ptrN (C : Nat → Nat) (a : Int) : Value := if a < 0 then .pointer none else .pointer (some ⟨C a.toNat, 0, none⟩)
theorem ptrN_neg {C : Nat → Nat} {a : Int} (h : a < 0) : ptrN C a = .pointer none := if_pos h
theorem ptrN_at (C : Nat → Nat) (i : Nat) : ptrN C (i : Int) = .pointer (some ⟨C i, 0, none⟩) := by
  unfold ptrN
  rw [if_neg (by omega), Int.toNat_natCast]

/-- the blocks of a heap at work -/
inductive Blk where
  | heap | run | row | said
  | call (i : Nat) | body (i : Nat) | temps (i : Nat) | stack (i : Nat)

def Blk.ok (n : Nat) : Blk → Prop
  | .call i | .body i | .temps i | .stack i => i < n
  | _ => True

def Blk.at (bl br : Nat) (vcs vsd : Value) (C D : Nat → Nat) (T : Nat → Value × Value) : Blk → Option Nat
  | .heap => some bl
  | .run => some br
  | .row => vcs.ownBlock
  | .said => vsd.ownBlock
  | .call i => some (C i)
  | .body i => some (D i)
  | .temps i => (T i).1.ownBlock
  | .stack i => (T i).2.ownBlock

def ptrs (C : Nat → Nat) (n : Nat) : List Value := (List.range n).map fun i => .pointer (some ⟨C i, 0, none⟩)

/-- one block more -/
def updN (C : Nat → Nat) (n c : Nat) : Nat → Nat := fun i => if i = n then c else C i
theorem updN_same (C : Nat → Nat) (n c : Nat) : updN C n c n = c := if_pos rfl
theorem updN_other (C : Nat → Nat) {n c i : Nat} (h : i ≠ n) : updN C n c i = C i := if_neg h

theorem ptrs_snoc (C : Nat → Nat) (n c : Nat) : ptrs (updN C n c) (n + 1) = ptrs C n ++ [.pointer (some ⟨c, 0, none⟩)] := by
  unfold ptrs
  rw [List.range_succ, List.map_append, List.map_singleton, updN_same]
  congr 1
  exact List.map_congr_left fun i hi => by rw [updN_other _ (by simp at hi; omega)]

theorem ptrN_more {C : Nat → Nat} {n c : Nat} {a : Int} (h : a < (n : Int)) : ptrN (updN C n c) a = ptrN C a := by
  unfold ptrN
  by_cases e : a < 0
  · rw [if_pos e, if_pos e]
  · rw [if_neg e, if_neg e, updN_other _ (by omega)]

end Go.Proofs.Ytnffknlgaiehdaa
