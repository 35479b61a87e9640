/-
  The copies that the exact laws make of values and calls: toVal, toValS, toCall answer the same in new memory, and write to nothing that was there.
-/
import Derived.Test.YtileneepajcbgaaDoorHPlain
import Derived.Test.YtileneepajcbgaaDoorLmVals
import Derived.Deep.DeepCutAuto

namespace Go.Proofs.YtileneepajcbgaaDoor
open Go.RowKit
theorem Tryd.infoVal : (Tryd.prog.info? 42).map (fun i => (i.zero, i.size, i.bytes)) = some (some (.agg #[.int .i64 0, .int .i64 0]), 2, 16) := by kernel_rfl
def six (x0 x1 x2 x3 x4 x5 : Value) : Nat → Value := fun i => if i = 0 then x0 else if i = 1 then x1 else if i = 2 then x2 else if i = 3 then x3 else if i = 4 then x4 else x5
theorem six_new (w : World) (t : TypeId) (x0 x1 x2 x3 x4 x5 : Value) : (w.alloc (.cells #[x0, x1, x2, x3, x4, x5] t)).rowIs w.heap.size t 6 (six x0 x1 x2 x3 x4 x5) :=
  ⟨_, Go.Deep.blk_alloc_new _ _, rfl, fun i hi => by match i, hi with | 0, _ => rfl | 1, _ => rfl | 2, _ => rfl | 3, _ => rfl | 4, _ => rfl | 5, _ => rfl⟩
theorem six_cells {w : World} {g : Nat} {t : TypeId} {x0 x1 x2 x3 x4 x5 : Value} (h : w.rowIs g t 6 (six x0 x1 x2 x3 x4 x5)) :
    (w.cell? ⟨g, 0, none⟩ = some x0 ∧ w.cell? ⟨g, 1, none⟩ = some x1 ∧ w.cell? ⟨g, 2, none⟩ = some x2 ∧ w.cell? ⟨g, 3, none⟩ = some x3 ∧ w.cell? ⟨g, 4, none⟩ = some x4 ∧ w.cell? ⟨g, 5, none⟩ = some x5) ∧
    (w.frozen? ⟨g, 0, none⟩ = false ∧ w.frozen? ⟨g, 1, none⟩ = false ∧ w.frozen? ⟨g, 2, none⟩ = false ∧ w.frozen? ⟨g, 3, none⟩ = false ∧ w.frozen? ⟨g, 4, none⟩ = false ∧ w.frozen? ⟨g, 5, none⟩ = false) :=
  ⟨⟨h.cell (i := 0) (by decide), h.cell (i := 1) (by decide), h.cell (i := 2) (by decide), h.cell (i := 3) (by decide), h.cell (i := 4) (by decide), h.cell (i := 5) (by decide)⟩, h.frozen 0, h.frozen 1, h.frozen 2, h.frozen 3, h.frozen 4, h.frozen 5⟩
theorem six_set2 {w : World} {g : Nat} {t : TypeId} {x0 x1 x2 x3 x4 x5 : Value} (h : w.rowIs g t 6 (six x0 x1 x2 x3 x4 x5)) (v : Value) : (w.setCell ⟨g, 2, none⟩ v).rowIs g t 6 (six x0 x1 v x3 x4 x5) :=
  (h.set 2 v).congr fun i hi => by match i, hi with | 0, _ => rfl | 1, _ => rfl | 2, _ => rfl | 3, _ => rfl | 4, _ => rfl | 5, _ => rfl
theorem six_set0 {w : World} {g : Nat} {t : TypeId} {x0 x1 x2 x3 x4 x5 : Value} (h : w.rowIs g t 6 (six x0 x1 x2 x3 x4 x5)) (v : Value) : (w.setCell ⟨g, 0, none⟩ v).rowIs g t 6 (six v x1 x2 x3 x4 x5) :=
  (h.set 0 v).congr fun i hi => by match i, hi with | 0, _ => rfl | 1, _ => rfl | 2, _ => rfl | 3, _ => rfl | 4, _ => rfl | 5, _ => rfl
theorem six_set1 {w : World} {g : Nat} {t : TypeId} {x0 x1 x2 x3 x4 x5 : Value} (h : w.rowIs g t 6 (six x0 x1 x2 x3 x4 x5)) (v : Value) : (w.setCell ⟨g, 1, none⟩ v).rowIs g t 6 (six x0 v x2 x3 x4 x5) :=
  (h.set 1 v).congr fun i hi => by match i, hi with | 0, _ => rfl | 1, _ => rfl | 2, _ => rfl | 3, _ => rfl | 4, _ => rfl | 5, _ => rfl
theorem six_set3 {w : World} {g : Nat} {t : TypeId} {x0 x1 x2 x3 x4 x5 : Value} (h : w.rowIs g t 6 (six x0 x1 x2 x3 x4 x5)) (v : Value) : (w.setCell ⟨g, 3, none⟩ v).rowIs g t 6 (six x0 x1 x2 v x4 x5) :=
  (h.set 3 v).congr fun i hi => by match i, hi with | 0, _ => rfl | 1, _ => rfl | 2, _ => rfl | 3, _ => rfl | 4, _ => rfl | 5, _ => rfl
theorem six_set4 {w : World} {g : Nat} {t : TypeId} {x0 x1 x2 x3 x4 x5 : Value} (h : w.rowIs g t 6 (six x0 x1 x2 x3 x4 x5)) (v : Value) : (w.setCell ⟨g, 4, none⟩ v).rowIs g t 6 (six x0 x1 x2 x3 v x5) :=
  (h.set 4 v).congr fun i hi => by match i, hi with | 0, _ => rfl | 1, _ => rfl | 2, _ => rfl | 3, _ => rfl | 4, _ => rfl | 5, _ => rfl
theorem six_set5 {w : World} {g : Nat} {t : TypeId} {x0 x1 x2 x3 x4 x5 : Value} (h : w.rowIs g t 6 (six x0 x1 x2 x3 x4 x5)) (v : Value) : (w.setCell ⟨g, 5, none⟩ v).rowIs g t 6 (six x0 x1 x2 x3 x4 v) :=
  (h.set 5 v).congr fun i hi => by match i, hi with | 0, _ => rfl | 1, _ => rfl | 2, _ => rfl | 3, _ => rfl | 4, _ => rfl | 5, _ => rfl
theorem row_set {w : World} {g k o : Nat} {t : TypeId} {n : Nat} {f : Nat → Value} (h : w.rowIs g t n f) (hk : g ≠ k) (v : Value) : (w.setCell ⟨k, o, none⟩ v).rowIs g t n f :=
  h.of_block (Below.heap_setCell _ _ _ _ hk)
end Go.Proofs.YtileneepajcbgaaDoor

/-
  The copies that the exact laws make of rows of calls and of heaps: toCallS, toHeap answer the same in new memory, and write to nothing that was there.
-/
namespace Go.Proofs.YtileneepajcbgaaDoor
open Go.RowKit
theorem Tryd.infoCall : (Tryd.prog.info? 58).map (fun i => (i.zero, i.size, i.bytes)) = some (some (.agg #[.int .i64 0, .int .i64 0, .slice none 0 0, .slice none 0 0, .int .i64 0, .bool false]), 6, 80) := by kernel_rfl
abbrev full (g n : Nat) : Value := .slice (some ⟨g, 0, none⟩) n n
def Cl.none : Cl := ⟨0, 0, [], [], 0, false⟩
def clCell (cs : List Cl) (G : Nat → Nat × Nat) (j : Nat) : Value :=
  if j % 6 = 0 then .int .i64 (cs.getD (j / 6) Cl.none).m else if j % 6 = 1 then .int .i64 (cs.getD (j / 6) Cl.none).pc else if j % 6 = 2 then full (G (j / 6)).1 (cs.getD (j / 6) Cl.none).temps.length
  else if j % 6 = 3 then full (G (j / 6)).2 (cs.getD (j / 6) Cl.none).stack.length else if j % 6 = 4 then .int .i64 (cs.getD (j / 6) Cl.none).sender else .bool (cs.getD (j / 6) Cl.none).dead
theorem clCell_at {cs : List Cl} {G : Nat → Nat × Nat} {k : Nat} (h : k < cs.length) :
    clCell cs G (k * 6) = .int .i64 cs[k].m ∧ clCell cs G (k * 6 + 1) = .int .i64 cs[k].pc ∧ clCell cs G (k * 6 + 2) = full (G k).1 cs[k].temps.length ∧ clCell cs G (k * 6 + 3) = full (G k).2 cs[k].stack.length ∧ clCell cs G (k * 6 + 4) = .int .i64 cs[k].sender ∧ clCell cs G (k * 6 + 5) = .bool cs[k].dead := by
  have e : cs.getD k Cl.none = cs[k] := by simp [h]
  unfold clCell
  refine ⟨?_, ?_, ?_, ?_, ?_, ?_⟩
  · rw [if_pos (by omega), show k * 6 / 6 = k by omega, e]
  · rw [if_neg (by omega), if_pos (by omega), show (k * 6 + 1) / 6 = k by omega, e]
  · rw [if_neg (by omega), if_neg (by omega), if_pos (by omega), show (k * 6 + 2) / 6 = k by omega, e]
  · rw [if_neg (by omega), if_neg (by omega), if_neg (by omega), if_pos (by omega), show (k * 6 + 3) / 6 = k by omega, e]
  · rw [if_neg (by omega), if_neg (by omega), if_neg (by omega), if_neg (by omega), if_pos (by omega), show (k * 6 + 4) / 6 = k by omega, e]
  · rw [if_neg (by omega), if_neg (by omega), if_neg (by omega), if_neg (by omega), if_neg (by omega), show (k * 6 + 5) / 6 = k by omega, e]
def Lists (B : Nat) (w : World) (cs : List Cl) (G : Nat → Nat × Nat) (k : Nat) : Prop :=
  ∀ i, (hi : i < cs.length) → i < k → B < (G i).1 ∧ (G i).1 < (G i).2 ∧ (G i).2 < w.heap.size ∧ OpsAt w (full (G i).1 cs[i].temps.length) cs[i].temps ∧ OpsAt w (full (G i).2 cs[i].stack.length) cs[i].stack ∧ ∀ j, j < i → (G j).2 < (G i).1
structure NewCalls (g : Nat) (w : World) (cs : List Cl) (G : Nat → Nat × Nat) : Prop where
  row : w.rowIs g 58 (cs.length * 6) (clCell cs G)
  lists : Lists g w cs G cs.length
theorem NewCalls.below {g : Nat} {w w' : World} {cs : List Cl} {G : Nat → Nat × Nat} (h : NewCalls g w cs G) (hb : Below w.heap.size w w') : NewCalls g w' cs G :=
  ⟨row_below hb h.row, fun i hi hik => by
    obtain ⟨h1, h2, h3, h4, h5, h6⟩ := h.lists i hi hik
    exact ⟨h1, h2, Nat.lt_of_lt_of_le h3 hb.size, h4.below hb, h5.below hb, h6⟩⟩
theorem NewCalls.at {g : Nat} {w : World} {cs : List Cl} {G : Nat → Nat × Nat} (h : NewCalls g w cs G) (hl : cs.length ≤ maxLen) : CallsAt w (full g cs.length) cs := by
  refine ⟨some ⟨g, 0, none⟩, cs.length, rfl, hl, fun i hi => ?_⟩
  obtain ⟨_, _, _, h4, h5, _⟩ := h.lists i hi hi
  obtain ⟨e0, e1, e2, e3, e4, e5⟩ := clCell_at (G := G) hi
  have c0 := h.row.cell (i := i * 6) (by omega)
  have c1 := h.row.cell (i := i * 6 + 1) (by omega)
  have c2 := h.row.cell (i := i * 6 + 2) (by omega)
  have c3 := h.row.cell (i := i * 6 + 3) (by omega)
  have c4 := h.row.cell (i := i * 6 + 4) (by omega)
  have c5 := h.row.cell (i := i * 6 + 5) (by omega)
  rw [e0] at c0
  rw [e1] at c1
  rw [e2] at c2
  rw [e3] at c3
  rw [e4] at c4
  rw [e5] at c5
  refine ⟨g, 0, _, _, rfl, ?_, ?_, ?_, ?_, ?_, ?_, h4, h5⟩
  all_goals rw [Nat.zero_add]; assumption
def five (x0 x1 x2 x3 x4 : Value) : Nat → Value := fun i => if i = 0 then x0 else if i = 1 then x1 else if i = 2 then x2 else if i = 3 then x3 else x4
theorem five_new (w : World) (t : TypeId) (x0 x1 x2 x3 x4 : Value) : (w.alloc (.cells #[x0, x1, x2, x3, x4] t)).rowIs w.heap.size t 5 (five x0 x1 x2 x3 x4) :=
  ⟨_, Go.Deep.blk_alloc_new _ _, rfl, fun i hi => by match i, hi with | 0, _ => rfl | 1, _ => rfl | 2, _ => rfl | 3, _ => rfl | 4, _ => rfl⟩
theorem five_cells {w : World} {g : Nat} {t : TypeId} {x0 x1 x2 x3 x4 : Value} (h : w.rowIs g t 5 (five x0 x1 x2 x3 x4)) :
    (w.cell? ⟨g, 0, none⟩ = some x0 ∧ w.cell? ⟨g, 1, none⟩ = some x1 ∧ w.cell? ⟨g, 2, none⟩ = some x2 ∧ w.cell? ⟨g, 3, none⟩ = some x3 ∧ w.cell? ⟨g, 4, none⟩ = some x4) ∧
    (w.frozen? ⟨g, 0, none⟩ = false ∧ w.frozen? ⟨g, 1, none⟩ = false ∧ w.frozen? ⟨g, 2, none⟩ = false ∧ w.frozen? ⟨g, 3, none⟩ = false ∧ w.frozen? ⟨g, 4, none⟩ = false) :=
  ⟨⟨h.cell (i := 0) (by decide), h.cell (i := 1) (by decide), h.cell (i := 2) (by decide), h.cell (i := 3) (by decide), h.cell (i := 4) (by decide)⟩, h.frozen 0, h.frozen 1, h.frozen 2, h.frozen 3, h.frozen 4⟩
theorem five_set0 {w : World} {g : Nat} {t : TypeId} {x0 x1 x2 x3 x4 : Value} (h : w.rowIs g t 5 (five x0 x1 x2 x3 x4)) (v : Value) : (w.setCell ⟨g, 0, none⟩ v).rowIs g t 5 (five v x1 x2 x3 x4) :=
  (h.set 0 v).congr fun i hi => by match i, hi with | 0, _ => rfl | 1, _ => rfl | 2, _ => rfl | 3, _ => rfl | 4, _ => rfl
theorem five_set1 {w : World} {g : Nat} {t : TypeId} {x0 x1 x2 x3 x4 : Value} (h : w.rowIs g t 5 (five x0 x1 x2 x3 x4)) (v : Value) : (w.setCell ⟨g, 1, none⟩ v).rowIs g t 5 (five x0 v x2 x3 x4) :=
  (h.set 1 v).congr fun i hi => by match i, hi with | 0, _ => rfl | 1, _ => rfl | 2, _ => rfl | 3, _ => rfl | 4, _ => rfl
theorem five_set2 {w : World} {g : Nat} {t : TypeId} {x0 x1 x2 x3 x4 : Value} (h : w.rowIs g t 5 (five x0 x1 x2 x3 x4)) (v : Value) : (w.setCell ⟨g, 2, none⟩ v).rowIs g t 5 (five x0 x1 v x3 x4) :=
  (h.set 2 v).congr fun i hi => by match i, hi with | 0, _ => rfl | 1, _ => rfl | 2, _ => rfl | 3, _ => rfl | 4, _ => rfl
theorem five_set3 {w : World} {g : Nat} {t : TypeId} {x0 x1 x2 x3 x4 : Value} (h : w.rowIs g t 5 (five x0 x1 x2 x3 x4)) (v : Value) : (w.setCell ⟨g, 3, none⟩ v).rowIs g t 5 (five x0 x1 x2 v x4) :=
  (h.set 3 v).congr fun i hi => by match i, hi with | 0, _ => rfl | 1, _ => rfl | 2, _ => rfl | 3, _ => rfl | 4, _ => rfl
theorem five_set4 {w : World} {g : Nat} {t : TypeId} {x0 x1 x2 x3 x4 : Value} (h : w.rowIs g t 5 (five x0 x1 x2 x3 x4)) (v : Value) : (w.setCell ⟨g, 4, none⟩ v).rowIs g t 5 (five x0 x1 x2 x3 v) :=
  (h.set 4 v).congr fun i hi => by match i, hi with | 0, _ => rfl | 1, _ => rfl | 2, _ => rfl | 3, _ => rfl | 4, _ => rfl
structure NewHeap (g sb : Nat) (w : World) (h : Hp) (G : Nat → Nat × Nat) : Prop where
  c : NewCalls g w h.calls G
  sd : OpsAt w (full sb h.said.length) h.said
  gs : g < sb
  ls : ∀ i, i < h.calls.length → (G i).2 < sb
  sz : sb < w.heap.size
theorem NewHeap.below {g sb : Nat} {w w' : World} {h : Hp} {G : Nat → Nat × Nat} (k : NewHeap g sb w h G) (hb : Below w.heap.size w w') : NewHeap g sb w' h G := ⟨k.c.below hb, k.sd.below hb, k.gs, k.ls, Nat.lt_of_lt_of_le k.sz hb.size⟩
theorem NewHeap.at {g sb : Nat} {w : World} {h : Hp} {G : Nat → Nat × Nat} (k : NewHeap g sb w h G) (hl : h.calls.length ≤ maxLen) : HeapAt w (full g h.calls.length) (full sb h.said.length) h := ⟨k.c.at hl, k.sd⟩
end Go.Proofs.YtileneepajcbgaaDoor
