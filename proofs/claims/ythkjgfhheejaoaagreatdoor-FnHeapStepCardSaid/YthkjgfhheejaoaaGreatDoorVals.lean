import Derived.Test.YthkjgfhheejaoaaGreatDoorProg
import Derived.Test.YthkjgfhheejaoaaGreatDoorInts
import Derived.Deep.RegionWith
import Derived.Deep.DeepCutAuto
import Derived.Test.YthkjgfhheejaoaaGreatDoorCRow

/-
  The copies that the exact laws make: toOp, toOpS, toMethod, toMethodS, toProg answer the same operations, methods, program in new memory, and write to nothing that was there.
-/
namespace Go.Proofs.YthkjgfhheejaoaaGreatDoor
open Go.RowKit

/-- nothing from block B on is frozen -/
def NF (B : Nat) (w : World) : Prop := ∀ g o, B ≤ g → w.frozen? ⟨g, o, none⟩ = false

theorem NF.start (w : World) : NF w.heap.size w := fun g o h => by
  unfold World.frozen?
  rw [Array.getElem?_eq_none (by exact h)]
theorem NF.alloc {B : Nat} {w : World} (h : NF B w) (cs : Array Value) (t : TypeId) : NF B (w.alloc (.cells cs t)) := fun g o hg => by
  by_cases e : g = w.heap.size
  · subst e
    unfold World.frozen?
    rw [Go.Deep.blk_alloc_new]
    simp
  · by_cases hl : g < w.heap.size
    · rw [World.frozen?_of_block (a := ⟨g, o, none⟩) (Below.heap_alloc w _ g hl)]; exact h g o hg
    · unfold World.frozen?
      rw [Array.getElem?_eq_none (by show (w.alloc _).heap.size ≤ g; rw [World.size_alloc]; omega)]
theorem NF.set {B : Nat} {w : World} (h : NF B w) (p : Addr) (v : Value) : NF B (w.setCell p v) := fun g o hg => by rw [World.frozen?_setCell]; exact h g o hg
theorem NF.go {B : Nat} {w w' : World} (h : NF B w) (h' : NF w.heap.size w') (hb : Below w.heap.size w w') : NF B w' := fun g o hg => by
  by_cases hl : g < w.heap.size
  · rw [hb.frozen (p := ⟨g, o, none⟩) hl]; exact h g o hg
  · exact h' g o (by omega)
theorem NF.mono {B B' : Nat} {w : World} (h : NF B w) (hB : B ≤ B') : NF B' w := fun g o hg => h g o (by omega)

/-- methods whose operations lie behind their own row -/
def MethsHi (w : World) (v : Value) (ms : List (Int × Int × List (Int × Int))) : Prop :=
  ∃ (g cap : Nat), v = .slice (some ⟨g, 0, none⟩) ms.length cap ∧ ∀ i, i < ms.length → ∃ vo, w.cell? ⟨g, i * 3 + 2, none⟩ = some vo ∧ Own (g + 1) vo

theorem MethsHi.set {w : World} {v : Value} {ms : List (Int × Int × List (Int × Int))} {B : Nat} (h : MethsHi w v ms) (hB : Own B v) {p : Addr} (hp : p.block < B) (u : Value) : MethsHi (w.setCell p u) v ms := by
  obtain ⟨g, cap, rfl, hc⟩ := h
  obtain ⟨g', _, _, e, hg⟩ := hB
  obtain rfl : g = g' := by injection e with e; injection e with e; injection e
  refine ⟨g, cap, rfl, fun i hi => ?_⟩
  obtain ⟨vo, h1, h2⟩ := hc i hi
  exact ⟨vo, by rw [World.cell?_setCell_other _ _ _ _ (fun e => by have := congrArg Addr.block e; simp at this; omega)]; exact h1, h2⟩

theorem Tryz.infoOp : (Tryz.prog.info? 41).map (fun i => (i.zero, i.size, i.bytes)) = some (some (.agg #[.int .i64 0, .int .i64 0]), 2, 16) := by kernel_rfl
theorem Tryz.infoMeth : (Tryz.prog.info? 51).map (fun i => (i.zero, i.size, i.bytes)) = some (some (.agg #[.int .i64 0, .int .i64 0, .slice none 0 0]), 3, 40) := by kernel_rfl

/-- what has been copied so far -/
def Copied (w wr : World) (ms : List (Int × Int × List (Int × Int))) (t : TypeId) (k : Nat) : Prop :=
  ∃ V : Nat → Value, Below w.heap.size w wr ∧ NF w.heap.size wr ∧ wr.rowIs w.heap.size t (ms.length * 3) (fun j => if j < k * 3 then methCell ms V j else methZero j) ∧ ∀ i, (hi : i < ms.length) → i < k → OpsAt wr (V i) ms[i].2.2 ∧ Own (w.heap.size + 1) (V i)

theorem copied_step {w wr w1 : World} {ms : List (Int × Int × List (Int × Int))} {t : TypeId} {k : Nat} (hk : k < ms.length) (h : Copied w wr ms t k) (hb : Below wr.heap.size wr w1) {v : Value} (hv : OpsAt w1 v ms[k].2.2) (ho : Own wr.heap.size v) (hnf1 : NF wr.heap.size w1) :
    Copied w (((w1.setCell ⟨w.heap.size, k * 3, none⟩ (.int .i64 ms[k].1)).setCell ⟨w.heap.size, k * 3 + 1, none⟩ (.int .i64 ms[k].2.1)).setCell ⟨w.heap.size, k * 3 + 2, none⟩ v) ms t (k + 1) := by
  obtain ⟨V, hB, hnf, hrow, hV⟩ := h
  have hlt := hrow.lt
  have hrow1 := row_below hb hrow
  refine ⟨fun i => if i = k then v else V i, (((hB.trans (hb.mono (Nat.le_of_lt hlt))).setCell (Nat.le_refl _) _).setCell (Nat.le_refl _) _).setCell (Nat.le_refl _) _, (((hnf.go hnf1 hb).set _ _).set _ _).set _ _, meth_row_step hk v hrow1, fun i hi hik => ?_⟩
  by_cases e : i = k
  · subst e
    have ho' : Own (w.heap.size + 1) v := ho.mono (by omega)
    simp only [if_true]
    exact ⟨((hv.set ho' (Nat.lt_succ_self _) _).set ho' (Nat.lt_succ_self _) _).set ho' (Nat.lt_succ_self _) _, ho'⟩
  · simp only [if_neg e]
    obtain ⟨h1, h2⟩ := hV i hi (by omega)
    exact ⟨(((h1.below hb).set h2 (Nat.lt_succ_self _) _).set h2 (Nat.lt_succ_self _) _).set h2 (Nat.lt_succ_self _) _, h2⟩

end Go.Proofs.YthkjgfhheejaoaaGreatDoor

/-
  The comparisons that the exact laws make of values, calls and heaps: eqVal, eqValS, eqCall, eqCallS, eqHeap answer true where both hold the same; they write to nothing that was there.
-/
namespace Go.Proofs.YthkjgfhheejaoaaGreatDoor
open Go.RowKit

/-- the cells of a call -/
def clCells (vt vs : Value) (c : Cl) : Array Value := #[.int .i64 c.m, .int .i64 c.pc, vt, vs, .int .i64 c.sender, .bool c.dead]

end Go.Proofs.YthkjgfhheejaoaaGreatDoor

/-
  The copies that the exact laws make of values and calls: toVal, toValS, toCall answer the same in new memory, and write to nothing that was there.
-/
namespace Go.Proofs.YthkjgfhheejaoaaGreatDoor
open Go.RowKit

theorem Tryz.infoVal : (Tryz.prog.info? 43).map (fun i => (i.zero, i.size, i.bytes)) = some (some (.agg #[.int .i64 0, .int .i64 0]), 2, 16) := by kernel_rfl

/-- six cells in a row -/
def six (x0 x1 x2 x3 x4 x5 : Value) : Nat → Value := fun i => if i = 0 then x0 else if i = 1 then x1 else if i = 2 then x2 else if i = 3 then x3 else if i = 4 then x4 else x5

theorem six_new (w : World) (t : TypeId) (x0 x1 x2 x3 x4 x5 : Value) : (w.alloc (.cells #[x0, x1, x2, x3, x4, x5] t)).rowIs w.heap.size t 6 (six x0 x1 x2 x3 x4 x5) :=
  ⟨_, Go.Deep.blk_alloc_new _ _, rfl, fun i hi => by match i, hi with | 0, _ => rfl | 1, _ => rfl | 2, _ => rfl | 3, _ => rfl | 4, _ => rfl | 5, _ => rfl⟩

theorem six_cells {w : World} {g : Nat} {t : TypeId} {x0 x1 x2 x3 x4 x5 : Value} (h : w.rowIs g t 6 (six x0 x1 x2 x3 x4 x5)) :
    (w.cell? ⟨g, 0, none⟩ = some x0 ∧ w.cell? ⟨g, 1, none⟩ = some x1 ∧ w.cell? ⟨g, 2, none⟩ = some x2 ∧ w.cell? ⟨g, 3, none⟩ = some x3 ∧ w.cell? ⟨g, 4, none⟩ = some x4 ∧ w.cell? ⟨g, 5, none⟩ = some x5) ∧
    (w.frozen? ⟨g, 0, none⟩ = false ∧ w.frozen? ⟨g, 1, none⟩ = false ∧ w.frozen? ⟨g, 2, none⟩ = false ∧ w.frozen? ⟨g, 3, none⟩ = false ∧ w.frozen? ⟨g, 4, none⟩ = false ∧ w.frozen? ⟨g, 5, none⟩ = false) :=
  ⟨⟨h.cell (i := 0) (by decide), h.cell (i := 1) (by decide), h.cell (i := 2) (by decide), h.cell (i := 3) (by decide), h.cell (i := 4) (by decide), h.cell (i := 5) (by decide)⟩, h.frozen 0, h.frozen 1, h.frozen 2, h.frozen 3, h.frozen 4, h.frozen 5⟩

theorem six_set2 {w : World} {g : Nat} {t : TypeId} {x0 x1 x2 x3 x4 x5 : Value} (h : w.rowIs g t 6 (six x0 x1 x2 x3 x4 x5)) (v : Value) : (w.setCell ⟨g, 2, none⟩ v).rowIs g t 6 (six x0 x1 v x3 x4 x5) :=
  (h.set 2 v).congr fun i hi => by match i, hi with | 0, _ => rfl | 1, _ => rfl | 2, _ => rfl | 3, _ => rfl | 4, _ => rfl | 5, _ => rfl
theorem six_set0 {w : World} {g : Nat} {t : TypeId} {x0 x1 x2 x3 x4 x5 : Value} (h : w.rowIs g t 6 (six x0 x1 x2 x3 x4 x5)) (v : Value) : (w.setCell ⟨g, 0, none⟩ v).rowIs g t 6 (six v x1 x2 x3 x4 x5) :=
  (h.set 0 v).congr fun i hi => by match i, hi with | 0, _ => rfl | 1, _ => rfl | 2, _ => rfl | 3, _ => rfl | 4, _ => rfl | 5, _ => rfl
theorem six_set1 {w : World} {g : Nat} {t : TypeId} {x0 x1 x2 x3 x4 x5 : Value} (h : w.rowIs g t 6 (six x0 x1 x2 x3 x4 x5)) (v : Value) : (w.setCell ⟨g, 1, none⟩ v).rowIs g t 6 (six x0 v x2 x3 x4 x5) :=
  (h.set 1 v).congr fun i hi => by match i, hi with | 0, _ => rfl | 1, _ => rfl | 2, _ => rfl | 3, _ => rfl | 4, _ => rfl | 5, _ => rfl
theorem six_set3 {w : World} {g : Nat} {t : TypeId} {x0 x1 x2 x3 x4 x5 : Value} (h : w.rowIs g t 6 (six x0 x1 x2 x3 x4 x5)) (v : Value) : (w.setCell ⟨g, 3, none⟩ v).rowIs g t 6 (six x0 x1 x2 v x4 x5) :=
  (h.set 3 v).congr fun i hi => by match i, hi with | 0, _ => rfl | 1, _ => rfl | 2, _ => rfl | 3, _ => rfl | 4, _ => rfl | 5, _ => rfl
theorem six_set4 {w : World} {g : Nat} {t : TypeId} {x0 x1 x2 x3 x4 x5 : Value} (h : w.rowIs g t 6 (six x0 x1 x2 x3 x4 x5)) (v : Value) : (w.setCell ⟨g, 4, none⟩ v).rowIs g t 6 (six x0 x1 x2 x3 v x5) :=
  (h.set 4 v).congr fun i hi => by match i, hi with | 0, _ => rfl | 1, _ => rfl | 2, _ => rfl | 3, _ => rfl | 4, _ => rfl | 5, _ => rfl
theorem six_set5 {w : World} {g : Nat} {t : TypeId} {x0 x1 x2 x3 x4 x5 : Value} (h : w.rowIs g t 6 (six x0 x1 x2 x3 x4 x5)) (v : Value) : (w.setCell ⟨g, 5, none⟩ v).rowIs g t 6 (six x0 x1 x2 x3 x4 v) :=
  (h.set 5 v).congr fun i hi => by match i, hi with | 0, _ => rfl | 1, _ => rfl | 2, _ => rfl | 3, _ => rfl | 4, _ => rfl | 5, _ => rfl

/-- another block is written into: a row stays -/
theorem row_set {w : World} {g k o : Nat} {t : TypeId} {n : Nat} {f : Nat → Value} (h : w.rowIs g t n f) (hk : g ≠ k) (v : Value) : (w.setCell ⟨k, o, none⟩ v).rowIs g t n f :=
  h.of_block (Below.heap_setCell _ _ _ _ hk)

end Go.Proofs.YthkjgfhheejaoaaGreatDoor

/-
  The copies that the exact laws make of rows of calls and of heaps: toCallS, toHeap answer the same in new memory, and write to nothing that was there.
-/
namespace Go.Proofs.YthkjgfhheejaoaaGreatDoor
open Go.RowKit

theorem Tryz.infoCall : (Tryz.prog.info? 48).map (fun i => (i.zero, i.size, i.bytes)) = some (some (.agg #[.int .i64 0, .int .i64 0, .slice none 0 0, .slice none 0 0, .int .i64 0, .bool false]), 6, 80) := by kernel_rfl

/-- a list of its own, full -/
abbrev full (g n : Nat) : Value := .slice (some ⟨g, 0, none⟩) n n

def Cl.none : Cl := ⟨0, 0, [], [], 0, false⟩

/-- the cells of a row of calls, G i telling the blocks of the lists of call i -/
def clCell (cs : List Cl) (G : Nat → Nat × Nat) (j : Nat) : Value :=
  if j % 6 = 0 then .int .i64 (cs.getD (j / 6) Cl.none).m else if j % 6 = 1 then .int .i64 (cs.getD (j / 6) Cl.none).pc else if j % 6 = 2 then full (G (j / 6)).1 (cs.getD (j / 6) Cl.none).temps.length
  else if j % 6 = 3 then full (G (j / 6)).2 (cs.getD (j / 6) Cl.none).stack.length else if j % 6 = 4 then .int .i64 (cs.getD (j / 6) Cl.none).sender else .bool (cs.getD (j / 6) Cl.none).dead

def clZero (j : Nat) : Value := if j % 6 = 2 ∨ j % 6 = 3 then .slice none 0 0 else if j % 6 = 5 then .bool false else .int .i64 0

theorem clCell_at {cs : List Cl} {G : Nat → Nat × Nat} {k : Nat} (h : k < cs.length) :
    clCell cs G (k * 6) = .int .i64 cs[k].m ∧ clCell cs G (k * 6 + 1) = .int .i64 cs[k].pc ∧ clCell cs G (k * 6 + 2) = full (G k).1 cs[k].temps.length ∧ clCell cs G (k * 6 + 3) = full (G k).2 cs[k].stack.length ∧ clCell cs G (k * 6 + 4) = .int .i64 cs[k].sender ∧ clCell cs G (k * 6 + 5) = .bool cs[k].dead := by
  have e : cs.getD k Cl.none = cs[k] := by simp [h]
  unfold clCell
  refine ⟨?_, ?_, ?_, ?_, ?_, ?_⟩
  · rw [if_pos (by omega), show k * 6 / 6 = k by omega, e]
  · rw [if_neg (by omega), if_pos (by omega), show (k * 6 + 1) / 6 = k by omega, e]
  · rw [if_neg (by omega), if_neg (by omega), if_pos (by omega), show (k * 6 + 2) / 6 = k by omega, e]
  · rw [if_neg (by omega), if_neg (by omega), if_neg (by omega), if_pos (by omega), show (k * 6 + 3) / 6 = k by omega, e]
  · rw [if_neg (by omega), if_neg (by omega), if_neg (by omega), if_neg (by omega), if_pos (by omega), show (k * 6 + 4) / 6 = k by omega, e]
  · rw [if_neg (by omega), if_neg (by omega), if_neg (by omega), if_neg (by omega), if_neg (by omega), show (k * 6 + 5) / 6 = k by omega, e]

theorem clCell_other {cs : List Cl} {G G' : Nat → Nat × Nat} {j : Nat} (h : G (j / 6) = G' (j / 6)) : clCell cs G j = clCell cs G' j := by
  unfold clCell
  rw [h]

theorem cl_row_start (w : World) (n : Nat) (t : TypeId) (f : Nat → Value) : (w.alloc (.cells (madeCells #[.int .i64 0, .int .i64 0, .slice none 0 0, .slice none 0 0, .int .i64 0, .bool false] n) t)).rowIs w.heap.size t n (fun j => if j < 0 * 6 then f j else clZero j) := by
  refine ⟨_, Go.Deep.blk_alloc_new _ _, size_madeCells _ _, fun i hi => ?_⟩
  have h : (i % 6 = 0) ∨ (i % 6 = 1) ∨ (i % 6 = 2) ∨ (i % 6 = 3) ∨ (i % 6 = 4) ∨ (i % 6 = 5) := by omega
  rcases h with h | h | h | h | h | h <;> simp [madeCells, hi, h, clZero]

theorem cl_row_step {w : World} {b n k : Nat} {t : TypeId} {cs : List Cl} {G : Nat → Nat × Nat} (hk : k < cs.length) (gt gs : Nat) (h : w.rowIs b t n (fun j => if j < k * 6 then clCell cs G j else clZero j)) :
    ((((((w.setCell ⟨b, k * 6, none⟩ (.int .i64 cs[k].m)).setCell ⟨b, k * 6 + 1, none⟩ (.int .i64 cs[k].pc)).setCell ⟨b, k * 6 + 2, none⟩ (full gt cs[k].temps.length)).setCell ⟨b, k * 6 + 3, none⟩ (full gs cs[k].stack.length)).setCell ⟨b, k * 6 + 4, none⟩ (.int .i64 cs[k].sender)).setCell ⟨b, k * 6 + 5, none⟩ (.bool cs[k].dead)).rowIs b t n
      (fun j => if j < (k + 1) * 6 then clCell cs (fun i => if i = k then (gt, gs) else G i) j else clZero j) := by
  refine ((((((h.set (k * 6) _).set (k * 6 + 1) _).set (k * 6 + 2) _).set (k * 6 + 3) _).set (k * 6 + 4) _).set (k * 6 + 5) _).congr fun j _ => ?_
  obtain ⟨e0, e1, e2, e3, e4, e5⟩ := clCell_at (G := fun i => if i = k then (gt, gs) else G i) hk
  simp only [if_true] at e2 e3
  by_cases h5 : j = k * 6 + 5
  · subst h5; rw [if_pos rfl, if_pos (by omega), e5]
  rw [if_neg h5]
  by_cases h4 : j = k * 6 + 4
  · subst h4; rw [if_pos rfl, if_pos (by omega), e4]
  rw [if_neg h4]
  by_cases h3 : j = k * 6 + 3
  · subst h3; rw [if_pos rfl, if_pos (by omega), e3]
  rw [if_neg h3]
  by_cases h2 : j = k * 6 + 2
  · subst h2; rw [if_pos rfl, if_pos (by omega), e2]
  rw [if_neg h2]
  by_cases h1 : j = k * 6 + 1
  · subst h1; rw [if_pos rfl, if_pos (by omega), e1]
  rw [if_neg h1]
  by_cases h0 : j = k * 6
  · subst h0; rw [if_pos rfl, if_pos (by omega), e0]
  rw [if_neg h0]
  by_cases hj : j < k * 6
  · rw [if_pos hj, if_pos (by omega)]
    exact clCell_other (by show G (j / 6) = if j / 6 = k then (gt, gs) else G (j / 6); rw [if_neg (by omega)])
  · rw [if_neg hj, if_neg (by omega)]

/-- the lists of the first k calls, each in memory of its own -/
def Lists (B : Nat) (w : World) (cs : List Cl) (G : Nat → Nat × Nat) (k : Nat) : Prop :=
  ∀ i, (hi : i < cs.length) → i < k → B < (G i).1 ∧ (G i).1 < (G i).2 ∧ (G i).2 < w.heap.size ∧ OpsAt w (full (G i).1 cs[i].temps.length) cs[i].temps ∧ OpsAt w (full (G i).2 cs[i].stack.length) cs[i].stack ∧ ∀ j, j < i → (G j).2 < (G i).1

/-- what has been copied so far -/
def CopiedC (w wr : World) (cs : List Cl) (k : Nat) : Prop :=
  ∃ G, Below w.heap.size w wr ∧ NF w.heap.size wr ∧ wr.rowIs w.heap.size 48 (cs.length * 6) (fun j => if j < k * 6 then clCell cs G j else clZero j) ∧ Lists w.heap.size wr cs G k

theorem OpsAt.setAt {w : World} {g n b o : Nat} {ops : List (Int × Int)} (h : OpsAt w (full g n) ops) (hb : b < g) (u : Value) : OpsAt (w.setCell ⟨b, o, none⟩ u) (full g n) ops :=
  h.set (B := g) ⟨g, n, n, rfl, Nat.le_refl _⟩ hb u

theorem copiedC_step {w wr w1 : World} {cs : List Cl} {k : Nat} (hk : k < cs.length) (h : CopiedC w wr cs k) (hb : Below wr.heap.size wr w1) {gt gs : Nat} (hgt : wr.heap.size ≤ gt) (hgs : gt < gs) (hgw : gs < w1.heap.size)
    (ht : OpsAt w1 (full gt cs[k].temps.length) cs[k].temps) (hs : OpsAt w1 (full gs cs[k].stack.length) cs[k].stack) (hnf1 : NF wr.heap.size w1) :
    CopiedC w ((((((w1.setCell ⟨w.heap.size, k * 6, none⟩ (.int .i64 cs[k].m)).setCell ⟨w.heap.size, k * 6 + 1, none⟩ (.int .i64 cs[k].pc)).setCell ⟨w.heap.size, k * 6 + 2, none⟩ (full gt cs[k].temps.length)).setCell ⟨w.heap.size, k * 6 + 3, none⟩ (full gs cs[k].stack.length)).setCell ⟨w.heap.size, k * 6 + 4, none⟩ (.int .i64 cs[k].sender)).setCell ⟨w.heap.size, k * 6 + 5, none⟩ (.bool cs[k].dead)) cs (k + 1) := by
  obtain ⟨G, hB, hnf, hrow, hL⟩ := h
  have hlt := hrow.lt
  have hrow1 := row_below hb hrow
  have hB1 := hB.trans (hb.mono (Nat.le_of_lt hlt))
  refine ⟨fun i => if i = k then (gt, gs) else G i, (((((hB1.setCell (Nat.le_refl _) _).setCell (Nat.le_refl _) _).setCell (Nat.le_refl _) _).setCell (Nat.le_refl _) _).setCell (Nat.le_refl _) _).setCell (Nat.le_refl _) _, ((((((hnf.go hnf1 hb).set _ _).set _ _).set _ _).set _ _).set _ _).set _ _, cl_row_step hk gt gs hrow1, fun i hi hik => ?_⟩
  have hz : ((((((w1.setCell ⟨w.heap.size, k * 6, none⟩ (.int .i64 cs[k].m)).setCell ⟨w.heap.size, k * 6 + 1, none⟩ (.int .i64 cs[k].pc)).setCell ⟨w.heap.size, k * 6 + 2, none⟩ (full gt cs[k].temps.length)).setCell ⟨w.heap.size, k * 6 + 3, none⟩ (full gs cs[k].stack.length)).setCell ⟨w.heap.size, k * 6 + 4, none⟩ (.int .i64 cs[k].sender)).setCell ⟨w.heap.size, k * 6 + 5, none⟩ (.bool cs[k].dead)).heap.size = w1.heap.size := by simp [World.setCell]
  rw [hz]
  by_cases e : i = k
  · subst e
    simp only [if_true]
    refine ⟨by omega, hgs, hgw, (((((ht.setAt (by omega) _).setAt (by omega) _).setAt (by omega) _).setAt (by omega) _).setAt (by omega) _).setAt (by omega) _, (((((hs.setAt (by omega) _).setAt (by omega) _).setAt (by omega) _).setAt (by omega) _).setAt (by omega) _).setAt (by omega) _, fun j hj => ?_⟩
    rw [if_neg (by omega)]
    have := (hL j (by omega) hj).2.2.1
    omega
  · simp only [if_neg e]
    obtain ⟨h1, h2, h3, h4, h5, h6⟩ := hL i hi (by omega)
    have hb' := hb.size
    refine ⟨h1, h2, by omega, ((((((h4.below hb).setAt (by omega) _).setAt (by omega) _).setAt (by omega) _).setAt (by omega) _).setAt (by omega) _).setAt (by omega) _, ((((((h5.below hb).setAt (by omega) _).setAt (by omega) _).setAt (by omega) _).setAt (by omega) _).setAt (by omega) _).setAt (by omega) _, fun j hj => ?_⟩
    rw [if_neg (by omega)]
    exact h6 j hj

/-- calls in memory of their own: their row at block g, their lists behind it -/
structure NewCalls (g : Nat) (w : World) (cs : List Cl) (G : Nat → Nat × Nat) : Prop where
  row : w.rowIs g 48 (cs.length * 6) (clCell cs G)
  lists : Lists g w cs G cs.length

theorem NewCalls.below {g : Nat} {w w' : World} {cs : List Cl} {G : Nat → Nat × Nat} (h : NewCalls g w cs G) (hb : Below w.heap.size w w') : NewCalls g w' cs G :=
  ⟨row_below hb h.row, fun i hi hik => by
    obtain ⟨h1, h2, h3, h4, h5, h6⟩ := h.lists i hi hik
    exact ⟨h1, h2, Nat.lt_of_lt_of_le h3 hb.size, h4.below hb, h5.below hb, h6⟩⟩

theorem NewCalls.setAt {g b o : Nat} {w : World} {cs : List Cl} {G : Nat → Nat × Nat} (h : NewCalls g w cs G) (hb : b < g) (u : Value) : NewCalls g (w.setCell ⟨b, o, none⟩ u) cs G :=
  ⟨row_set h.row (by omega) u, fun i hi hik => by
    obtain ⟨h1, h2, h3, h4, h5, h6⟩ := h.lists i hi hik
    exact ⟨h1, h2, by simpa [World.setCell] using h3, h4.setAt (by omega) u, h5.setAt (by omega) u, h6⟩⟩

theorem NewCalls.at {g : Nat} {w : World} {cs : List Cl} {G : Nat → Nat × Nat} (h : NewCalls g w cs G) (hl : cs.length ≤ maxLen) : CallsAt w (full g cs.length) cs := by
  refine ⟨some ⟨g, 0, none⟩, cs.length, rfl, hl, fun i hi => ?_⟩
  obtain ⟨_, _, _, h4, h5, _⟩ := h.lists i hi hi
  obtain ⟨e0, e1, e2, e3, e4, e5⟩ := clCell_at (G := G) hi
  have c0 := h.row.cell (i := i * 6) (by omega)
  have c1 := h.row.cell (i := i * 6 + 1) (by omega)
  have c2 := h.row.cell (i := i * 6 + 2) (by omega)
  have c3 := h.row.cell (i := i * 6 + 3) (by omega)
  have c4 := h.row.cell (i := i * 6 + 4) (by omega)
  have c5 := h.row.cell (i := i * 6 + 5) (by omega)
  rw [e0] at c0
  rw [e1] at c1
  rw [e2] at c2
  rw [e3] at c3
  rw [e4] at c4
  rw [e5] at c5
  refine ⟨g, 0, _, _, rfl, ?_, ?_, ?_, ?_, ?_, ?_, h4, h5⟩
  all_goals rw [Nat.zero_add]; assumption

/-- five cells in a row -/
def five (x0 x1 x2 x3 x4 : Value) : Nat → Value := fun i => if i = 0 then x0 else if i = 1 then x1 else if i = 2 then x2 else if i = 3 then x3 else x4

theorem five_new (w : World) (t : TypeId) (x0 x1 x2 x3 x4 : Value) : (w.alloc (.cells #[x0, x1, x2, x3, x4] t)).rowIs w.heap.size t 5 (five x0 x1 x2 x3 x4) :=
  ⟨_, Go.Deep.blk_alloc_new _ _, rfl, fun i hi => by match i, hi with | 0, _ => rfl | 1, _ => rfl | 2, _ => rfl | 3, _ => rfl | 4, _ => rfl⟩
theorem five_cells {w : World} {g : Nat} {t : TypeId} {x0 x1 x2 x3 x4 : Value} (h : w.rowIs g t 5 (five x0 x1 x2 x3 x4)) :
    (w.cell? ⟨g, 0, none⟩ = some x0 ∧ w.cell? ⟨g, 1, none⟩ = some x1 ∧ w.cell? ⟨g, 2, none⟩ = some x2 ∧ w.cell? ⟨g, 3, none⟩ = some x3 ∧ w.cell? ⟨g, 4, none⟩ = some x4) ∧
    (w.frozen? ⟨g, 0, none⟩ = false ∧ w.frozen? ⟨g, 1, none⟩ = false ∧ w.frozen? ⟨g, 2, none⟩ = false ∧ w.frozen? ⟨g, 3, none⟩ = false ∧ w.frozen? ⟨g, 4, none⟩ = false) :=
  ⟨⟨h.cell (i := 0) (by decide), h.cell (i := 1) (by decide), h.cell (i := 2) (by decide), h.cell (i := 3) (by decide), h.cell (i := 4) (by decide)⟩, h.frozen 0, h.frozen 1, h.frozen 2, h.frozen 3, h.frozen 4⟩
theorem five_set0 {w : World} {g : Nat} {t : TypeId} {x0 x1 x2 x3 x4 : Value} (h : w.rowIs g t 5 (five x0 x1 x2 x3 x4)) (v : Value) : (w.setCell ⟨g, 0, none⟩ v).rowIs g t 5 (five v x1 x2 x3 x4) :=
  (h.set 0 v).congr fun i hi => by match i, hi with | 0, _ => rfl | 1, _ => rfl | 2, _ => rfl | 3, _ => rfl | 4, _ => rfl
theorem five_set1 {w : World} {g : Nat} {t : TypeId} {x0 x1 x2 x3 x4 : Value} (h : w.rowIs g t 5 (five x0 x1 x2 x3 x4)) (v : Value) : (w.setCell ⟨g, 1, none⟩ v).rowIs g t 5 (five x0 v x2 x3 x4) :=
  (h.set 1 v).congr fun i hi => by match i, hi with | 0, _ => rfl | 1, _ => rfl | 2, _ => rfl | 3, _ => rfl | 4, _ => rfl
theorem five_set2 {w : World} {g : Nat} {t : TypeId} {x0 x1 x2 x3 x4 : Value} (h : w.rowIs g t 5 (five x0 x1 x2 x3 x4)) (v : Value) : (w.setCell ⟨g, 2, none⟩ v).rowIs g t 5 (five x0 x1 v x3 x4) :=
  (h.set 2 v).congr fun i hi => by match i, hi with | 0, _ => rfl | 1, _ => rfl | 2, _ => rfl | 3, _ => rfl | 4, _ => rfl
theorem five_set3 {w : World} {g : Nat} {t : TypeId} {x0 x1 x2 x3 x4 : Value} (h : w.rowIs g t 5 (five x0 x1 x2 x3 x4)) (v : Value) : (w.setCell ⟨g, 3, none⟩ v).rowIs g t 5 (five x0 x1 x2 v x4) :=
  (h.set 3 v).congr fun i hi => by match i, hi with | 0, _ => rfl | 1, _ => rfl | 2, _ => rfl | 3, _ => rfl | 4, _ => rfl
theorem five_set4 {w : World} {g : Nat} {t : TypeId} {x0 x1 x2 x3 x4 : Value} (h : w.rowIs g t 5 (five x0 x1 x2 x3 x4)) (v : Value) : (w.setCell ⟨g, 4, none⟩ v).rowIs g t 5 (five x0 x1 x2 x3 v) :=
  (h.set 4 v).congr fun i hi => by match i, hi with | 0, _ => rfl | 1, _ => rfl | 2, _ => rfl | 3, _ => rfl | 4, _ => rfl

/-- a heap in memory of its own: its calls' row at block g, their lists behind it, what was said at block sb, behind them all -/
structure NewHeap (g sb : Nat) (w : World) (h : Hp) (G : Nat → Nat × Nat) : Prop where
  c : NewCalls g w h.calls G
  sd : OpsAt w (full sb h.said.length) h.said
  gs : g < sb
  ls : ∀ i, i < h.calls.length → (G i).2 < sb
  sz : sb < w.heap.size

theorem NewHeap.below {g sb : Nat} {w w' : World} {h : Hp} {G : Nat → Nat × Nat} (k : NewHeap g sb w h G) (hb : Below w.heap.size w w') : NewHeap g sb w' h G := ⟨k.c.below hb, k.sd.below hb, k.gs, k.ls, Nat.lt_of_lt_of_le k.sz hb.size⟩
theorem NewHeap.setAt {g sb b o : Nat} {w : World} {h : Hp} {G : Nat → Nat × Nat} (k : NewHeap g sb w h G) (hb : b < g) (u : Value) : NewHeap g sb (w.setCell ⟨b, o, none⟩ u) h G :=
  ⟨k.c.setAt hb u, k.sd.setAt (by have := k.gs; omega) u, k.gs, k.ls, by simpa [World.setCell] using k.sz⟩
theorem NewHeap.at {g sb : Nat} {w : World} {h : Hp} {G : Nat → Nat × Nat} (k : NewHeap g sb w h G) (hl : h.calls.length ≤ maxLen) : HeapAt w (full g h.calls.length) (full sb h.said.length) h := ⟨k.c.at hl, k.sd⟩

end Go.Proofs.YthkjgfhheejaoaaGreatDoor

/-
  Rows of values of their own: values are appended to them; l11None and l11Call of the model.
-/
namespace Go.Proofs.YthkjgfhheejaoaaGreatDoor
open Go.RowKit

/-- the cells of values -/
def pcells (ops : List (Int × Int)) : List Value := ops.flatMap fun o => [.int .i64 o.1, .int .i64 o.2]

theorem pcells_append (a b : List (Int × Int)) : pcells (a ++ b) = pcells a ++ pcells b := by simp [pcells]
theorem pcells_length (a : List (Int × Int)) : (pcells a).length = a.length * 2 := by
  induction a with
  | nil => rfl
  | cons x l ih => simp [pcells] at ih ⊢; omega
theorem pcells_at (a : List (Int × Int)) : ∀ (i : Nat) (h : i < a.length), (pcells a)[i * 2]? = some (.int .i64 a[i].1) ∧ (pcells a)[i * 2 + 1]? = some (.int .i64 a[i].2) := by
  induction a with
  | nil => intro i h; exact absurd h (Nat.not_lt_zero _)
  | cons x l ih =>
    intro i h
    cases i with
    | zero => exact ⟨rfl, rfl⟩
    | succ i =>
      have := ih i (by simpa using h)
      rw [show (i + 1) * 2 = i * 2 + 2 by omega]
      exact this
theorem pcells_one (M : List (Int × Int)) : ∀ u ∈ pcells M, u.oneCell' = true := by
  intro u hu
  simp only [pcells, List.mem_flatMap] at hu
  obtain ⟨x, _, hx⟩ := hu
  simp at hx
  rcases hx with rfl | rfl <;> rfl

theorem PairRow.crow {B : Nat} {w : World} {v : Value} {ops : List (Int × Int)} (h : PairRow B w v ops) : CRow B 2 w v ops.length (pcells ops) := by
  refine ⟨pcells_length ops, ?_⟩
  rcases h with ⟨rfl, rfl⟩ | ⟨g, off, cap, rfl, hB, hg, hl, hc, hsp, hx⟩
  · exact .inl ⟨rfl, rfl⟩
  · refine .inr ⟨g, off, cap, rfl, hB, hg, hl, hc, hsp, fun i hi => ?_⟩
    rw [pcells_length] at hi
    have h2 := pcells_at ops (i / 2) (by omega)
    have h3 := hx (i / 2) (by omega)
    rcases Nat.mod_two_eq_zero_or_one i with hm | hm
    · rw [show i / 2 * 2 = i by omega] at h2
      rw [show off + i / 2 * 2 = off + i by omega] at h3
      rw [h3.1, ← h2.1, List.getElem?_eq_getElem]
    · rw [show i / 2 * 2 + 1 = i by omega] at h2
      rw [show off + i / 2 * 2 + 1 = off + i by omega] at h3
      rw [h3.2, ← h2.2, List.getElem?_eq_getElem]

theorem CRow.pair {B : Nat} {w : World} {v : Value} {n : Nat} {ops : List (Int × Int)} (hn : n = ops.length) (h : CRow B 2 w v n (pcells ops)) : PairRow B w v ops := by
  subst hn
  rcases h.2 with ⟨rfl, e⟩ | ⟨g, off, cap, rfl, hB, hg, hl, hc, hsp, hx⟩
  · exact .inl ⟨rfl, List.eq_nil_of_length_eq_zero e⟩
  · refine .inr ⟨g, off, cap, rfl, hB, hg, hl, hc, hsp, fun i hi => ?_⟩
    have h2 := pcells_at ops i hi
    have hp := pcells_length ops
    have h3 := hx (i * 2) (by omega)
    have h4 := hx (i * 2 + 1) (by omega)
    rw [← Nat.add_assoc] at h4
    rw [h3, h4, ← List.getElem?_eq_getElem, ← List.getElem?_eq_getElem, h2.1, h2.2]
    exact ⟨rfl, rfl⟩

/-- what values in memory yield to an append -/
theorem src_vals {P : Program} {tx e' : TypeId} (hk : P.underlying tx = some (.slice e')) {w : World} {v : Value} {ops : List (Int × Int)} (h : OpsAt w v ops) : Src P 2 tx v ops.length (pcells ops) w := by
  obtain ⟨a, cap, rfl, hl, hc⟩ := h
  cases a with
  | none =>
    cases ops with
    | nil => exact Src.ofNil w hk cap
    | cons x l =>
      obtain ⟨b, o, e, _⟩ := hc 0 (by simp)
      cases e
  | some ad =>
    refine Src.ofSlice w hk ad _ cap _ (pcells_length _) (fun j u hu => ?_) (pcells_one _)
    have hj : j < (pcells ops).length := by
      by_cases h : j < (pcells ops).length
      · exact h
      · rw [List.getElem?_eq_none (by omega)] at hu; cases hu
    rw [pcells_length] at hj
    obtain ⟨b, o, e, h0, h1⟩ := hc (j / 2) (by omega)
    obtain rfl : ad = ⟨b, o, none⟩ := by injection e
    rw [Addr.add_lit]
    have h2 := pcells_at ops (j / 2) (by omega)
    rcases Nat.mod_two_eq_zero_or_one j with hm | hm
    · rw [show o + j / 2 * 2 = o + j by omega] at h0
      rw [show j / 2 * 2 = j by omega] at h2
      rw [h0, ← h2.1]; exact hu
    · rw [show o + j / 2 * 2 + 1 = o + j by omega] at h1
      rw [show j / 2 * 2 + 1 = j by omega] at h2
      rw [h1, ← h2.2]; exact hu

/-- values behind values of one's own -/
theorem run_append_vals {ty : TypeId} {B : Nat} {w : World} {v xv : Value} {L M : List (Int × Int)} (hown : PairRow B w v L) (hM : OpsAt w xv M) (hL : L.length + M.length ≤ 1000000) (hB : B ≤ w.heap.size) :
    ∃ v' w', (Builtin.append_ #[27, 27] ty #[v, xv]).run Tryz.prog w = .ok v' w' ∧ PairRow B w' v' (L ++ M) ∧ w.grownBy w' v.ownBlock ∧ (v'.ownBlock = v.ownBlock ∨ v'.ownBlock = some w.heap.size) := by
  obtain ⟨i0, hi, hz0, hz1, hz2⟩ := info_parts Tryz.infoVal
  have h1 := hown.crow
  have h2 := src_vals (P := Tryz.prog) Tryz.underlying27 hM
  rw [← hz1] at h1 h2
  obtain ⟨v', w', hr, hc, hg, hb⟩ := run_append_rows (P := Tryz.prog) (ty := ty) Tryz.underlying27 hi hz0 (by rw [hz1]; rfl) (by rw [hz2]; omega) h1 xv M.length (pcells M) h2 hL hB
  refine ⟨v', w', hr, ?_, hg, hb⟩
  rw [hz1, ← pcells_append] at hc
  exact hc.pair (by simp)

/-- the same at an operation of a plain region -/
theorem append_vals {ops : Array Oper} {rest : List Oper} {o : Oper} {act : Act} {Q : Exit → Act → World → Prop} (w : World) (hgd : o.guard = none) (s x : Operand)
    (ho : o.op = .call { callee := .builtin .append, args := #[s, x], argTypes := #[27, 27] }) (B : Nat) (v xv : Value) (L M : List (Int × Int)) (hs : act.eval s = v) (hx : act.eval x = xv) (hown : PairRow B w v L) (hM : OpsAt w xv M)
    (hL : L.length + M.length ≤ 1000000) (hB : B ≤ w.heap.size)
    (h : ∀ v' w', PairRow B w' v' (L ++ M) → w.grownBy w' v.ownBlock → (v'.ownBlock = v.ownBlock ∨ v'.ownBlock = some w.heap.size) → wpList Tryz.prog ops Q rest (act.put o.dst v') w') :
    wpList Tryz.prog ops Q (o :: rest) act w := by
  obtain ⟨v', w', hr, h2, h3, h4⟩ := run_append_vals (ty := o.type) hown hM hL hB
  refine wpList_plain hgd fun K hK => ?_
  unfold Oper.wp execOp
  simp only [ho, resolve, invoke, builtin, Sem.run_bind, Sem.run_pure, Result.andThen_ok, List.map_toArray, List.map_cons, List.map_nil, hs, hx, hr]
  exact hK _ _ (h v' w' h2 h3 h4)

/-- the same at a step of a region that draws its order -/
theorem step_vals {ops : Array Oper} {o : Oper} {act : Act} {K : Act → World → Prop} {Q : Exit → Act → World → Prop} {E : Prop} (w : World) (hgd : o.guard = none) (s x : Operand)
    (ho : o.op = .call { callee := .builtin .append, args := #[s, x], argTypes := #[27, 27] }) (B : Nat) (v xv : Value) (L M : List (Int × Int)) (hs : act.eval s = v) (hx : act.eval x = xv) (hown : PairRow B w v L) (hM : OpsAt w xv M)
    (hL : L.length + M.length ≤ 1000000) (hB : B ≤ w.heap.size)
    (h : ∀ v' w', PairRow B w' v' (L ++ M) → w.grownBy w' v.ownBlock → (v'.ownBlock = v.ownBlock ∨ v'.ownBlock = some w.heap.size) → K (act.put o.dst v') w') :
    if Region.wanted o (yielded ops act.tmps) = true then Oper.wp Tryz.prog o act w K Q else E := by
  obtain ⟨v', w', hr, h2, h3, h4⟩ := run_append_vals (ty := o.type) hown hM hL hB
  rw [if_pos (by simp [Region.wanted, hgd])]
  unfold Oper.wp execOp
  simp only [ho, resolve, invoke, builtin, Sem.run_bind, Sem.run_pure, Result.andThen_ok, List.map_toArray, List.map_cons, List.map_nil, hs, hx, hr]
  exact h v' w' h2 h3 h4

theorem PairRow.made {B : Nat} {w : World} {e : TypeId} (hB : B ≤ w.heap.size) : PairRow B (w.alloc (.cells #[] e)) (.slice (some ⟨w.heap.size, 0, none⟩) 0 0) [] := (CRow.made hB).pair rfl

theorem one_at (w : World) (k q : Int) (e : TypeId) (c : Nat) : OpsAt (w.alloc (.cells #[.int .i64 k, .int .i64 q] e)) (.slice (some ⟨w.heap.size, 0, none⟩) 1 c) [(k, q)] :=
  ⟨_, c, rfl, by unfold maxLen; simp, fun i hi => by
    obtain rfl : i = 0 := by simpa using hi
    exact ⟨w.heap.size, 0, rfl, by simp [go_sem], by simp [go_sem]⟩⟩

set_option maxRecDepth 100000 in
set_option maxHeartbeats 1000000 in
theorem l11None_any (n : Nat) (w : World) (hn : n ≤ 1000) :
    Calls Tryz.prog 82 #[.int .i64 (n : Int)] w fun e w' => ∃ v, e = .returned v ∧ PairRow w.heap.size w' v (List.replicate n (0, 0)) ∧ Below w.heap.size w w' := by
  have mk := PairRow.made (B := w.heap.size) (w := w) (e := 43) (Nat.le_refl _)
  have hA : Below w.heap.size w (w.alloc (.cells #[] 43)) := (Below.refl _ _).alloc (Nat.le_refl _) _
  go_enter Tryz.func82, Tryz.ntmps82
  go_wp2
  go_loopg [3, 4] n (fun g o i wr => ∃ k : Nat, k ≤ n ∧ g = n - k ∧ i = .int .i64 k ∧ PairRow w.heap.size wr o (List.replicate k (0, 0)) ∧ Below w.heap.size w wr)
  case atStart => exact ⟨0, Nat.zero_le _, rfl, rfl, mk, hA⟩
  case round =>
    obtain ⟨k, hk, rfl, rfl, hrow, hb⟩ := hrel
    have hbz := hb.size
    by_cases hlt : k < n
    · have hkz : (k : Int) < (n : Int) := by omega
      go_wp2_with (at_builtin; refine append_vals _ (by rfl) _ _ (by rfl) w.heap.size _ _ (List.replicate k (0, 0)) [(0, 0)] (by rfl) (by rfl) (hrow.below ((Below.refl _ _).alloc (Nat.le_refl _) _)) (one_at wr 0 0 _ _) (by simp; omega) (by simp; omega) ?_; intro v2 w2 hrow2 hg2 hb2)
      rw [← List.replicate_succ'] at hrow2
      have hb3 : Below w.heap.size w w2 := (hb.alloc hb.size _).grown hg2 (by simp; omega) (fun q e => (hrow.lt q e).1)
      clear hg2 hb2
      go_roundg (n - (k + 1))
      case measure => omega
      case rel => exact ⟨k + 1, by omega, rfl, by go_num, hrow2, hb3⟩
    · obtain rfl : k = n := by omega
      go_wp2
      go_ret
      exact ⟨_, rfl, hrow, hb⟩

set_option maxRecDepth 100000 in
set_option maxHeartbeats 1000000 in
theorem l11Call_any (vp va : Value) (ms : List (Int × Int × List (Int × Int))) (m : Nat) (args : List (Int × Int)) (sender : Int) (t : Nat) (w : World) (hp : MethsAt w vp ms) (hm : m < ms.length) (ht : ms[m].2.1 = (t : Int)) (ht4 : t ≤ 1000) (ha : OpsAt w va args) (hat : args.length ≤ t) :
    Calls Tryz.prog 68 #[.agg #[vp], .int .i64 (m : Int), va, .int .i64 sender] w fun e w' => ∃ vt vs, e = .returned (.agg (clCells vt vs ⟨m, 0, args ++ List.replicate (t - args.length) (0, 0), [], sender, false⟩)) ∧
      PairRow w.heap.size w' vt (args ++ List.replicate (t - args.length) (0, 0)) ∧ PairRow w.heap.size w' vs [] ∧ (∀ g, vt.ownBlock = some g → vs.ownBlock ≠ some g) ∧ Below w.heap.size w w' := by
  obtain ⟨ap, cp, rfl, hl, hc⟩ := id hp
  obtain ⟨aa, ca, hva⟩ := ha.shape
  subst hva
  obtain ⟨b, o, vo, hap, d0, d1, d2, _⟩ := hc m hm
  subst hap
  rw [ht] at d1
  unfold clCells
  have hl63 : ms.length ≤ 2 ^ 63 - 1 := hl
  have hA : Below w.heap.size w (((w.alloc (.cells #[.slice (some ⟨b, o, none⟩) ms.length cp] 25)).alloc (.cells #[.int .i64 0, .int .i64 0, .slice none 0 0, .slice none 0 0, .int .i64 0, .bool false] 48)).alloc (.cells #[] 43)) := (((Below.refl _ _).alloc (Nat.le_refl _) _).alloc (by simp) _).alloc (by simp; omega) _
  have mk := PairRow.made (B := w.heap.size) (w := (w.alloc (.cells #[.slice (some ⟨b, o, none⟩) ms.length cp] 25)).alloc (.cells #[.int .i64 0, .int .i64 0, .slice none 0 0, .slice none 0 0, .int .i64 0, .bool false] 48)) (e := 43) (by simp; omega)
  have bp : (((w.alloc (.cells #[.slice (some ⟨b, o, none⟩) ms.length cp] 25)).alloc (.cells #[.int .i64 0, .int .i64 0, .slice none 0 0, .slice none 0 0, .int .i64 0, .bool false] 48)).alloc (.cells #[] 43)).cell? ⟨w.heap.size, 0, none⟩ = some (.slice (some ⟨b, o, none⟩) ms.length cp) := by simp [go_sem]
  have bz := (six_new (w.alloc (.cells #[.slice (some ⟨b, o, none⟩) ms.length cp] 25)) 48 (.int .i64 0) (.int .i64 0) (.slice none 0 0) (.slice none 0 0) (.int .i64 0) (.bool false)).alloc (.cells #[] 43)
  simp only [World.size_alloc] at mk bz
  have hs3 : (((w.alloc (.cells #[.slice (some ⟨b, o, none⟩) ms.length cp] 25)).alloc (.cells #[.int .i64 0, .int .i64 0, .slice none 0 0, .slice none 0 0, .int .i64 0, .bool false] 48)).alloc (.cells #[] 43)).heap.size ≥ w.heap.size + 1 + 1 := by simp
  have haA := ha.below hA
  have d1A := cell_below hA d1
  have hw : IntKind.i64.wrap ((t : Int) - (args.length : Int)) = ((t - args.length : Nat) : Int) := by rw [IntKind.wrap_i64]; omega
  go_enter Tryz.func68, Tryz.ntmps68
  go_upto_region 2 with (at_builtin; refine append_vals _ (by rfl) _ _ (by rfl) w.heap.size _ _ [] args (by rfl) (by rfl) mk haA (by simp; omega) (by simp; omega) ?_; intro v2 w2 hrow2 hg2 hb2)
  generalize ((w.alloc (.cells #[.slice (some ⟨b, o, none⟩) ms.length cp] 25)).alloc (.cells #[.int .i64 0, .int .i64 0, .slice none 0 0, .slice none 0 0, .int .i64 0, .bool false] 48)).alloc (.cells #[] 43) = W3 at *
  have B2 : Below w.heap.size w w2 := hA.grown hg2 (by omega) (fun q e => (mk.lt q e).1)
  have hg2' : W3.grownBy w2 (some (w.heap.size + 1 + 1)) := hg2
  have bp2 : w2.cell? ⟨w.heap.size, 0, none⟩ = some (.slice (some ⟨b, o, none⟩) ms.length cp) := hg2'.cell bp (by simp; omega)
  have bz2 := bz.of_block (hg2'.block (w.heap.size + 1) bz.lt (by simp))
  have d12 := cell_below B2 d1
  rw [List.nil_append] at hrow2
  have z2 := B2.size
  have hbb : ∀ g, v2.ownBlock = some g → w.heap.size + 1 < g := fun g e => by
    rcases hb2 with h2 | h2
    · rw [h2] at e; simp [Value.ownBlock] at e; omega
    · rw [h2] at e; simp at e; omega
  clear hg2 hg2' hb2 bp bz mk haA d1A hA hs3 d0 d1 d2 hc
  go_wp2_with fail
  refine (l11None_any (t - args.length) _ (by omega)).mono ?_
  rintro e w3 ⟨v3, rfl, hrow3, hb3⟩
  have B3 : Below w.heap.size w w3 := B2.trans (hb3.mono z2)
  have z3 := B3.size
  have bz3 := row_below hb3 bz2
  have hrow23 := hrow2.below hb3
  have hbz : w.heap.size + 1 < w2.heap.size := bz2.lt
  have y3 := hb3.size
  clear bp2 bz2 d12 hrow2 hb3 B2
  have HW4 : ∀ (w4 : World), w3.grownBy w4 v2.ownBlock → ∀ e, (w4.alloc e).rowIs (w.heap.size + 1) 48 6 (six (.int .i64 0) (.int .i64 0) (.slice none 0 0) (.slice none 0 0) (.int .i64 0) (.bool false)) := fun w4 hg e => by
    have h1 := bz3.of_block (hg.block (w.heap.size + 1) bz3.lt (fun e => by have := hbb _ e.symm; omega))
    exact h1.alloc e
  go_wp2_with (at_builtin; refine append_vals _ (by rfl) _ _ (by rfl) w.heap.size _ _ args (List.replicate (t - args.length) (0, 0)) (by rfl) (by rfl) hrow23 hrow3.at (by simp; omega) (by omega) ?_; intro v4 w4 hrow4 hg4 hb4; obtain ⟨a4, c4, hv4, _⟩ := hrow4.slice; subst hv4; obtain ⟨⟨q0, q1, q2, q3, q4, q5⟩, k0, k1, k2, k3, k4, k5⟩ := six_cells (HW4 w4 hg4 (.cells #[] 43)))
  have hlen : (args ++ List.replicate (t - args.length) ((0 : Int), (0 : Int))).length = t := by simp; omega
  rw [hlen] at hrow4 hb4
  have hz4 := hg4.size
  have hne4 : (Value.slice a4 t c4).ownBlock ≠ some (w.heap.size + 1) := fun e => by
    rcases hb4 with h4 | h4
    · rw [h4] at e; have := hbb _ e; omega
    · rw [h4] at e; simp at e; omega
  have B4 : Below w.heap.size w w4 := B3.grown hg4 z3 (fun q e => (hrow23.lt q e).1)
  have R4 := HW4 w4 hg4 (.cells #[] 43)
  have P4 := hrow4.below ((Below.refl _ _).alloc (Nat.le_refl _) (.cells #[] 43))
  have M4 := PairRow.made (B := w.heap.size) (w := w4) (e := 43) (by omega)
  have hlt4 : ∀ g, (Value.slice a4 t c4).ownBlock = some g → g < w4.heap.size := fun g e => (hrow4.lt g e).2
  have B5 := B4.alloc B4.size (.cells #[] 43)
  have hneM : (Value.slice (some ⟨w4.heap.size, 0, none⟩) 0 0).ownBlock ≠ some (w.heap.size + 1) := fun e => by simp [Value.ownBlock] at e; omega
  clear hg4 hb4 hrow4 HW4 q0 q1 q2 q3 q4 q5 k0 k1 k2 k3 k4 k5
  generalize w4.alloc (.cells #[] 43) = w5 at *
  have R9 := six_set5 (six_set4 (six_set3 (six_set2 (six_set1 (six_set0 R4 (.int .i64 m)) (.int .i64 0)) (.slice a4 t c4)) (.slice (some ⟨w4.heap.size, 0, none⟩) 0 0)) (.int .i64 sender)) (.bool false)
  have P9 := (((((P4.set_other (p := ⟨w.heap.size + 1, 0, none⟩) (.int .i64 m) hne4).set_other (p := ⟨w.heap.size + 1, 1, none⟩) (.int .i64 0) hne4).set_other (p := ⟨w.heap.size + 1, 2, none⟩) (.slice a4 t c4) hne4).set_other (p := ⟨w.heap.size + 1, 3, none⟩) (.slice (some ⟨w4.heap.size, 0, none⟩) 0 0) hne4).set_other (p := ⟨w.heap.size + 1, 4, none⟩) (.int .i64 sender) hne4).set_other (p := ⟨w.heap.size + 1, 5, none⟩) (.bool false) hne4
  have M9 := (((((M4.set_other (p := ⟨w.heap.size + 1, 0, none⟩) (.int .i64 m) hneM).set_other (p := ⟨w.heap.size + 1, 1, none⟩) (.int .i64 0) hneM).set_other (p := ⟨w.heap.size + 1, 2, none⟩) (.slice a4 t c4) hneM).set_other (p := ⟨w.heap.size + 1, 3, none⟩) (.slice (some ⟨w4.heap.size, 0, none⟩) 0 0) hneM).set_other (p := ⟨w.heap.size + 1, 4, none⟩) (.int .i64 sender) hneM).set_other (p := ⟨w.heap.size + 1, 5, none⟩) (.bool false) hneM
  have B9 := (((((B5.setCell (p := ⟨w.heap.size + 1, 0, none⟩) (Nat.le_succ _) (.int .i64 m)).setCell (p := ⟨w.heap.size + 1, 1, none⟩) (Nat.le_succ _) (.int .i64 0)).setCell (p := ⟨w.heap.size + 1, 2, none⟩) (Nat.le_succ _) (.slice a4 t c4)).setCell (p := ⟨w.heap.size + 1, 3, none⟩) (Nat.le_succ _) (.slice (some ⟨w4.heap.size, 0, none⟩) 0 0)).setCell (p := ⟨w.heap.size + 1, 4, none⟩) (Nat.le_succ _) (.int .i64 sender)).setCell (p := ⟨w.heap.size + 1, 5, none⟩) (Nat.le_succ _) (.bool false)
  generalize (((((w5.setCell ⟨w.heap.size + 1, 0, none⟩ (.int .i64 m)).setCell ⟨w.heap.size + 1, 1, none⟩ (.int .i64 0)).setCell ⟨w.heap.size + 1, 2, none⟩ (.slice a4 t c4)).setCell ⟨w.heap.size + 1, 3, none⟩ (.slice (some ⟨w4.heap.size, 0, none⟩) 0 0)).setCell ⟨w.heap.size + 1, 4, none⟩ (.int .i64 sender)).setCell ⟨w.heap.size + 1, 5, none⟩ (.bool false) = W9 at *
  obtain ⟨⟨q0, q1, q2, q3, q4, q5⟩, _⟩ := six_cells R9
  exact bodyPost_ret (v := .agg #[.int .i64 m, .int .i64 0, .slice a4 t c4, .slice (some ⟨w4.heap.size, 0, none⟩) 0 0, .int .i64 sender, .bool false]) (by simp [results, Tryz.results68, go_sem, q0, q1, q2, q3, q4, q5]) rfl ⟨_, _, rfl, P9, M9, fun g e e2 => by have := hlt4 g e; simp [Value.ownBlock] at e2; omega, B9⟩

end Go.Proofs.YthkjgfhheejaoaaGreatDoor
