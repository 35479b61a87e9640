/-
  The copies that the exact laws make of rows of calls and of heaps: toCallS, toHeap answer the same in new memory, and write to nothing that was there.
-/
import Derived.Test.YtldiccheboipeaaHCopy
namespace Go.Proofs.Ytldiccheboipeaa
open Go.RowKit

theorem Try.infoCall : (Try.prog.info? 88).map (fun i => (i.zero, i.size, i.bytes)) = some (some (.agg #[.int .i64 0, .int .i64 0, .slice none 0 0, .slice none 0 0, .int .i64 0, .bool false]), 6, 80) := by kernel_rfl

/-- a list of its own, full -/
abbrev full (g n : Nat) : Value := .slice (some ⟨g, 0, none⟩) n n

def Cl.none : Cl := ⟨0, 0, [], [], 0, false⟩

/-- the cells of a row of calls, G i telling the blocks of the lists of call i -/
def clCell (cs : List Cl) (G : Nat → Nat × Nat) (j : Nat) : Value :=
  if j % 6 = 0 then .int .i64 (cs.getD (j / 6) Cl.none).m else if j % 6 = 1 then .int .i64 (cs.getD (j / 6) Cl.none).pc else if j % 6 = 2 then full (G (j / 6)).1 (cs.getD (j / 6) Cl.none).temps.length
  else if j % 6 = 3 then full (G (j / 6)).2 (cs.getD (j / 6) Cl.none).stack.length else if j % 6 = 4 then .int .i64 (cs.getD (j / 6) Cl.none).sender else .bool (cs.getD (j / 6) Cl.none).dead

def clZero (j : Nat) : Value := if j % 6 = 2 ∨ j % 6 = 3 then .slice none 0 0 else if j % 6 = 5 then .bool false else .int .i64 0

theorem clCell_at {cs : List Cl} {G : Nat → Nat × Nat} {k : Nat} (h : k < cs.length) :
    clCell cs G (k * 6) = .int .i64 cs[k].m ∧ clCell cs G (k * 6 + 1) = .int .i64 cs[k].pc ∧ clCell cs G (k * 6 + 2) = full (G k).1 cs[k].temps.length ∧ clCell cs G (k * 6 + 3) = full (G k).2 cs[k].stack.length ∧ clCell cs G (k * 6 + 4) = .int .i64 cs[k].sender ∧ clCell cs G (k * 6 + 5) = .bool cs[k].dead := by
  have e : cs.getD k Cl.none = cs[k] := by simp [h]
  unfold clCell
  refine ⟨?_, ?_, ?_, ?_, ?_, ?_⟩
  · rw [if_pos (by omega), show k * 6 / 6 = k by omega, e]
  · rw [if_neg (by omega), if_pos (by omega), show (k * 6 + 1) / 6 = k by omega, e]
  · rw [if_neg (by omega), if_neg (by omega), if_pos (by omega), show (k * 6 + 2) / 6 = k by omega, e]
  · rw [if_neg (by omega), if_neg (by omega), if_neg (by omega), if_pos (by omega), show (k * 6 + 3) / 6 = k by omega, e]
  · rw [if_neg (by omega), if_neg (by omega), if_neg (by omega), if_neg (by omega), if_pos (by omega), show (k * 6 + 4) / 6 = k by omega, e]
  · rw [if_neg (by omega), if_neg (by omega), if_neg (by omega), if_neg (by omega), if_neg (by omega), show (k * 6 + 5) / 6 = k by omega, e]

theorem clCell_other {cs : List Cl} {G G' : Nat → Nat × Nat} {j : Nat} (h : G (j / 6) = G' (j / 6)) : clCell cs G j = clCell cs G' j := by
  unfold clCell
  rw [h]

theorem cl_row_start (w : World) (n : Nat) (t : TypeId) (f : Nat → Value) : (w.alloc (.cells (madeCells #[.int .i64 0, .int .i64 0, .slice none 0 0, .slice none 0 0, .int .i64 0, .bool false] n) t)).rowIs w.heap.size t n (fun j => if j < 0 * 6 then f j else clZero j) := by
  refine ⟨_, Go.Deep.blk_alloc_new _ _, size_madeCells _ _, fun i hi => ?_⟩
  have h : (i % 6 = 0) ∨ (i % 6 = 1) ∨ (i % 6 = 2) ∨ (i % 6 = 3) ∨ (i % 6 = 4) ∨ (i % 6 = 5) := by omega
  rcases h with h | h | h | h | h | h <;> simp [madeCells, hi, h, clZero]

theorem cl_row_step {w : World} {b n k : Nat} {t : TypeId} {cs : List Cl} {G : Nat → Nat × Nat} (hk : k < cs.length) (gt gs : Nat) (h : w.rowIs b t n (fun j => if j < k * 6 then clCell cs G j else clZero j)) :
    ((((((w.setCell ⟨b, k * 6, none⟩ (.int .i64 cs[k].m)).setCell ⟨b, k * 6 + 1, none⟩ (.int .i64 cs[k].pc)).setCell ⟨b, k * 6 + 2, none⟩ (full gt cs[k].temps.length)).setCell ⟨b, k * 6 + 3, none⟩ (full gs cs[k].stack.length)).setCell ⟨b, k * 6 + 4, none⟩ (.int .i64 cs[k].sender)).setCell ⟨b, k * 6 + 5, none⟩ (.bool cs[k].dead)).rowIs b t n
      (fun j => if j < (k + 1) * 6 then clCell cs (fun i => if i = k then (gt, gs) else G i) j else clZero j) := by
  refine ((((((h.set (k * 6) _).set (k * 6 + 1) _).set (k * 6 + 2) _).set (k * 6 + 3) _).set (k * 6 + 4) _).set (k * 6 + 5) _).congr fun j _ => ?_
  obtain ⟨e0, e1, e2, e3, e4, e5⟩ := clCell_at (G := fun i => if i = k then (gt, gs) else G i) hk
  simp only [if_true] at e2 e3
  by_cases h5 : j = k * 6 + 5
  · subst h5; rw [if_pos rfl, if_pos (by omega), e5]
  rw [if_neg h5]
  by_cases h4 : j = k * 6 + 4
  · subst h4; rw [if_pos rfl, if_pos (by omega), e4]
  rw [if_neg h4]
  by_cases h3 : j = k * 6 + 3
  · subst h3; rw [if_pos rfl, if_pos (by omega), e3]
  rw [if_neg h3]
  by_cases h2 : j = k * 6 + 2
  · subst h2; rw [if_pos rfl, if_pos (by omega), e2]
  rw [if_neg h2]
  by_cases h1 : j = k * 6 + 1
  · subst h1; rw [if_pos rfl, if_pos (by omega), e1]
  rw [if_neg h1]
  by_cases h0 : j = k * 6
  · subst h0; rw [if_pos rfl, if_pos (by omega), e0]
  rw [if_neg h0]
  by_cases hj : j < k * 6
  · rw [if_pos hj, if_pos (by omega)]
    exact clCell_other (by show G (j / 6) = if j / 6 = k then (gt, gs) else G (j / 6); rw [if_neg (by omega)])
  · rw [if_neg hj, if_neg (by omega)]

/-- the lists of the first k calls, each in memory of its own -/
def Lists (B : Nat) (w : World) (cs : List Cl) (G : Nat → Nat × Nat) (k : Nat) : Prop :=
  ∀ i, (hi : i < cs.length) → i < k → B < (G i).1 ∧ (G i).1 < (G i).2 ∧ (G i).2 < w.heap.size ∧ OpsAt w (full (G i).1 cs[i].temps.length) cs[i].temps ∧ OpsAt w (full (G i).2 cs[i].stack.length) cs[i].stack ∧ ∀ j, j < i → (G j).2 < (G i).1

/-- what has been copied so far -/
def CopiedC (w wr : World) (cs : List Cl) (k : Nat) : Prop :=
  ∃ G, Below w.heap.size w wr ∧ NF w.heap.size wr ∧ wr.rowIs w.heap.size 88 (cs.length * 6) (fun j => if j < k * 6 then clCell cs G j else clZero j) ∧ Lists w.heap.size wr cs G k

theorem OpsAt.setAt {w : World} {g n b o : Nat} {ops : List (Int × Int)} (h : OpsAt w (full g n) ops) (hb : b < g) (u : Value) : OpsAt (w.setCell ⟨b, o, none⟩ u) (full g n) ops :=
  h.set (B := g) ⟨g, n, n, rfl, Nat.le_refl _⟩ hb u

theorem copiedC_step {w wr w1 : World} {cs : List Cl} {k : Nat} (hk : k < cs.length) (h : CopiedC w wr cs k) (hb : Below wr.heap.size wr w1) {gt gs : Nat} (hgt : wr.heap.size ≤ gt) (hgs : gt < gs) (hgw : gs < w1.heap.size)
    (ht : OpsAt w1 (full gt cs[k].temps.length) cs[k].temps) (hs : OpsAt w1 (full gs cs[k].stack.length) cs[k].stack) (hnf1 : NF wr.heap.size w1) :
    CopiedC w ((((((w1.setCell ⟨w.heap.size, k * 6, none⟩ (.int .i64 cs[k].m)).setCell ⟨w.heap.size, k * 6 + 1, none⟩ (.int .i64 cs[k].pc)).setCell ⟨w.heap.size, k * 6 + 2, none⟩ (full gt cs[k].temps.length)).setCell ⟨w.heap.size, k * 6 + 3, none⟩ (full gs cs[k].stack.length)).setCell ⟨w.heap.size, k * 6 + 4, none⟩ (.int .i64 cs[k].sender)).setCell ⟨w.heap.size, k * 6 + 5, none⟩ (.bool cs[k].dead)) cs (k + 1) := by
  obtain ⟨G, hB, hnf, hrow, hL⟩ := h
  have hlt := hrow.lt
  have hrow1 := row_below hb hrow
  have hB1 := hB.trans (hb.mono (Nat.le_of_lt hlt))
  refine ⟨fun i => if i = k then (gt, gs) else G i, (((((hB1.setCell (Nat.le_refl _) _).setCell (Nat.le_refl _) _).setCell (Nat.le_refl _) _).setCell (Nat.le_refl _) _).setCell (Nat.le_refl _) _).setCell (Nat.le_refl _) _, ((((((hnf.go hnf1 hb).set _ _).set _ _).set _ _).set _ _).set _ _).set _ _, cl_row_step hk gt gs hrow1, fun i hi hik => ?_⟩
  have hz : ((((((w1.setCell ⟨w.heap.size, k * 6, none⟩ (.int .i64 cs[k].m)).setCell ⟨w.heap.size, k * 6 + 1, none⟩ (.int .i64 cs[k].pc)).setCell ⟨w.heap.size, k * 6 + 2, none⟩ (full gt cs[k].temps.length)).setCell ⟨w.heap.size, k * 6 + 3, none⟩ (full gs cs[k].stack.length)).setCell ⟨w.heap.size, k * 6 + 4, none⟩ (.int .i64 cs[k].sender)).setCell ⟨w.heap.size, k * 6 + 5, none⟩ (.bool cs[k].dead)).heap.size = w1.heap.size := by simp [World.setCell]
  rw [hz]
  by_cases e : i = k
  · subst e
    simp only [if_true]
    refine ⟨by omega, hgs, hgw, (((((ht.setAt (by omega) _).setAt (by omega) _).setAt (by omega) _).setAt (by omega) _).setAt (by omega) _).setAt (by omega) _, (((((hs.setAt (by omega) _).setAt (by omega) _).setAt (by omega) _).setAt (by omega) _).setAt (by omega) _).setAt (by omega) _, fun j hj => ?_⟩
    rw [if_neg (by omega)]
    have := (hL j (by omega) hj).2.2.1
    omega
  · simp only [if_neg e]
    obtain ⟨h1, h2, h3, h4, h5, h6⟩ := hL i hi (by omega)
    have hb' := hb.size
    refine ⟨h1, h2, by omega, ((((((h4.below hb).setAt (by omega) _).setAt (by omega) _).setAt (by omega) _).setAt (by omega) _).setAt (by omega) _).setAt (by omega) _, ((((((h5.below hb).setAt (by omega) _).setAt (by omega) _).setAt (by omega) _).setAt (by omega) _).setAt (by omega) _).setAt (by omega) _, fun j hj => ?_⟩
    rw [if_neg (by omega)]
    exact h6 j hj

/-- calls in memory of their own: their row at block g, their lists behind it -/
structure NewCalls (g : Nat) (w : World) (cs : List Cl) (G : Nat → Nat × Nat) : Prop where
  row : w.rowIs g 88 (cs.length * 6) (clCell cs G)
  lists : Lists g w cs G cs.length

theorem NewCalls.below {g : Nat} {w w' : World} {cs : List Cl} {G : Nat → Nat × Nat} (h : NewCalls g w cs G) (hb : Below w.heap.size w w') : NewCalls g w' cs G :=
  ⟨row_below hb h.row, fun i hi hik => by
    obtain ⟨h1, h2, h3, h4, h5, h6⟩ := h.lists i hi hik
    exact ⟨h1, h2, Nat.lt_of_lt_of_le h3 hb.size, h4.below hb, h5.below hb, h6⟩⟩

theorem NewCalls.setAt {g b o : Nat} {w : World} {cs : List Cl} {G : Nat → Nat × Nat} (h : NewCalls g w cs G) (hb : b < g) (u : Value) : NewCalls g (w.setCell ⟨b, o, none⟩ u) cs G :=
  ⟨row_set h.row (by omega) u, fun i hi hik => by
    obtain ⟨h1, h2, h3, h4, h5, h6⟩ := h.lists i hi hik
    exact ⟨h1, h2, by simpa [World.setCell] using h3, h4.setAt (by omega) u, h5.setAt (by omega) u, h6⟩⟩

theorem NewCalls.at {g : Nat} {w : World} {cs : List Cl} {G : Nat → Nat × Nat} (h : NewCalls g w cs G) (hl : cs.length ≤ maxLen) : CallsAt w (full g cs.length) cs := by
  refine ⟨some ⟨g, 0, none⟩, cs.length, rfl, hl, fun i hi => ?_⟩
  obtain ⟨_, _, _, h4, h5, _⟩ := h.lists i hi hi
  obtain ⟨e0, e1, e2, e3, e4, e5⟩ := clCell_at (G := G) hi
  have c0 := h.row.cell (i := i * 6) (by omega)
  have c1 := h.row.cell (i := i * 6 + 1) (by omega)
  have c2 := h.row.cell (i := i * 6 + 2) (by omega)
  have c3 := h.row.cell (i := i * 6 + 3) (by omega)
  have c4 := h.row.cell (i := i * 6 + 4) (by omega)
  have c5 := h.row.cell (i := i * 6 + 5) (by omega)
  rw [e0] at c0
  rw [e1] at c1
  rw [e2] at c2
  rw [e3] at c3
  rw [e4] at c4
  rw [e5] at c5
  refine ⟨g, 0, _, _, rfl, ?_, ?_, ?_, ?_, ?_, ?_, h4, h5⟩
  all_goals rw [Nat.zero_add]; assumption

/-- five cells in a row -/
def five (x0 x1 x2 x3 x4 : Value) : Nat → Value := fun i => if i = 0 then x0 else if i = 1 then x1 else if i = 2 then x2 else if i = 3 then x3 else x4

theorem five_new (w : World) (t : TypeId) (x0 x1 x2 x3 x4 : Value) : (w.alloc (.cells #[x0, x1, x2, x3, x4] t)).rowIs w.heap.size t 5 (five x0 x1 x2 x3 x4) :=
  ⟨_, Go.Deep.blk_alloc_new _ _, rfl, fun i hi => by match i, hi with | 0, _ => rfl | 1, _ => rfl | 2, _ => rfl | 3, _ => rfl | 4, _ => rfl⟩
theorem five_cells {w : World} {g : Nat} {t : TypeId} {x0 x1 x2 x3 x4 : Value} (h : w.rowIs g t 5 (five x0 x1 x2 x3 x4)) :
    (w.cell? ⟨g, 0, none⟩ = some x0 ∧ w.cell? ⟨g, 1, none⟩ = some x1 ∧ w.cell? ⟨g, 2, none⟩ = some x2 ∧ w.cell? ⟨g, 3, none⟩ = some x3 ∧ w.cell? ⟨g, 4, none⟩ = some x4) ∧
    (w.frozen? ⟨g, 0, none⟩ = false ∧ w.frozen? ⟨g, 1, none⟩ = false ∧ w.frozen? ⟨g, 2, none⟩ = false ∧ w.frozen? ⟨g, 3, none⟩ = false ∧ w.frozen? ⟨g, 4, none⟩ = false) :=
  ⟨⟨h.cell (i := 0) (by decide), h.cell (i := 1) (by decide), h.cell (i := 2) (by decide), h.cell (i := 3) (by decide), h.cell (i := 4) (by decide)⟩, h.frozen 0, h.frozen 1, h.frozen 2, h.frozen 3, h.frozen 4⟩
theorem five_set0 {w : World} {g : Nat} {t : TypeId} {x0 x1 x2 x3 x4 : Value} (h : w.rowIs g t 5 (five x0 x1 x2 x3 x4)) (v : Value) : (w.setCell ⟨g, 0, none⟩ v).rowIs g t 5 (five v x1 x2 x3 x4) :=
  (h.set 0 v).congr fun i hi => by match i, hi with | 0, _ => rfl | 1, _ => rfl | 2, _ => rfl | 3, _ => rfl | 4, _ => rfl
theorem five_set1 {w : World} {g : Nat} {t : TypeId} {x0 x1 x2 x3 x4 : Value} (h : w.rowIs g t 5 (five x0 x1 x2 x3 x4)) (v : Value) : (w.setCell ⟨g, 1, none⟩ v).rowIs g t 5 (five x0 v x2 x3 x4) :=
  (h.set 1 v).congr fun i hi => by match i, hi with | 0, _ => rfl | 1, _ => rfl | 2, _ => rfl | 3, _ => rfl | 4, _ => rfl
theorem five_set2 {w : World} {g : Nat} {t : TypeId} {x0 x1 x2 x3 x4 : Value} (h : w.rowIs g t 5 (five x0 x1 x2 x3 x4)) (v : Value) : (w.setCell ⟨g, 2, none⟩ v).rowIs g t 5 (five x0 x1 v x3 x4) :=
  (h.set 2 v).congr fun i hi => by match i, hi with | 0, _ => rfl | 1, _ => rfl | 2, _ => rfl | 3, _ => rfl | 4, _ => rfl
theorem five_set3 {w : World} {g : Nat} {t : TypeId} {x0 x1 x2 x3 x4 : Value} (h : w.rowIs g t 5 (five x0 x1 x2 x3 x4)) (v : Value) : (w.setCell ⟨g, 3, none⟩ v).rowIs g t 5 (five x0 x1 x2 v x4) :=
  (h.set 3 v).congr fun i hi => by match i, hi with | 0, _ => rfl | 1, _ => rfl | 2, _ => rfl | 3, _ => rfl | 4, _ => rfl
theorem five_set4 {w : World} {g : Nat} {t : TypeId} {x0 x1 x2 x3 x4 : Value} (h : w.rowIs g t 5 (five x0 x1 x2 x3 x4)) (v : Value) : (w.setCell ⟨g, 4, none⟩ v).rowIs g t 5 (five x0 x1 x2 x3 v) :=
  (h.set 4 v).congr fun i hi => by match i, hi with | 0, _ => rfl | 1, _ => rfl | 2, _ => rfl | 3, _ => rfl | 4, _ => rfl

/-- a heap in memory of its own: its calls' row at block g, their lists behind it, what was said at block sb, behind them all -/
structure NewHeap (g sb : Nat) (w : World) (h : Hp) (G : Nat → Nat × Nat) : Prop where
  c : NewCalls g w h.calls G
  sd : OpsAt w (full sb h.said.length) h.said
  gs : g < sb
  ls : ∀ i, i < h.calls.length → (G i).2 < sb
  sz : sb < w.heap.size

theorem NewHeap.below {g sb : Nat} {w w' : World} {h : Hp} {G : Nat → Nat × Nat} (k : NewHeap g sb w h G) (hb : Below w.heap.size w w') : NewHeap g sb w' h G := ⟨k.c.below hb, k.sd.below hb, k.gs, k.ls, Nat.lt_of_lt_of_le k.sz hb.size⟩
theorem NewHeap.setAt {g sb b o : Nat} {w : World} {h : Hp} {G : Nat → Nat × Nat} (k : NewHeap g sb w h G) (hb : b < g) (u : Value) : NewHeap g sb (w.setCell ⟨b, o, none⟩ u) h G :=
  ⟨k.c.setAt hb u, k.sd.setAt (by have := k.gs; omega) u, k.gs, k.ls, by simpa [World.setCell] using k.sz⟩
theorem NewHeap.at {g sb : Nat} {w : World} {h : Hp} {G : Nat → Nat × Nat} (k : NewHeap g sb w h G) (hl : h.calls.length ≤ maxLen) : HeapAt w (full g h.calls.length) (full sb h.said.length) h := ⟨k.c.at hl, k.sd⟩

end Go.Proofs.Ytldiccheboipeaa
