/-
  Plain words for what a program of this project looks like in memory (operations, methods), and how such facts are carried from one world to a later one. Nothing of the translation is used here.
-/
import Derived.WalkKit
import Derived.WalkSpells
import Derived.Deep.OwnRows
import Derived.Deep.LoopGhost
namespace Go.Proofs.Ytldiccheboipeaa
open Go.RowKit

/-- operations in memory: a slice of pairs -/
def OpsAt (w : World) (v : Value) (ops : List (Int × Int)) : Prop :=
  ∃ (a : Option Addr) (cap : Nat), v = .slice a ops.length cap ∧ ops.length ≤ maxLen ∧
    ∀ i, (h : i < ops.length) → ∃ b o, a = some ⟨b, o, none⟩ ∧ w.cell? ⟨b, o + i * 2, none⟩ = some (.int .i64 ops[i].1) ∧ w.cell? ⟨b, o + i * 2 + 1, none⟩ = some (.int .i64 ops[i].2)

/-- methods in memory: a slice of triples, the third a slice of operations -/
def MethsAt (w : World) (v : Value) (ms : List (Int × Int × List (Int × Int))) : Prop :=
  ∃ (a : Option Addr) (cap : Nat), v = .slice a ms.length cap ∧ ms.length ≤ maxLen ∧
    ∀ i, (h : i < ms.length) → ∃ b o vo, a = some ⟨b, o, none⟩ ∧ w.cell? ⟨b, o + i * 3, none⟩ = some (.int .i64 ms[i].1) ∧ w.cell? ⟨b, o + i * 3 + 1, none⟩ = some (.int .i64 ms[i].2.1) ∧
      w.cell? ⟨b, o + i * 3 + 2, none⟩ = some vo ∧ OpsAt w vo ms[i].2.2

theorem cell_below {w w' : World} (hb : Below w.heap.size w w') {p : Addr} {v : Value} (h : w.cell? p = some v) : w'.cell? p = some v := by
  rw [hb.cell (World.block_lt_of_cell? _ _ h)]; exact h

theorem OpsAt.below {w w' : World} {v : Value} {ops : List (Int × Int)} (h : OpsAt w v ops) (hb : Below w.heap.size w w') : OpsAt w' v ops := by
  obtain ⟨a, cap, hv, hl, hc⟩ := h
  refine ⟨a, cap, hv, hl, fun i hi => ?_⟩
  obtain ⟨b, o, ha, h0, h1⟩ := hc i hi
  exact ⟨b, o, ha, cell_below hb h0, cell_below hb h1⟩

theorem MethsAt.below {w w' : World} {v : Value} {ms : List (Int × Int × List (Int × Int))} (h : MethsAt w v ms) (hb : Below w.heap.size w w') : MethsAt w' v ms := by
  obtain ⟨a, cap, hv, hl, hc⟩ := h
  refine ⟨a, cap, hv, hl, fun i hi => ?_⟩
  obtain ⟨b, o, vo, ha, h0, h1, h2, h3⟩ := hc i hi
  exact ⟨b, o, vo, ha, cell_below hb h0, cell_below hb h1, cell_below hb h2, h3.below hb⟩

theorem row_below {w w' : World} (hb : Below w.heap.size w w') {b : Nat} {t : TypeId} {n : Nat} {f : Nat → Value} (h : w.rowIs b t n f) : w'.rowIs b t n f := h.of_block (hb.block b h.lt)

/-- the cells of a row of operations -/
def opCell (ops : List (Int × Int)) (j : Nat) : Value := .int .i64 (if j % 2 = 0 then (ops.getD (j / 2) (0, 0)).1 else (ops.getD (j / 2) (0, 0)).2)

theorem opCell_0 {ops : List (Int × Int)} {k : Nat} (h : k < ops.length) : opCell ops (k * 2) = .int .i64 ops[k].1 := by
  unfold opCell
  rw [if_pos (by omega), show k * 2 / 2 = k by omega]
  simp [h]
theorem opCell_1 {ops : List (Int × Int)} {k : Nat} (h : k < ops.length) : opCell ops (k * 2 + 1) = .int .i64 ops[k].2 := by
  unfold opCell
  rw [if_neg (by omega), show (k * 2 + 1) / 2 = k by omega]
  simp [h]

theorem ops_row_start (w : World) (n : Nat) (t : TypeId) (ops : List (Int × Int)) : (w.alloc (.cells (madeCells #[.int .i64 0, .int .i64 0] n) t)).rowIs w.heap.size t n (fun j => if j < 0 * 2 then opCell ops j else .int .i64 0) := by
  refine ⟨_, Go.Deep.blk_alloc_new _ _, size_madeCells _ _, fun i hi => ?_⟩
  have h : (i % 2 = 0) ∨ (i % 2 = 1) := by omega
  rcases h with h | h <;> simp [madeCells, hi, h]

theorem ops_row_step {w : World} {b n k : Nat} {t : TypeId} {ops : List (Int × Int)} (hk : k < ops.length) (h : w.rowIs b t n (fun j => if j < k * 2 then opCell ops j else .int .i64 0)) :
    ((w.setCell ⟨b, k * 2, none⟩ (.int .i64 ops[k].1)).setCell ⟨b, k * 2 + 1, none⟩ (.int .i64 ops[k].2)).rowIs b t n (fun j => if j < (k + 1) * 2 then opCell ops j else .int .i64 0) := by
  refine ((h.set (k * 2) _).set (k * 2 + 1) _).congr fun j _ => ?_
  by_cases e1 : j = k * 2 + 1
  · subst e1; simp only [if_true]; rw [if_pos (by omega), opCell_1 hk]
  · by_cases e0 : j = k * 2
    · subst e0; rw [if_neg e1, if_pos rfl, if_pos (by omega), opCell_0 hk]
    · rw [if_neg e1, if_neg e0]
      by_cases hj : j < k * 2
      · rw [if_pos hj, if_pos (by omega)]
      · rw [if_neg hj, if_neg (by omega)]

theorem ops_row_end {w : World} {b : Nat} {t : TypeId} {ops : List (Int × Int)} (hl : ops.length ≤ maxLen) (h : w.rowIs b t (ops.length * 2) (fun j => if j < ops.length * 2 then opCell ops j else .int .i64 0)) (cap : Nat) :
    OpsAt w (.slice (some ⟨b, 0, none⟩) ops.length cap) ops := by
  refine ⟨_, cap, rfl, hl, fun i hi => ⟨b, 0, rfl, ?_, ?_⟩⟩
  · have := h.cell (i := i * 2) (by omega)
    rw [if_pos (by omega), opCell_0 hi] at this
    simpa using this
  · have := h.cell (i := i * 2 + 1) (by omega)
    rw [if_pos (by omega), opCell_1 hi] at this
    simpa using this

/-- a slice that begins a block of its own, from block B on -/
def Own (B : Nat) (v : Value) : Prop := ∃ g l c, v = .slice (some ⟨g, 0, none⟩) l c ∧ B ≤ g

theorem Own.mono {B B' : Nat} {v : Value} (h : Own B v) (hB : B' ≤ B) : Own B' v := by
  obtain ⟨g, l, c, hv, hg⟩ := h
  exact ⟨g, l, c, hv, by omega⟩

theorem OpsAt.set {w : World} {v : Value} {ops : List (Int × Int)} {B : Nat} (h : OpsAt w v ops) (ho : Own B v) {p : Addr} (hp : p.block < B) (u : Value) : OpsAt (w.setCell p u) v ops := by
  obtain ⟨a, cap, hv, hl, hc⟩ := h
  obtain ⟨g, l, c, rfl, hg⟩ := ho
  refine ⟨a, cap, hv, hl, fun i hi => ?_⟩
  obtain ⟨b, o, ha, h0, h1⟩ := hc i hi
  have hbg : b = g := by
    rw [ha] at hv
    injection hv with h1 _ _
    injection h1 with h1
    injection h1 with h1 _
    exact h1.symm
  refine ⟨b, o, ha, ?_, ?_⟩
  · rw [World.cell?_setCell_other _ _ _ _ (fun e => by have := congrArg Addr.block e; simp at this; omega)]; exact h0
  · rw [World.cell?_setCell_other _ _ _ _ (fun e => by have := congrArg Addr.block e; simp at this; omega)]; exact h1

/-- the cells of a row of methods, V i being the third cell of method i -/
def methCell (ms : List (Int × Int × List (Int × Int))) (V : Nat → Value) (j : Nat) : Value :=
  if j % 3 = 0 then .int .i64 (ms.getD (j / 3) (0, 0, [])).1 else if j % 3 = 1 then .int .i64 (ms.getD (j / 3) (0, 0, [])).2.1 else V (j / 3)

def methZero (j : Nat) : Value := if j % 3 = 2 then .slice none 0 0 else .int .i64 0

theorem methCell_0 {ms : List (Int × Int × List (Int × Int))} {V : Nat → Value} {k : Nat} (h : k < ms.length) : methCell ms V (k * 3) = .int .i64 ms[k].1 := by
  unfold methCell
  rw [if_pos (by omega), show k * 3 / 3 = k by omega]
  simp [h]
theorem methCell_1 {ms : List (Int × Int × List (Int × Int))} {V : Nat → Value} {k : Nat} (h : k < ms.length) : methCell ms V (k * 3 + 1) = .int .i64 ms[k].2.1 := by
  unfold methCell
  rw [if_neg (by omega), if_pos (by omega), show (k * 3 + 1) / 3 = k by omega]
  simp [h]
theorem methCell_2 {ms : List (Int × Int × List (Int × Int))} {V : Nat → Value} {k : Nat} : methCell ms V (k * 3 + 2) = V k := by
  unfold methCell
  rw [if_neg (by omega), if_neg (by omega), show (k * 3 + 2) / 3 = k by omega]

theorem meth_row_start (w : World) (n : Nat) (t : TypeId) (f : Nat → Value) : (w.alloc (.cells (madeCells #[.int .i64 0, .int .i64 0, .slice none 0 0] n) t)).rowIs w.heap.size t n (fun j => if j < 0 * 3 then f j else methZero j) := by
  refine ⟨_, Go.Deep.blk_alloc_new _ _, size_madeCells _ _, fun i hi => ?_⟩
  have h : (i % 3 = 0) ∨ (i % 3 = 1) ∨ (i % 3 = 2) := by omega
  rcases h with h | h | h <;> simp [madeCells, hi, h, methZero]

theorem meth_row_step {w : World} {b n k : Nat} {t : TypeId} {ms : List (Int × Int × List (Int × Int))} {V : Nat → Value} (hk : k < ms.length) (vo : Value) (h : w.rowIs b t n (fun j => if j < k * 3 then methCell ms V j else methZero j)) :
    (((w.setCell ⟨b, k * 3, none⟩ (.int .i64 ms[k].1)).setCell ⟨b, k * 3 + 1, none⟩ (.int .i64 ms[k].2.1)).setCell ⟨b, k * 3 + 2, none⟩ vo).rowIs b t n (fun j => if j < (k + 1) * 3 then methCell ms (fun i => if i = k then vo else V i) j else methZero j) := by
  refine (((h.set (k * 3) _).set (k * 3 + 1) _).set (k * 3 + 2) _).congr fun j _ => ?_
  by_cases e2 : j = k * 3 + 2
  · subst e2; simp only [if_true]; rw [if_pos (by omega), methCell_2, if_pos rfl]
  · by_cases e1 : j = k * 3 + 1
    · subst e1; rw [if_neg e2, if_pos rfl, if_pos (by omega), methCell_1 hk]
    · by_cases e0 : j = k * 3
      · subst e0; rw [if_neg e2, if_neg e1, if_pos rfl, if_pos (by omega), methCell_0 hk]
      · rw [if_neg e2, if_neg e1, if_neg e0]
        by_cases hj : j < k * 3
        · rw [if_pos hj, if_pos (by omega)]
          unfold methCell
          split
          · rfl
          · split
            · rfl
            · show V (j / 3) = if j / 3 = k then vo else V (j / 3)
              rw [if_neg (by omega)]
        · rw [if_neg hj, if_neg (by omega)]

/-- methods in memory of their own, from block B on -/
def MethsNew (B : Nat) (w : World) (v : Value) (ms : List (Int × Int × List (Int × Int))) : Prop :=
  ∃ (g cap : Nat), v = .slice (some ⟨g, 0, none⟩) ms.length cap ∧ B ≤ g ∧ ms.length ≤ maxLen ∧
    ∀ i, (h : i < ms.length) → ∃ vo, w.cell? ⟨g, 0 + i * 3, none⟩ = some (.int .i64 ms[i].1) ∧ w.cell? ⟨g, 0 + i * 3 + 1, none⟩ = some (.int .i64 ms[i].2.1) ∧
      w.cell? ⟨g, 0 + i * 3 + 2, none⟩ = some vo ∧ OpsAt w vo ms[i].2.2 ∧ Own B vo

theorem MethsNew.at {B : Nat} {w : World} {v : Value} {ms : List (Int × Int × List (Int × Int))} (h : MethsNew B w v ms) : MethsAt w v ms := by
  obtain ⟨g, cap, hv, _, hl, hc⟩ := h
  refine ⟨_, cap, hv, hl, fun i hi => ?_⟩
  obtain ⟨vo, h0, h1, h2, h3, _⟩ := hc i hi
  exact ⟨g, 0, vo, rfl, h0, h1, h2, h3⟩

theorem MethsNew.own {B : Nat} {w : World} {v : Value} {ms : List (Int × Int × List (Int × Int))} (h : MethsNew B w v ms) : Own B v := by
  obtain ⟨g, cap, hv, hg, _⟩ := h
  exact ⟨g, _, cap, hv, hg⟩

theorem MethsNew.mono {B B' : Nat} {w : World} {v : Value} {ms : List (Int × Int × List (Int × Int))} (h : MethsNew B w v ms) (hB : B' ≤ B) : MethsNew B' w v ms := by
  obtain ⟨g, cap, hv, hg, hl, hc⟩ := h
  refine ⟨g, cap, hv, by omega, hl, fun i hi => ?_⟩
  obtain ⟨vo, h0, h1, h2, h3, h4⟩ := hc i hi
  exact ⟨vo, h0, h1, h2, h3, h4.mono hB⟩

theorem MethsNew.below {B : Nat} {w w' : World} {v : Value} {ms : List (Int × Int × List (Int × Int))} (h : MethsNew B w v ms) (hb : Below w.heap.size w w') : MethsNew B w' v ms := by
  obtain ⟨g, cap, hv, hg, hl, hc⟩ := h
  refine ⟨g, cap, hv, hg, hl, fun i hi => ?_⟩
  obtain ⟨vo, h0, h1, h2, h3, h4⟩ := hc i hi
  exact ⟨vo, cell_below hb h0, cell_below hb h1, cell_below hb h2, h3.below hb, h4⟩

theorem MethsNew.set {B : Nat} {w : World} {v : Value} {ms : List (Int × Int × List (Int × Int))} (h : MethsNew B w v ms) {p : Addr} (hp : p.block < B) (u : Value) : MethsNew B (w.setCell p u) v ms := by
  obtain ⟨g, cap, hv, hg, hl, hc⟩ := h
  refine ⟨g, cap, hv, hg, hl, fun i hi => ?_⟩
  obtain ⟨vo, h0, h1, h2, h3, h4⟩ := hc i hi
  have key : ∀ o x, w.cell? ⟨g, o, none⟩ = some x → (w.setCell p u).cell? ⟨g, o, none⟩ = some x := fun o x hx => by
    rw [World.cell?_setCell_other _ _ _ _ (fun e => by have := congrArg Addr.block e; simp at this; omega)]; exact hx
  exact ⟨vo, key _ _ h0, key _ _ h1, key _ _ h2, h3.set h4 hp u, h4⟩

theorem meth_row_end {w : World} {b : Nat} {t : TypeId} {ms : List (Int × Int × List (Int × Int))} {V : Nat → Value} (hl : ms.length ≤ maxLen) (h : w.rowIs b t (ms.length * 3) (fun j => if j < ms.length * 3 then methCell ms V j else methZero j))
    {B : Nat} (hB : B ≤ b) (hV : ∀ i, (hi : i < ms.length) → OpsAt w (V i) ms[i].2.2 ∧ Own B (V i)) (cap : Nat) : MethsNew B w (.slice (some ⟨b, 0, none⟩) ms.length cap) ms := by
  refine ⟨b, cap, rfl, hB, hl, fun i hi => ⟨V i, ?_, ?_, ?_, hV i hi⟩⟩
  · have := h.cell (i := i * 3) (by omega)
    rw [if_pos (by omega), methCell_0 hi] at this
    simpa using this
  · have := h.cell (i := i * 3 + 1) (by omega)
    rw [if_pos (by omega), methCell_1 hi] at this
    simpa using this
  · have := h.cell (i := i * 3 + 2) (by omega)
    rw [if_pos (by omega), methCell_2] at this
    simpa using this

/-- two boxes at the end of w: a program's methods; a method -/
structure Boxes (w wr : World) (vp : Value) (x t : Int) (vo : Value) : Prop where
  p : wr.cell? ⟨w.heap.size, 0, none⟩ = some vp
  a : wr.cell? ⟨w.heap.size + 1, 0, none⟩ = some (.int .i64 x)
  b : wr.cell? ⟨w.heap.size + 1, 1, none⟩ = some (.int .i64 t)
  c : wr.cell? ⟨w.heap.size + 1, 2, none⟩ = some vo
  below : Below w.heap.size w wr

theorem Boxes.new (w : World) (vp : Value) (x t : Int) (vo : Value) (t1 t2 : TypeId) : Boxes w ((w.alloc (.cells #[vp] t1)).alloc (.cells #[.int .i64 x, .int .i64 t, vo] t2)) vp x t vo := by
  refine ⟨?_, ?_, ?_, ?_, ((Below.refl _ _).alloc (Nat.le_refl _) _).alloc (by simp) _⟩
  all_goals simp [go_sem]

theorem Boxes.go {w wr w1 : World} {vp : Value} {x t : Int} {vo : Value} (h : Boxes w wr vp x t vo) (hb : Below wr.heap.size wr w1) : Boxes w w1 vp x t vo :=
  ⟨cell_below hb h.p, cell_below hb h.a, cell_below hb h.b, cell_below hb h.c, h.below.trans (hb.mono h.below.size)⟩

theorem bcell {W w1 : World} (hb : Below W.heap.size W w1) : (∀ b o, b < W.heap.size → w1.cell? ⟨b, o, none⟩ = W.cell? ⟨b, o, none⟩) ∧ (∀ b o, b < W.heap.size → w1.frozen? ⟨b, o, none⟩ = W.frozen? ⟨b, o, none⟩) :=
  ⟨fun b o h => hb.cell (p := ⟨b, o, none⟩) h, fun b o h => hb.frozen (p := ⟨b, o, none⟩) h⟩

end Go.Proofs.Ytldiccheboipeaa
