import Derived.WalkKit
import Derived.WalkSpells
import Derived.Deep.OwnRows
import Derived.Deep.LoopGhost
import Derived.Laws.AppendOwn
import Derived.ArgAppend
import Derived.Deep.AppendLies
import Derived.BigQuiet

/-
  Plain words for what a program of this project looks like in memory (operations, methods), and how such facts are carried from one world to a later one. Nothing of the translation is used here.
-/
namespace Go.Proofs.YthkjgfhheejaoaaGreatDoor
open Go.RowKit

/-- operations in memory: a slice of pairs -/
def OpsAt (w : World) (v : Value) (ops : List (Int × Int)) : Prop :=
  ∃ (a : Option Addr) (cap : Nat), v = .slice a ops.length cap ∧ ops.length ≤ maxLen ∧
    ∀ i, (h : i < ops.length) → ∃ b o, a = some ⟨b, o, none⟩ ∧ w.cell? ⟨b, o + i * 2, none⟩ = some (.int .i64 ops[i].1) ∧ w.cell? ⟨b, o + i * 2 + 1, none⟩ = some (.int .i64 ops[i].2)

/-- methods in memory: a slice of triples, the third a slice of operations -/
def MethsAt (w : World) (v : Value) (ms : List (Int × Int × List (Int × Int))) : Prop :=
  ∃ (a : Option Addr) (cap : Nat), v = .slice a ms.length cap ∧ ms.length ≤ maxLen ∧
    ∀ i, (h : i < ms.length) → ∃ b o vo, a = some ⟨b, o, none⟩ ∧ w.cell? ⟨b, o + i * 3, none⟩ = some (.int .i64 ms[i].1) ∧ w.cell? ⟨b, o + i * 3 + 1, none⟩ = some (.int .i64 ms[i].2.1) ∧
      w.cell? ⟨b, o + i * 3 + 2, none⟩ = some vo ∧ OpsAt w vo ms[i].2.2

theorem cell_below {w w' : World} (hb : Below w.heap.size w w') {p : Addr} {v : Value} (h : w.cell? p = some v) : w'.cell? p = some v := by
  rw [hb.cell (World.block_lt_of_cell? _ _ h)]; exact h

theorem OpsAt.below {w w' : World} {v : Value} {ops : List (Int × Int)} (h : OpsAt w v ops) (hb : Below w.heap.size w w') : OpsAt w' v ops := by
  obtain ⟨a, cap, hv, hl, hc⟩ := h
  refine ⟨a, cap, hv, hl, fun i hi => ?_⟩
  obtain ⟨b, o, ha, h0, h1⟩ := hc i hi
  exact ⟨b, o, ha, cell_below hb h0, cell_below hb h1⟩

theorem MethsAt.below {w w' : World} {v : Value} {ms : List (Int × Int × List (Int × Int))} (h : MethsAt w v ms) (hb : Below w.heap.size w w') : MethsAt w' v ms := by
  obtain ⟨a, cap, hv, hl, hc⟩ := h
  refine ⟨a, cap, hv, hl, fun i hi => ?_⟩
  obtain ⟨b, o, vo, ha, h0, h1, h2, h3⟩ := hc i hi
  exact ⟨b, o, vo, ha, cell_below hb h0, cell_below hb h1, cell_below hb h2, h3.below hb⟩

theorem row_below {w w' : World} (hb : Below w.heap.size w w') {b : Nat} {t : TypeId} {n : Nat} {f : Nat → Value} (h : w.rowIs b t n f) : w'.rowIs b t n f := h.of_block (hb.block b h.lt)

/-- the cells of a row of operations -/
def opCell (ops : List (Int × Int)) (j : Nat) : Value := .int .i64 (if j % 2 = 0 then (ops.getD (j / 2) (0, 0)).1 else (ops.getD (j / 2) (0, 0)).2)

theorem opCell_0 {ops : List (Int × Int)} {k : Nat} (h : k < ops.length) : opCell ops (k * 2) = .int .i64 ops[k].1 := by
  unfold opCell
  rw [if_pos (by omega), show k * 2 / 2 = k by omega]
  simp [h]
theorem opCell_1 {ops : List (Int × Int)} {k : Nat} (h : k < ops.length) : opCell ops (k * 2 + 1) = .int .i64 ops[k].2 := by
  unfold opCell
  rw [if_neg (by omega), show (k * 2 + 1) / 2 = k by omega]
  simp [h]

theorem ops_row_start (w : World) (n : Nat) (t : TypeId) (ops : List (Int × Int)) : (w.alloc (.cells (madeCells #[.int .i64 0, .int .i64 0] n) t)).rowIs w.heap.size t n (fun j => if j < 0 * 2 then opCell ops j else .int .i64 0) := by
  refine ⟨_, Go.Deep.blk_alloc_new _ _, size_madeCells _ _, fun i hi => ?_⟩
  have h : (i % 2 = 0) ∨ (i % 2 = 1) := by omega
  rcases h with h | h <;> simp [madeCells, hi, h]

theorem ops_row_step {w : World} {b n k : Nat} {t : TypeId} {ops : List (Int × Int)} (hk : k < ops.length) (h : w.rowIs b t n (fun j => if j < k * 2 then opCell ops j else .int .i64 0)) :
    ((w.setCell ⟨b, k * 2, none⟩ (.int .i64 ops[k].1)).setCell ⟨b, k * 2 + 1, none⟩ (.int .i64 ops[k].2)).rowIs b t n (fun j => if j < (k + 1) * 2 then opCell ops j else .int .i64 0) := by
  refine ((h.set (k * 2) _).set (k * 2 + 1) _).congr fun j _ => ?_
  by_cases e1 : j = k * 2 + 1
  · subst e1; simp only [if_true]; rw [if_pos (by omega), opCell_1 hk]
  · by_cases e0 : j = k * 2
    · subst e0; rw [if_neg e1, if_pos rfl, if_pos (by omega), opCell_0 hk]
    · rw [if_neg e1, if_neg e0]
      by_cases hj : j < k * 2
      · rw [if_pos hj, if_pos (by omega)]
      · rw [if_neg hj, if_neg (by omega)]

theorem ops_row_end {w : World} {b : Nat} {t : TypeId} {ops : List (Int × Int)} (hl : ops.length ≤ maxLen) (h : w.rowIs b t (ops.length * 2) (fun j => if j < ops.length * 2 then opCell ops j else .int .i64 0)) (cap : Nat) :
    OpsAt w (.slice (some ⟨b, 0, none⟩) ops.length cap) ops := by
  refine ⟨_, cap, rfl, hl, fun i hi => ⟨b, 0, rfl, ?_, ?_⟩⟩
  · have := h.cell (i := i * 2) (by omega)
    rw [if_pos (by omega), opCell_0 hi] at this
    simpa using this
  · have := h.cell (i := i * 2 + 1) (by omega)
    rw [if_pos (by omega), opCell_1 hi] at this
    simpa using this

/-- a slice that begins a block of its own, from block B on -/
def Own (B : Nat) (v : Value) : Prop := ∃ g l c, v = .slice (some ⟨g, 0, none⟩) l c ∧ B ≤ g

theorem Own.mono {B B' : Nat} {v : Value} (h : Own B v) (hB : B' ≤ B) : Own B' v := by
  obtain ⟨g, l, c, hv, hg⟩ := h
  exact ⟨g, l, c, hv, by omega⟩

theorem OpsAt.set {w : World} {v : Value} {ops : List (Int × Int)} {B : Nat} (h : OpsAt w v ops) (ho : Own B v) {p : Addr} (hp : p.block < B) (u : Value) : OpsAt (w.setCell p u) v ops := by
  obtain ⟨a, cap, hv, hl, hc⟩ := h
  obtain ⟨g, l, c, rfl, hg⟩ := ho
  refine ⟨a, cap, hv, hl, fun i hi => ?_⟩
  obtain ⟨b, o, ha, h0, h1⟩ := hc i hi
  have hbg : b = g := by
    rw [ha] at hv
    injection hv with h1 _ _
    injection h1 with h1
    injection h1 with h1 _
    exact h1.symm
  refine ⟨b, o, ha, ?_, ?_⟩
  · rw [World.cell?_setCell_other _ _ _ _ (fun e => by have := congrArg Addr.block e; simp at this; omega)]; exact h0
  · rw [World.cell?_setCell_other _ _ _ _ (fun e => by have := congrArg Addr.block e; simp at this; omega)]; exact h1

/-- the cells of a row of methods, V i being the third cell of method i -/
def methCell (ms : List (Int × Int × List (Int × Int))) (V : Nat → Value) (j : Nat) : Value :=
  if j % 3 = 0 then .int .i64 (ms.getD (j / 3) (0, 0, [])).1 else if j % 3 = 1 then .int .i64 (ms.getD (j / 3) (0, 0, [])).2.1 else V (j / 3)

def methZero (j : Nat) : Value := if j % 3 = 2 then .slice none 0 0 else .int .i64 0

theorem methCell_0 {ms : List (Int × Int × List (Int × Int))} {V : Nat → Value} {k : Nat} (h : k < ms.length) : methCell ms V (k * 3) = .int .i64 ms[k].1 := by
  unfold methCell
  rw [if_pos (by omega), show k * 3 / 3 = k by omega]
  simp [h]
theorem methCell_1 {ms : List (Int × Int × List (Int × Int))} {V : Nat → Value} {k : Nat} (h : k < ms.length) : methCell ms V (k * 3 + 1) = .int .i64 ms[k].2.1 := by
  unfold methCell
  rw [if_neg (by omega), if_pos (by omega), show (k * 3 + 1) / 3 = k by omega]
  simp [h]
theorem methCell_2 {ms : List (Int × Int × List (Int × Int))} {V : Nat → Value} {k : Nat} : methCell ms V (k * 3 + 2) = V k := by
  unfold methCell
  rw [if_neg (by omega), if_neg (by omega), show (k * 3 + 2) / 3 = k by omega]

theorem meth_row_start (w : World) (n : Nat) (t : TypeId) (f : Nat → Value) : (w.alloc (.cells (madeCells #[.int .i64 0, .int .i64 0, .slice none 0 0] n) t)).rowIs w.heap.size t n (fun j => if j < 0 * 3 then f j else methZero j) := by
  refine ⟨_, Go.Deep.blk_alloc_new _ _, size_madeCells _ _, fun i hi => ?_⟩
  have h : (i % 3 = 0) ∨ (i % 3 = 1) ∨ (i % 3 = 2) := by omega
  rcases h with h | h | h <;> simp [madeCells, hi, h, methZero]

theorem meth_row_step {w : World} {b n k : Nat} {t : TypeId} {ms : List (Int × Int × List (Int × Int))} {V : Nat → Value} (hk : k < ms.length) (vo : Value) (h : w.rowIs b t n (fun j => if j < k * 3 then methCell ms V j else methZero j)) :
    (((w.setCell ⟨b, k * 3, none⟩ (.int .i64 ms[k].1)).setCell ⟨b, k * 3 + 1, none⟩ (.int .i64 ms[k].2.1)).setCell ⟨b, k * 3 + 2, none⟩ vo).rowIs b t n (fun j => if j < (k + 1) * 3 then methCell ms (fun i => if i = k then vo else V i) j else methZero j) := by
  refine (((h.set (k * 3) _).set (k * 3 + 1) _).set (k * 3 + 2) _).congr fun j _ => ?_
  by_cases e2 : j = k * 3 + 2
  · subst e2; simp only [if_true]; rw [if_pos (by omega), methCell_2, if_pos rfl]
  · by_cases e1 : j = k * 3 + 1
    · subst e1; rw [if_neg e2, if_pos rfl, if_pos (by omega), methCell_1 hk]
    · by_cases e0 : j = k * 3
      · subst e0; rw [if_neg e2, if_neg e1, if_pos rfl, if_pos (by omega), methCell_0 hk]
      · rw [if_neg e2, if_neg e1, if_neg e0]
        by_cases hj : j < k * 3
        · rw [if_pos hj, if_pos (by omega)]
          unfold methCell
          split
          · rfl
          · split
            · rfl
            · show V (j / 3) = if j / 3 = k then vo else V (j / 3)
              rw [if_neg (by omega)]
        · rw [if_neg hj, if_neg (by omega)]

/-- methods in memory of their own, from block B on -/
def MethsNew (B : Nat) (w : World) (v : Value) (ms : List (Int × Int × List (Int × Int))) : Prop :=
  ∃ (g cap : Nat), v = .slice (some ⟨g, 0, none⟩) ms.length cap ∧ B ≤ g ∧ ms.length ≤ maxLen ∧
    ∀ i, (h : i < ms.length) → ∃ vo, w.cell? ⟨g, 0 + i * 3, none⟩ = some (.int .i64 ms[i].1) ∧ w.cell? ⟨g, 0 + i * 3 + 1, none⟩ = some (.int .i64 ms[i].2.1) ∧
      w.cell? ⟨g, 0 + i * 3 + 2, none⟩ = some vo ∧ OpsAt w vo ms[i].2.2 ∧ Own B vo

theorem MethsNew.at {B : Nat} {w : World} {v : Value} {ms : List (Int × Int × List (Int × Int))} (h : MethsNew B w v ms) : MethsAt w v ms := by
  obtain ⟨g, cap, hv, _, hl, hc⟩ := h
  refine ⟨_, cap, hv, hl, fun i hi => ?_⟩
  obtain ⟨vo, h0, h1, h2, h3, _⟩ := hc i hi
  exact ⟨g, 0, vo, rfl, h0, h1, h2, h3⟩

theorem MethsNew.own {B : Nat} {w : World} {v : Value} {ms : List (Int × Int × List (Int × Int))} (h : MethsNew B w v ms) : Own B v := by
  obtain ⟨g, cap, hv, hg, _⟩ := h
  exact ⟨g, _, cap, hv, hg⟩

theorem MethsNew.mono {B B' : Nat} {w : World} {v : Value} {ms : List (Int × Int × List (Int × Int))} (h : MethsNew B w v ms) (hB : B' ≤ B) : MethsNew B' w v ms := by
  obtain ⟨g, cap, hv, hg, hl, hc⟩ := h
  refine ⟨g, cap, hv, by omega, hl, fun i hi => ?_⟩
  obtain ⟨vo, h0, h1, h2, h3, h4⟩ := hc i hi
  exact ⟨vo, h0, h1, h2, h3, h4.mono hB⟩

theorem MethsNew.below {B : Nat} {w w' : World} {v : Value} {ms : List (Int × Int × List (Int × Int))} (h : MethsNew B w v ms) (hb : Below w.heap.size w w') : MethsNew B w' v ms := by
  obtain ⟨g, cap, hv, hg, hl, hc⟩ := h
  refine ⟨g, cap, hv, hg, hl, fun i hi => ?_⟩
  obtain ⟨vo, h0, h1, h2, h3, h4⟩ := hc i hi
  exact ⟨vo, cell_below hb h0, cell_below hb h1, cell_below hb h2, h3.below hb, h4⟩

theorem MethsNew.set {B : Nat} {w : World} {v : Value} {ms : List (Int × Int × List (Int × Int))} (h : MethsNew B w v ms) {p : Addr} (hp : p.block < B) (u : Value) : MethsNew B (w.setCell p u) v ms := by
  obtain ⟨g, cap, hv, hg, hl, hc⟩ := h
  refine ⟨g, cap, hv, hg, hl, fun i hi => ?_⟩
  obtain ⟨vo, h0, h1, h2, h3, h4⟩ := hc i hi
  have key : ∀ o x, w.cell? ⟨g, o, none⟩ = some x → (w.setCell p u).cell? ⟨g, o, none⟩ = some x := fun o x hx => by
    rw [World.cell?_setCell_other _ _ _ _ (fun e => by have := congrArg Addr.block e; simp at this; omega)]; exact hx
  exact ⟨vo, key _ _ h0, key _ _ h1, key _ _ h2, h3.set h4 hp u, h4⟩

theorem meth_row_end {w : World} {b : Nat} {t : TypeId} {ms : List (Int × Int × List (Int × Int))} {V : Nat → Value} (hl : ms.length ≤ maxLen) (h : w.rowIs b t (ms.length * 3) (fun j => if j < ms.length * 3 then methCell ms V j else methZero j))
    {B : Nat} (hB : B ≤ b) (hV : ∀ i, (hi : i < ms.length) → OpsAt w (V i) ms[i].2.2 ∧ Own B (V i)) (cap : Nat) : MethsNew B w (.slice (some ⟨b, 0, none⟩) ms.length cap) ms := by
  refine ⟨b, cap, rfl, hB, hl, fun i hi => ⟨V i, ?_, ?_, ?_, hV i hi⟩⟩
  · have := h.cell (i := i * 3) (by omega)
    rw [if_pos (by omega), methCell_0 hi] at this
    simpa using this
  · have := h.cell (i := i * 3 + 1) (by omega)
    rw [if_pos (by omega), methCell_1 hi] at this
    simpa using this
  · have := h.cell (i := i * 3 + 2) (by omega)
    rw [if_pos (by omega), methCell_2] at this
    simpa using this

/-- two boxes at the end of w: a program's methods; a method -/
structure Boxes (w wr : World) (vp : Value) (x t : Int) (vo : Value) : Prop where
  p : wr.cell? ⟨w.heap.size, 0, none⟩ = some vp
  a : wr.cell? ⟨w.heap.size + 1, 0, none⟩ = some (.int .i64 x)
  b : wr.cell? ⟨w.heap.size + 1, 1, none⟩ = some (.int .i64 t)
  c : wr.cell? ⟨w.heap.size + 1, 2, none⟩ = some vo
  below : Below w.heap.size w wr

theorem Boxes.new (w : World) (vp : Value) (x t : Int) (vo : Value) (t1 t2 : TypeId) : Boxes w ((w.alloc (.cells #[vp] t1)).alloc (.cells #[.int .i64 x, .int .i64 t, vo] t2)) vp x t vo := by
  refine ⟨?_, ?_, ?_, ?_, ((Below.refl _ _).alloc (Nat.le_refl _) _).alloc (by simp) _⟩
  all_goals simp [go_sem]

theorem Boxes.go {w wr w1 : World} {vp : Value} {x t : Int} {vo : Value} (h : Boxes w wr vp x t vo) (hb : Below wr.heap.size wr w1) : Boxes w w1 vp x t vo :=
  ⟨cell_below hb h.p, cell_below hb h.a, cell_below hb h.b, cell_below hb h.c, h.below.trans (hb.mono h.below.size)⟩

theorem bcell {W w1 : World} (hb : Below W.heap.size W w1) : (∀ b o, b < W.heap.size → w1.cell? ⟨b, o, none⟩ = W.cell? ⟨b, o, none⟩) ∧ (∀ b o, b < W.heap.size → w1.frozen? ⟨b, o, none⟩ = W.frozen? ⟨b, o, none⟩) :=
  ⟨fun b o h => hb.cell (p := ⟨b, o, none⟩) h, fun b o h => hb.frozen (p := ⟨b, o, none⟩) h⟩

end Go.Proofs.YthkjgfhheejaoaaGreatDoor

/-
  Plain words for what calls and heaps of this project look like in memory, and how such facts are carried from one world to a later one. Values are pairs of numbers (kind, number): a row of values lies in memory as a row of operations does. Nothing of the translation is used here.
-/
namespace Go.Proofs.YthkjgfhheejaoaaGreatDoor
open Go.RowKit

/-- a call -/
structure Cl where
  m : Int
  pc : Int
  temps : List (Int × Int)
  stack : List (Int × Int)
  sender : Int
  dead : Bool

/-- a heap -/
structure Hp where
  calls : List Cl
  now : Int
  born : Int
  said : List (Int × Int)
  code : Int

/-- a call in memory: six cells from place o of block b on, its lists vt and vs -/
structure ClAt (w : World) (b o : Nat) (vt vs : Value) (c : Cl) : Prop where
  c0 : w.cell? ⟨b, o, none⟩ = some (.int .i64 c.m)
  c1 : w.cell? ⟨b, o + 1, none⟩ = some (.int .i64 c.pc)
  c2 : w.cell? ⟨b, o + 2, none⟩ = some vt
  c3 : w.cell? ⟨b, o + 3, none⟩ = some vs
  c4 : w.cell? ⟨b, o + 4, none⟩ = some (.int .i64 c.sender)
  c5 : w.cell? ⟨b, o + 5, none⟩ = some (.bool c.dead)
  t : OpsAt w vt c.temps
  s : OpsAt w vs c.stack

theorem ClAt.below {w w' : World} {b o : Nat} {vt vs : Value} {c : Cl} (h : ClAt w b o vt vs c) (hb : Below w.heap.size w w') : ClAt w' b o vt vs c :=
  ⟨cell_below hb h.c0, cell_below hb h.c1, cell_below hb h.c2, cell_below hb h.c3, cell_below hb h.c4, cell_below hb h.c5, h.t.below hb, h.s.below hb⟩

/-- calls in memory -/
def CallsAt (w : World) (v : Value) (cs : List Cl) : Prop :=
  ∃ (a : Option Addr) (cap : Nat), v = .slice a cs.length cap ∧ cs.length ≤ maxLen ∧
    ∀ i, (h : i < cs.length) → ∃ b o vt vs, a = some ⟨b, o, none⟩ ∧ ClAt w b (o + i * 6) vt vs cs[i]

theorem CallsAt.below {w w' : World} {v : Value} {cs : List Cl} (h : CallsAt w v cs) (hb : Below w.heap.size w w') : CallsAt w' v cs := by
  obtain ⟨a, cap, hv, hl, hc⟩ := h
  refine ⟨a, cap, hv, hl, fun i hi => ?_⟩
  obtain ⟨b, o, vt, vs, ha, h0⟩ := hc i hi
  exact ⟨b, o, vt, vs, ha, h0.below hb⟩

theorem CallsAt.nil (w : World) : CallsAt w (.slice none 0 0) [] := ⟨none, 0, rfl, Nat.zero_le _, fun _ hi => absurd hi (Nat.not_lt_zero _)⟩

/-- the cells of a heap, its lists vc and vs -/
def hpCells (vc vs : Value) (h : Hp) : Array Value := #[vc, .int .i64 h.now, .int .i64 h.born, vs, .int .i64 h.code]

/-- a heap's lists in memory -/
structure HeapAt (w : World) (vc vs : Value) (h : Hp) : Prop where
  c : CallsAt w vc h.calls
  s : OpsAt w vs h.said

theorem HeapAt.below {w w' : World} {vc vs : Value} {h : Hp} (k : HeapAt w vc vs h) (hb : Below w.heap.size w w') : HeapAt w' vc vs h := ⟨k.c.below hb, k.s.below hb⟩

theorem OpsAt.shape {w : World} {v : Value} {ops : List (Int × Int)} (h : OpsAt w v ops) : ∃ a c, v = .slice a ops.length c := by
  obtain ⟨a, c, hv, _⟩ := h
  exact ⟨a, c, hv⟩
theorem CallsAt.shape {w : World} {v : Value} {cs : List Cl} (h : CallsAt w v cs) : ∃ a c, v = .slice a cs.length c := by
  obtain ⟨a, c, hv, _⟩ := h
  exact ⟨a, c, hv⟩

/-- how much of a call, of a heap, an exact law looks at -/
def Cl.small (c : Cl) : Prop := c.temps.length ≤ 1048576 ∧ c.stack.length ≤ 1048576
def Hp.small (h : Hp) : Prop := h.calls.length ≤ 1048576 ∧ (∀ i, (hi : i < h.calls.length) → h.calls[i].small) ∧ h.said.length ≤ 1048576

end Go.Proofs.YthkjgfhheejaoaaGreatDoor

/-
  When a program is ok, in plain words: the one function that both the document's model and the program are held against. Nothing of the translation is used here.
-/
namespace Go.Proofs.YthkjgfhheejaoaaGreatDoor

def inR (n lo hi : Int) : Bool := decide (lo ≤ n) && decide (n ≤ hi)

theorem inR_true {n lo hi : Int} : inR n lo hi = true ↔ lo ≤ n ∧ n ≤ hi := by simp [inR]
theorem inR_false {n lo hi : Int} : inR n lo hi = false ↔ ¬ (lo ≤ n ∧ n ≤ hi) := by
  rw [← inR_true]; simp

/-- an operation k, a of a method with t temps and no operations, among nm methods -/
def opOk (nm no : Nat) (t k a : Int) : Bool :=
  if k = 1 then inR a 0 99
  else if k = 2 ∨ k = 3 then inR a 0 (t - 1)
  else if k = 7 ∨ k = 8 then inR a 0 ((no : Int) - 1)
  else if k = 9 then inR a 0 ((nm : Int) - 1)
  else if k = 13 ∨ k = 14 then inR a 0 3
  else inR k 1 18 && (a == 0)

/-- all operations of a list -/
def opsOk (nm : Nat) (t : Int) (ops : List (Int × Int)) : Bool := ops.all fun op => opOk nm ops.length t op.1 op.2

def methOk (nm : Nat) (m : Int × Int × List (Int × Int)) : Bool :=
  inR m.1 0 2 && inR m.2.1 m.1 4 && decide (m.2.2.length ≤ 14) && opsOk nm m.2.1 m.2.2

def progOk (ms : List (Int × Int × List (Int × Int))) : Bool :=
  inR ms.length 1 4 && ((ms.getD 0 (0, 0, [])).1 == 0) && ms.all (methOk ms.length)

theorem all_of {α : Type} {l : List α} {p : α → Bool} (h : ∀ i, (hi : i < l.length) → p l[i] = true) : l.all p = true := by
  rw [List.all_eq_true]
  intro x hx
  obtain ⟨i, hi, rfl⟩ := List.getElem_of_mem hx
  exact h i hi

theorem all_not {α : Type} {l : List α} {p : α → Bool} {i : Nat} (hi : i < l.length) (h : p l[i] = false) : l.all p = false := by
  rw [List.all_eq_false]
  exact ⟨_, List.getElem_mem hi, by simp [h]⟩

theorem opsOk_yes {nm : Nat} {t : Int} {ops : List (Int × Int)} (h : ∀ i, (hi : i < ops.length) → opOk nm ops.length t ops[i].1 ops[i].2 = true) : opsOk nm t ops = true := all_of h
theorem opsOk_no {nm : Nat} {t : Int} {ops : List (Int × Int)} {i : Nat} (hi : i < ops.length) (h : opOk nm ops.length t ops[i].1 ops[i].2 = false) : opsOk nm t ops = false := all_not hi h

theorem methOk_of {nm : Nat} {x t : Int} {ops : List (Int × Int)} (h1 : inR x 0 2 = true) (h2 : inR t x 4 = true) (h3 : ops.length ≤ 14) {b : Bool} (h4 : opsOk nm t ops = b) : methOk nm (x, t, ops) = b := by
  simp [methOk, h1, h2, h3, h4]
theorem methOk_no1 {nm : Nat} {x t : Int} {ops : List (Int × Int)} (h : inR x 0 2 = false) : methOk nm (x, t, ops) = false := by simp [methOk, h]
theorem methOk_no2 {nm : Nat} {x t : Int} {ops : List (Int × Int)} (h : inR t x 4 = false) : methOk nm (x, t, ops) = false := by simp [methOk, h]
theorem methOk_no3 {nm : Nat} {x t : Int} {ops : List (Int × Int)} (h : ¬ ops.length ≤ 14) : methOk nm (x, t, ops) = false := by simp [methOk, h]

theorem opOk_1 (nm no : Nat) (t a : Int) : opOk nm no t 1 a = inR a 0 99 := rfl
theorem opOk_2 (nm no : Nat) (t a : Int) : opOk nm no t 2 a = inR a 0 (t - 1) := rfl
theorem opOk_3 (nm no : Nat) (t a : Int) : opOk nm no t 3 a = inR a 0 (t - 1) := rfl
theorem opOk_7 (nm no : Nat) (t a : Int) : opOk nm no t 7 a = inR a 0 ((no : Int) - 1) := rfl
theorem opOk_8 (nm no : Nat) (t a : Int) : opOk nm no t 8 a = inR a 0 ((no : Int) - 1) := rfl
theorem opOk_9 (nm no : Nat) (t a : Int) : opOk nm no t 9 a = inR a 0 ((nm : Int) - 1) := rfl
theorem opOk_13 (nm no : Nat) (t a : Int) : opOk nm no t 13 a = inR a 0 3 := rfl
theorem opOk_14 (nm no : Nat) (t a : Int) : opOk nm no t 14 a = inR a 0 3 := rfl
theorem opOk_else (nm no : Nat) (t k a : Int) (h1 : ¬ k = 1) (h2 : ¬ k = 2) (h3 : ¬ k = 3) (h7 : ¬ k = 7) (h8 : ¬ k = 8) (h9 : ¬ k = 9) (h13 : ¬ k = 13) (h14 : ¬ k = 14) : opOk nm no t k a = (inR k 1 18 && (a == 0)) := by
  simp [opOk, h1, h2, h3, h7, h8, h9, h13, h14]

theorem opOk_noKind {nm no : Nat} {t k a : Int} (h : inR k 1 18 = false) : opOk nm no t k a = false := by
  rw [inR_false] at h
  rw [opOk_else nm no t k a (by omega) (by omega) (by omega) (by omega) (by omega) (by omega) (by omega) (by omega), inR_false.2 h]
  rfl

theorem ret_bool {a b : Bool} (h : a = b) : Ending.returned (.bool a) = .returned (.bool b) := by rw [h]

end Go.Proofs.YthkjgfhheejaoaaGreatDoor

/-
  Rows of numbers in memory of one's own: read, written, resliced, more behind them.
-/
namespace Go.Proofs.YthkjgfhheejaoaaGreatDoor
open Go.RowKit

/-- numbers in a row of their own, from block B on; the row may begin inside its block -/
def IntRow (B : Nat) (w : World) (v : Value) (xs : List Int) : Prop :=
  (v = .slice none 0 0 ∧ xs = []) ∨
  ∃ (g off cap : Nat), v = .slice (some ⟨g, off, none⟩) xs.length cap ∧ B ≤ g ∧ g < w.heap.size ∧ xs.length ≤ cap ∧ cap ≤ maxLen ∧
    (∀ i, i < cap → (w.cell? ⟨g, off + i, none⟩).isSome = true ∧ w.frozen? ⟨g, off + i, none⟩ = false) ∧
    ∀ i, (h : i < xs.length) → w.cell? ⟨g, off + i, none⟩ = some (.int .i64 xs[i])

theorem IntRow.nil (B : Nat) (w : World) : IntRow B w (.slice none 0 0) [] := .inl ⟨rfl, rfl⟩

theorem IntRow.form {B : Nat} {w : World} {v : Value} {xs : List Int} (h : IntRow B w v xs) (hx : 0 < xs.length) : ∃ g off cap, v = .slice (some ⟨g, off, none⟩) xs.length cap ∧ B ≤ g ∧ g < w.heap.size := by
  rcases h with ⟨_, rfl⟩ | ⟨g, off, cap, hv, hB, hg, _⟩
  · simp at hx
  · exact ⟨g, off, cap, hv, hB, hg⟩

theorem IntRow.slice {B : Nat} {w : World} {v : Value} {xs : List Int} (h : IntRow B w v xs) : ∃ a cap, v = .slice a xs.length cap ∧ xs.length ≤ maxLen := by
  rcases h with ⟨rfl, rfl⟩ | ⟨g, off, cap, hv, hB, hg, hl, hc, _⟩
  · exact ⟨none, 0, rfl, by simp⟩
  · exact ⟨_, cap, hv, by omega⟩

theorem IntRow.mono {B B' : Nat} {w : World} {v : Value} {xs : List Int} (h : IntRow B w v xs) (hB : B' ≤ B) : IntRow B' w v xs := by
  rcases h with h | ⟨g, off, cap, hv, hg, r⟩
  · exact .inl h
  · exact .inr ⟨g, off, cap, hv, by omega, r⟩

theorem IntRow.lt {B : Nat} {w : World} {v : Value} {xs : List Int} (h : IntRow B w v xs) : ∀ k, v.ownBlock = some k → B ≤ k ∧ k < w.heap.size := by
  intro k hk
  rcases h with ⟨rfl, _⟩ | ⟨g, off, cap, rfl, hB, hg, _⟩
  · simp [Value.ownBlock] at hk
  · simp [Value.ownBlock] at hk
    omega

/-- such a row stays where its block does -/
theorem IntRow.kept {B : Nat} {w w' : World} {v : Value} {xs : List Int} (h : IntRow B w v xs) (hsz : w.heap.size ≤ w'.heap.size) (hb : ∀ g, v.ownBlock = some g → w'.heap[g]? = w.heap[g]?) : IntRow B w' v xs := by
  rcases h with h | ⟨g, off, cap, rfl, hB, hg, hl, hc, hsp, hx⟩
  · exact .inl h
  · have hbk := hb g rfl
    refine .inr ⟨g, off, cap, rfl, hB, by omega, hl, hc, fun i hi => ?_, fun i hi => ?_⟩
    · rw [World.cell?_of_block (a := ⟨g, off + i, none⟩) hbk, World.frozen?_of_block (a := ⟨g, off + i, none⟩) hbk]; exact hsp i hi
    · rw [World.cell?_of_block (a := ⟨g, off + i, none⟩) hbk]; exact hx i hi

theorem IntRow.below {B : Nat} {w w' : World} {v : Value} {xs : List Int} (h : IntRow B w v xs) (hb : Below w.heap.size w w') : IntRow B w' v xs :=
  h.kept hb.size fun g hg => hb.block g (h.lt g hg).2

theorem IntRow.drewN {B : Nat} {w : World} {v : Value} {xs : List Int} (h : IntRow B w v xs) (n : Nat) : IntRow B (w.drewN n) v xs := h

/-- a cell of another block is written -/
theorem IntRow.set_other {B : Nat} {w : World} {v : Value} {xs : List Int} (h : IntRow B w v xs) {p : Addr} (u : Value) (hp : v.ownBlock ≠ some p.block) : IntRow B (w.setCell p u) v xs :=
  h.kept (by simp [World.setCell]) fun g hg => Below.heap_setCell _ _ _ _ (fun e => hp (by rw [hg, e]))

theorem IntRow.cell {B : Nat} {w : World} {g off n cap : Nat} {xs : List Int} (h : IntRow B w (.slice (some ⟨g, off, none⟩) n cap) xs) {i : Nat} (hi : i < xs.length) : w.cell? ⟨g, off + i, none⟩ = some (.int .i64 xs[i]) ∧ w.frozen? ⟨g, off + i, none⟩ = false := by
  rcases h with ⟨h, _⟩ | ⟨g', off', cap', hv, _, _, hl, _, hsp, hx⟩
  · cases h
  · cases hv
    exact ⟨hx i hi, (hsp i (by omega)).2⟩

/-- an element is written -/
theorem IntRow.set {B : Nat} {w : World} {g off n cap : Nat} {xs : List Int} (h : IntRow B w (.slice (some ⟨g, off, none⟩) n cap) xs) (i : Nat) (hi : i < xs.length) (x : Int) :
    IntRow B (w.setCell ⟨g, off + i, none⟩ (.int .i64 x)) (.slice (some ⟨g, off, none⟩) n cap) (xs.set i x) := by
  have hc := (h.cell hi).1
  rcases h with ⟨h, _⟩ | ⟨g', off', cap', hv, hB, hg, hl, hm, hsp, hx⟩
  · cases h
  · cases hv
    refine .inr ⟨g, off, cap, by simp, hB, by simp [World.setCell]; exact hg, by simpa using hl, hm, fun j hj => ?_, fun j hj => ?_⟩
    · rw [World.frozen?_setCell]
      refine ⟨?_, (hsp j hj).2⟩
      by_cases e : j = i
      · subst e; rw [World.cell?_setCell_same _ _ _ hc]; rfl
      · rw [World.cell?_setCell_other _ _ _ _ (fun q => by have := congrArg Addr.off q; simp at this; omega)]; exact (hsp j hj).1
    · rw [List.length_set] at hj
      by_cases e : j = i
      · subst e; rw [World.cell?_setCell_same _ _ _ hc]; simp
      · rw [World.cell?_setCell_other _ _ _ _ (fun q => by have := congrArg Addr.off q; simp at this; omega), hx j hj]
        simp [Ne.symm e]

/-- all but the first -/
theorem IntRow.tail {B : Nat} {w : World} {g off n cap : Nat} {x : Int} {xs : List Int} (h : IntRow B w (.slice (some ⟨g, off, none⟩) n cap) (x :: xs)) :
    IntRow B w (.slice (some ⟨g, off + 1, none⟩) xs.length (cap - 1)) xs := by
  rcases h with ⟨h, _⟩ | ⟨g', off', cap', hv, hB, hg, hl, hm, hsp, hx⟩
  · cases h
  · cases hv
    simp at hl
    refine .inr ⟨g, off + 1, cap - 1, rfl, hB, hg, by omega, by omega, fun j hj => ?_, fun j hj => ?_⟩
    · have := hsp (j + 1) (by omega)
      rwa [show off + (j + 1) = off + 1 + j by omega] at this
    · have := hx (j + 1) (by simp; omega)
      rw [show off + (j + 1) = off + 1 + j by omega] at this
      simpa using this

theorem intCells_length (M : List Int) : (M.map fun x => Value.int .i64 x).length = M.length := by simp

/-- more numbers behind them: the law as it runs -/
theorem run_append_ints {P : Program} {t ty e : TypeId} {i : TypeInfo} {B : Nat} (ht : P.underlying t = some (.slice e)) (hi : P.info? e = some i) (hz : i.zero = some (.int .i64 0)) (hs : i.size = 1) (hby : i.bytes = 8)
    {w : World} {v : Value} {L : List Int} (hown : IntRow B w v L) (ad : Addr) (m c : Nat) (M : List Int) (hm : M.length = m) (hnews : ∀ j, (h : j < M.length) → w.cell? (ad.add j) = some (.int .i64 M[j]))
    (hpos : 0 < m ∨ ∃ a n k, v = .slice (some a) n k) (hL : L.length + m ≤ 1000000) (hB : B ≤ w.heap.size) :
    ∃ g off cap w', (Builtin.append_ #[t, t] ty #[v, .slice (some ad) m c]).run P w = .ok (.slice (some ⟨g, off, none⟩) (L.length + m) cap) w' ∧
      IntRow B w' (.slice (some ⟨g, off, none⟩) (L.length + m) cap) (L ++ M) ∧ w.grownBy w' v.ownBlock ∧ (v.ownBlock = some g ∨ g = w.heap.size) := by
  have hnews' : ∀ j u, (M.map fun x => Value.int .i64 x)[j]? = some u → w.cell? (ad.add j) = some u := by
    intro j u hu
    rw [List.getElem?_map] at hu
    by_cases hj : j < M.length
    · rw [List.getElem?_eq_getElem hj] at hu
      rw [hnews j hj]
      simpa using hu
    · rw [List.getElem?_eq_none (by omega)] at hu; simp at hu
  have h1 : ∀ u ∈ (M.map fun x => Value.int .i64 x), u.oneCell' = true := by
    intro u hu
    simp at hu
    obtain ⟨x, _, rfl⟩ := hu
    rfl
  have hgrown : ∀ (xs : List Int) (k : Nat) (W : World) (q : Nat), W.heap.size = w.heap.size → xs.length = q → q ≤ k → k ≤ maxLen →
      IntRow B (W.alloc (.cells ((xs.map fun x => Value.int .i64 x).toArray ++ Builtin.zeroCells (Value.int .i64 0).cells (k - q)) e)) (.slice (some ⟨w.heap.size, 0, none⟩) q k) xs := by
    intro xs k W q hW hq hqk hk
    subst hq
    have hsz0 : (Builtin.zeroCells (Value.int .i64 0).cells (k - xs.length)).size = k - xs.length := by
      simp [Builtin.zeroCells, Value.cells]
    have hblk : (W.alloc (.cells ((xs.map fun x => Value.int .i64 x).toArray ++ Builtin.zeroCells (Value.int .i64 0).cells (k - xs.length)) e)).heap[w.heap.size]? = some (.cells ((xs.map fun x => Value.int .i64 x).toArray ++ Builtin.zeroCells (Value.int .i64 0).cells (k - xs.length)) e) := by
      rw [← hW]; exact Go.Deep.blk_alloc_new _ _
    refine .inr ⟨w.heap.size, 0, k, rfl, hB, by simp [hW], hqk, hk, fun j hj => ?_, fun j hj => ?_⟩
    · refine ⟨?_, ?_⟩
      · rw [Nat.zero_add, cell_of_row _ _ _ _ _ _ hblk]
        rw [Array.getElem?_eq_getElem (by simp [hsz0]; omega)]; rfl
      · simp [World.frozen?, hblk]
    · rw [Nat.zero_add, cell_of_row _ _ _ _ _ _ hblk]
      simp [Array.getElem?_append, hj]
  rcases hown with ⟨rfl, rfl⟩ | ⟨g, off, cap, rfl, hBg, hg, hl, hmx, hsp, hx⟩
  · have hm0 : 0 < m := by
      rcases hpos with h | ⟨_, _, _, h⟩
      · exact h
      · cases h
    have hr := run_append_nil (P := P) w t ty e i _ ht hi hz ad m c _ (by simp [hs, hm]) hnews' hm0 (by simp at hL; omega) (by simp at hL; rw [hby]; omega)
    refine ⟨w.heap.size, 0, grownCap w m 0 e, _, by simpa using hr, ?_, ?_, .inr rfl⟩
    · have := hgrown M (grownCap w m 0 e) w.drew m rfl hm (grownCap_ge _ _ _ _) (grownCap_le_maxLen _ _ _ _ (by simp at hL; unfold maxLen; omega))
      simpa using this
    · exact ⟨rfl, rfl, rfl, Nat.le_of_lt (by rw [World.size_alloc]; exact Nat.lt_succ_self _), fun k hk _ => Below.heap_alloc w.drew _ k hk⟩
  · by_cases hroom : L.length + m ≤ cap
    · have hc : ∀ j, j < (M.map fun x => Value.int .i64 x).length → (w.cell? ⟨g, off + L.length * i.size + j, none⟩).isSome = true := fun j hj => by
        rw [intCells_length] at hj
        have := (hsp (L.length + j) (by omega)).1
        rwa [hs, Nat.mul_one, Nat.add_assoc]
      have hf : ∀ j, j < (M.map fun x => Value.int .i64 x).length → w.frozen? ⟨g, off + L.length * i.size + j, none⟩ = false := fun j hj => by
        rw [intCells_length] at hj
        have := (hsp (L.length + j) (by omega)).2
        rwa [hs, Nat.mul_one, Nat.add_assoc]
      have hr := run_append_room_cells (P := P) w t ty e i ht hi g off L.length cap ad m c _ (by simp [hs, hm]) hnews' h1 hroom hc hf
      rw [hs, Nat.mul_one] at hr hc
      have hszc : (w.setCells g (off + L.length) (M.map fun x => Value.int .i64 x)).heap.size = w.heap.size := by
        have key : ∀ (vs : List Value) (o : Nat) (W : World), (W.setCells g o vs).heap.size = W.heap.size := by
          intro vs
          induction vs with
          | nil => intro o W; rfl
          | cons v r ih => intro o W; rw [World.setCells, ih]; simp [World.setCell]
        exact key _ _ _
      have hoth : ∀ k, k ≠ g → (w.setCells g (off + L.length) (M.map fun x => Value.int .i64 x)).heap[k]? = w.heap[k]? := by
        have key : ∀ (vs : List Value) (o : Nat) (W : World) (k : Nat), k ≠ g → (W.setCells g o vs).heap[k]? = W.heap[k]? := by
          intro vs
          induction vs with
          | nil => intro o W k _; rfl
          | cons v r ih => intro o W k hk; rw [World.setCells, ih _ _ _ hk]; exact Below.heap_setCell _ _ _ _ hk
        exact key _ _ _
      have hwt : (w.setCells g (off + L.length) (M.map fun x => Value.int .i64 x)).os = w.os ∧ (w.setCells g (off + L.length) (M.map fun x => Value.int .i64 x)).tape = w.tape ∧ (w.setCells g (off + L.length) (M.map fun x => Value.int .i64 x)).output = w.output := by
        have key : ∀ (vs : List Value) (o : Nat) (W : World), (W.setCells g o vs).os = W.os ∧ (W.setCells g o vs).tape = W.tape ∧ (W.setCells g o vs).output = W.output := by
          intro vs
          induction vs with
          | nil => intro o W; exact ⟨rfl, rfl, rfl⟩
          | cons v r ih => intro o W; rw [World.setCells]; exact ih _ _
        exact key _ _ _
      refine ⟨g, off, cap, _, hr, .inr ⟨g, off, cap, by simp [hm], hBg, by rw [hszc]; exact hg, by simp [hm]; omega, hmx, fun j hj => ?_, fun j hj => ?_⟩, ⟨hwt.1, hwt.2.1, hwt.2.2, by rw [hszc]; exact Nat.le_refl _, fun k _ hk => hoth k (fun e => hk (by rw [e]; rfl))⟩, .inl rfl⟩
      · rw [World.frozen?_setCells]
        refine ⟨?_, (hsp j hj).2⟩
        by_cases hin : L.length ≤ j ∧ j < L.length + M.length
        · have := World.cell?_setCells_in g (M.map fun x => Value.int .i64 x) (off + L.length) w hc (j - L.length) (by simp; omega)
          rw [show off + L.length + (j - L.length) = off + j by omega] at this
          rw [this]; rfl
        · rw [World.cell?_setCells_out g _ _ _ _ (fun _ _ => by simp; omega)]
          exact (hsp j hj).1
      · rw [List.length_append] at hj
        by_cases hin : j < L.length
        · rw [World.cell?_setCells_out g _ _ _ _ (fun _ _ => by simp; omega), hx j hin]
          simp [hin]
        · have := World.cell?_setCells_in g (M.map fun x => Value.int .i64 x) (off + L.length) w hc (j - L.length) (by simp; omega)
          rw [show off + L.length + (j - L.length) = off + j by omega] at this
          rw [this]
          simp [List.getElem_append, hin]
    · have hr := run_append_grow (P := P) w t ty e i _ ht hi hz ⟨g, off, none⟩ L.length cap (L.map fun x => Value.int .i64 x) (by simp [hs]) (fun j u hu => by
          rw [List.getElem?_map] at hu
          by_cases hj : j < L.length
          · rw [List.getElem?_eq_getElem hj] at hu
            rw [Addr.add_lit, hx j hj]
            simpa using hu
          · rw [List.getElem?_eq_none (by omega)] at hu; simp at hu)
        ad m c _ (by simp [hs, hm]) hnews' (by omega) (by omega) (growslice_fits (by omega) (by rw [hby]; omega))
      refine ⟨w.heap.size, 0, grownCap w (L.length + m) cap e, _, hr, ?_, ?_, .inr rfl⟩
      · have := hgrown (L ++ M) (grownCap w (L.length + m) cap e) w.drew (L.length + m) rfl (by simp [hm]) (grownCap_ge _ _ _ _) (grownCap_le_maxLen _ _ _ _ (by unfold maxLen; omega))
        simpa using this
      · exact ⟨rfl, rfl, rfl, Nat.le_of_lt (by rw [World.size_alloc]; exact Nat.lt_succ_self _), fun k hk _ => Below.heap_alloc w.drew _ k hk⟩

/-- the same at an operation of a plain region -/
theorem append_ints {P : Program} {t e : TypeId} {i : TypeInfo} {B : Nat} (ht : P.underlying t = some (.slice e)) (hi : P.info? e = some i) (hz : i.zero = some (.int .i64 0)) (hsz : i.size = 1) (hby : i.bytes = 8)
    {ops : Array Oper} {rest : List Oper} {o : Oper} {act : Act} {Q : Exit → Act → World → Prop} (w : World) (hgd : o.guard = none) (s x : Operand)
    (ho : o.op = .call { callee := .builtin .append, args := #[s, x], argTypes := #[t, t] }) (v : Value) (L : List Int) (hs : act.eval s = v) (hown : IntRow B w v L) (ad : Addr) (m c : Nat) (M : List Int) (hm : M.length = m)
    (hx : act.eval x = .slice (some ad) m c) (hnews : ∀ j, (h : j < M.length) → w.cell? (ad.add j) = some (.int .i64 M[j])) (hpos : 0 < m ∨ ∃ a n k, v = .slice (some a) n k) (hL : L.length + m ≤ 1000000) (hB : B ≤ w.heap.size)
    (h : ∀ g off cap w', IntRow B w' (.slice (some ⟨g, off, none⟩) (L.length + m) cap) (L ++ M) → w.grownBy w' v.ownBlock → (v.ownBlock = some g ∨ g = w.heap.size) →
      wpList P ops Q rest (act.put o.dst (.slice (some ⟨g, off, none⟩) (L.length + m) cap)) w') :
    wpList P ops Q (o :: rest) act w := by
  obtain ⟨g, off, cap, w', hr, h2, h3, h4⟩ := run_append_ints (P := P) (ty := o.type) ht hi hz hsz hby hown ad m c M hm hnews hpos hL hB
  refine wpList_plain hgd fun K hK => ?_
  unfold Oper.wp execOp
  simp only [ho, resolve, invoke, builtin, Sem.run_bind, Sem.run_pure, Result.andThen_ok, List.map_toArray, List.map_cons, List.map_nil, hs, hx, hr]
  exact hK _ _ (h g off cap w' h2 h3 h4)

/-- one number more, that was just laid into a block of its own; H: that block -/
theorem append_int {P : Program} {t e : TypeId} {i : TypeInfo} {B : Nat} (ht : P.underlying t = some (.slice e)) (hi : P.info? e = some i) (hz : i.zero = some (.int .i64 0)) (hsz : i.size = 1) (hby : i.bytes = 8)
    {ops : Array Oper} {rest : List Oper} {o : Oper} {act : Act} {Q : Exit → Act → World → Prop} (w : World) (hgd : o.guard = none) (s x : Operand)
    (ho : o.op = .call { callee := .builtin .append, args := #[s, x], argTypes := #[t, t] }) (v : Value) (L : List Int) (hs : act.eval s = v) (hown : IntRow B w v L) (k : Int) (H c : Nat) (hH : w.heap.size = H)
    (hx : act.eval x = .slice (some ⟨H, 0, none⟩) 1 c) (hL : L.length ≤ 900000) (hB : B ≤ H)
    (h : ∀ g off cap w', IntRow B w' (.slice (some ⟨g, off, none⟩) (L.length + 1) cap) (L ++ [k]) → w.grownBy w' v.ownBlock → (v.ownBlock = some g ∨ H ≤ g) → g < w'.heap.size →
      wpList P ops Q rest (act.put o.dst (.slice (some ⟨g, off, none⟩) (L.length + 1) cap)) w') :
    wpList P ops Q (o :: rest) act (w.alloc (.cells #[.int .i64 k] e)) := by
  subst hH
  refine append_ints ht hi hz hsz hby _ hgd s x ho v L hs (hown.below ((Below.refl _ _).alloc (Nat.le_refl _) _)) ⟨w.heap.size, 0, none⟩ 1 c [k] rfl hx (fun j hj => ?_) (.inl (by omega)) (by omega) (by simp; omega) fun g off cap w' h1 h2 h3 => ?_
  · obtain rfl : j = 0 := by simpa using hj
    simp [Addr.add_lit, go_sem]
  · have hA := World.grownBy_alloc w (.cells #[.int .i64 k] e) v.ownBlock
    refine h g off cap w' h1 ⟨h2.os.trans hA.os, h2.tape.trans hA.tape, h2.output.trans hA.output, Nat.le_trans hA.size h2.size, fun i hi hn => (h2.block i (Nat.lt_of_lt_of_le hi hA.size) hn).trans (hA.block i hi hn)⟩ ?_ (h1.lt g rfl).2
    rcases h3 with h3 | h3
    · exact .inl h3
    · right; rw [h3]; simp

end Go.Proofs.YthkjgfhheejaoaaGreatDoor
