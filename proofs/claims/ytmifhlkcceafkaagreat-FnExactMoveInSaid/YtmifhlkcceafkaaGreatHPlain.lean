/-
  Plain words for what a program of this project looks like in memory (operations, methods), and how such facts are carried from one world to a later one. Nothing of the translation is used here.
-/
import Derived.WalkKit
import Derived.WalkSpells
import Derived.Deep.OwnRows
import Derived.Deep.LoopGhost
import Derived.Test.YtmifhlkcceafkaaGreatProg

namespace Go.Proofs.YtmifhlkcceafkaaGreat
open Go.RowKit
def OpsAt (w : World) (v : Value) (ops : List (Int × Int)) : Prop :=
  ∃ (a : Option Addr) (cap : Nat), v = .slice a ops.length cap ∧ ops.length ≤ maxLen ∧
    ∀ i, (h : i < ops.length) → ∃ b o, a = some ⟨b, o, none⟩ ∧ w.cell? ⟨b, o + i * 2, none⟩ = some (.int .i64 ops[i].1) ∧ w.cell? ⟨b, o + i * 2 + 1, none⟩ = some (.int .i64 ops[i].2)
def MethsAt (w : World) (v : Value) (ms : List (Int × Int × List (Int × Int))) : Prop :=
  ∃ (a : Option Addr) (cap : Nat), v = .slice a ms.length cap ∧ ms.length ≤ maxLen ∧
    ∀ i, (h : i < ms.length) → ∃ b o vo, a = some ⟨b, o, none⟩ ∧ w.cell? ⟨b, o + i * 3, none⟩ = some (.int .i64 ms[i].1) ∧ w.cell? ⟨b, o + i * 3 + 1, none⟩ = some (.int .i64 ms[i].2.1) ∧
      w.cell? ⟨b, o + i * 3 + 2, none⟩ = some vo ∧ OpsAt w vo ms[i].2.2
theorem cell_below {w w' : World} (hb : Below w.heap.size w w') {p : Addr} {v : Value} (h : w.cell? p = some v) : w'.cell? p = some v := by
  rw [hb.cell (World.block_lt_of_cell? _ _ h)]; exact h
theorem OpsAt.below {w w' : World} {v : Value} {ops : List (Int × Int)} (h : OpsAt w v ops) (hb : Below w.heap.size w w') : OpsAt w' v ops := by
  obtain ⟨a, cap, hv, hl, hc⟩ := h
  refine ⟨a, cap, hv, hl, fun i hi => ?_⟩
  obtain ⟨b, o, ha, h0, h1⟩ := hc i hi
  exact ⟨b, o, ha, cell_below hb h0, cell_below hb h1⟩
theorem MethsAt.below {w w' : World} {v : Value} {ms : List (Int × Int × List (Int × Int))} (h : MethsAt w v ms) (hb : Below w.heap.size w w') : MethsAt w' v ms := by
  obtain ⟨a, cap, hv, hl, hc⟩ := h
  refine ⟨a, cap, hv, hl, fun i hi => ?_⟩
  obtain ⟨b, o, vo, ha, h0, h1, h2, h3⟩ := hc i hi
  exact ⟨b, o, vo, ha, cell_below hb h0, cell_below hb h1, cell_below hb h2, h3.below hb⟩
theorem row_below {w w' : World} (hb : Below w.heap.size w w') {b : Nat} {t : TypeId} {n : Nat} {f : Nat → Value} (h : w.rowIs b t n f) : w'.rowIs b t n f := h.of_block (hb.block b h.lt)
def opCell (ops : List (Int × Int)) (j : Nat) : Value := .int .i64 (if j % 2 = 0 then (ops.getD (j / 2) (0, 0)).1 else (ops.getD (j / 2) (0, 0)).2)
theorem opCell_0 {ops : List (Int × Int)} {k : Nat} (h : k < ops.length) : opCell ops (k * 2) = .int .i64 ops[k].1 := by
  unfold opCell
  rw [if_pos (by omega), show k * 2 / 2 = k by omega]
  simp [h]
theorem opCell_1 {ops : List (Int × Int)} {k : Nat} (h : k < ops.length) : opCell ops (k * 2 + 1) = .int .i64 ops[k].2 := by
  unfold opCell
  rw [if_neg (by omega), show (k * 2 + 1) / 2 = k by omega]
  simp [h]
theorem ops_row_start (w : World) (n : Nat) (t : TypeId) (ops : List (Int × Int)) : (w.alloc (.cells (madeCells #[.int .i64 0, .int .i64 0] n) t)).rowIs w.heap.size t n (fun j => if j < 0 * 2 then opCell ops j else .int .i64 0) := by
  refine ⟨_, Go.Deep.blk_alloc_new _ _, size_madeCells _ _, fun i hi => ?_⟩
  have h : (i % 2 = 0) ∨ (i % 2 = 1) := by omega
  rcases h with h | h <;> simp [madeCells, hi, h]
theorem ops_row_step {w : World} {b n k : Nat} {t : TypeId} {ops : List (Int × Int)} (hk : k < ops.length) (h : w.rowIs b t n (fun j => if j < k * 2 then opCell ops j else .int .i64 0)) :
    ((w.setCell ⟨b, k * 2, none⟩ (.int .i64 ops[k].1)).setCell ⟨b, k * 2 + 1, none⟩ (.int .i64 ops[k].2)).rowIs b t n (fun j => if j < (k + 1) * 2 then opCell ops j else .int .i64 0) := by
  refine ((h.set (k * 2) _).set (k * 2 + 1) _).congr fun j _ => ?_
  by_cases e1 : j = k * 2 + 1
  · subst e1; simp only [if_true]; rw [if_pos (by omega), opCell_1 hk]
  · by_cases e0 : j = k * 2
    · subst e0; rw [if_neg e1, if_pos rfl, if_pos (by omega), opCell_0 hk]
    · rw [if_neg e1, if_neg e0]
      by_cases hj : j < k * 2
      · rw [if_pos hj, if_pos (by omega)]
      · rw [if_neg hj, if_neg (by omega)]
theorem ops_row_end {w : World} {b : Nat} {t : TypeId} {ops : List (Int × Int)} (hl : ops.length ≤ maxLen) (h : w.rowIs b t (ops.length * 2) (fun j => if j < ops.length * 2 then opCell ops j else .int .i64 0)) (cap : Nat) :
    OpsAt w (.slice (some ⟨b, 0, none⟩) ops.length cap) ops := by
  refine ⟨_, cap, rfl, hl, fun i hi => ⟨b, 0, rfl, ?_, ?_⟩⟩
  · have := h.cell (i := i * 2) (by omega)
    rw [if_pos (by omega), opCell_0 hi] at this
    simpa using this
  · have := h.cell (i := i * 2 + 1) (by omega)
    rw [if_pos (by omega), opCell_1 hi] at this
    simpa using this
def Own (B : Nat) (v : Value) : Prop := ∃ g l c, v = .slice (some ⟨g, 0, none⟩) l c ∧ B ≤ g
theorem Own.mono {B B' : Nat} {v : Value} (h : Own B v) (hB : B' ≤ B) : Own B' v := by
  obtain ⟨g, l, c, hv, hg⟩ := h
  exact ⟨g, l, c, hv, by omega⟩
theorem OpsAt.set {w : World} {v : Value} {ops : List (Int × Int)} {B : Nat} (h : OpsAt w v ops) (ho : Own B v) {p : Addr} (hp : p.block < B) (u : Value) : OpsAt (w.setCell p u) v ops := by
  obtain ⟨a, cap, hv, hl, hc⟩ := h
  obtain ⟨g, l, c, rfl, hg⟩ := ho
  refine ⟨a, cap, hv, hl, fun i hi => ?_⟩
  obtain ⟨b, o, ha, h0, h1⟩ := hc i hi
  have hbg : b = g := by
    rw [ha] at hv
    injection hv with h1 _ _
    injection h1 with h1
    injection h1 with h1 _
    exact h1.symm
  refine ⟨b, o, ha, ?_, ?_⟩
  · rw [World.cell?_setCell_other _ _ _ _ (fun e => by have := congrArg Addr.block e; simp at this; omega)]; exact h0
  · rw [World.cell?_setCell_other _ _ _ _ (fun e => by have := congrArg Addr.block e; simp at this; omega)]; exact h1
def methCell (ms : List (Int × Int × List (Int × Int))) (V : Nat → Value) (j : Nat) : Value :=
  if j % 3 = 0 then .int .i64 (ms.getD (j / 3) (0, 0, [])).1 else if j % 3 = 1 then .int .i64 (ms.getD (j / 3) (0, 0, [])).2.1 else V (j / 3)
def methZero (j : Nat) : Value := if j % 3 = 2 then .slice none 0 0 else .int .i64 0
theorem methCell_0 {ms : List (Int × Int × List (Int × Int))} {V : Nat → Value} {k : Nat} (h : k < ms.length) : methCell ms V (k * 3) = .int .i64 ms[k].1 := by
  unfold methCell
  rw [if_pos (by omega), show k * 3 / 3 = k by omega]
  simp [h]
theorem methCell_1 {ms : List (Int × Int × List (Int × Int))} {V : Nat → Value} {k : Nat} (h : k < ms.length) : methCell ms V (k * 3 + 1) = .int .i64 ms[k].2.1 := by
  unfold methCell
  rw [if_neg (by omega), if_pos (by omega), show (k * 3 + 1) / 3 = k by omega]
  simp [h]
theorem methCell_2 {ms : List (Int × Int × List (Int × Int))} {V : Nat → Value} {k : Nat} : methCell ms V (k * 3 + 2) = V k := by
  unfold methCell
  rw [if_neg (by omega), if_neg (by omega), show (k * 3 + 2) / 3 = k by omega]
theorem meth_row_start (w : World) (n : Nat) (t : TypeId) (f : Nat → Value) : (w.alloc (.cells (madeCells #[.int .i64 0, .int .i64 0, .slice none 0 0] n) t)).rowIs w.heap.size t n (fun j => if j < 0 * 3 then f j else methZero j) := by
  refine ⟨_, Go.Deep.blk_alloc_new _ _, size_madeCells _ _, fun i hi => ?_⟩
  have h : (i % 3 = 0) ∨ (i % 3 = 1) ∨ (i % 3 = 2) := by omega
  rcases h with h | h | h <;> simp [madeCells, hi, h, methZero]
theorem meth_row_step {w : World} {b n k : Nat} {t : TypeId} {ms : List (Int × Int × List (Int × Int))} {V : Nat → Value} (hk : k < ms.length) (vo : Value) (h : w.rowIs b t n (fun j => if j < k * 3 then methCell ms V j else methZero j)) :
    (((w.setCell ⟨b, k * 3, none⟩ (.int .i64 ms[k].1)).setCell ⟨b, k * 3 + 1, none⟩ (.int .i64 ms[k].2.1)).setCell ⟨b, k * 3 + 2, none⟩ vo).rowIs b t n (fun j => if j < (k + 1) * 3 then methCell ms (fun i => if i = k then vo else V i) j else methZero j) := by
  refine (((h.set (k * 3) _).set (k * 3 + 1) _).set (k * 3 + 2) _).congr fun j _ => ?_
  by_cases e2 : j = k * 3 + 2
  · subst e2; simp only [if_true]; rw [if_pos (by omega), methCell_2, if_pos rfl]
  · by_cases e1 : j = k * 3 + 1
    · subst e1; rw [if_neg e2, if_pos rfl, if_pos (by omega), methCell_1 hk]
    · by_cases e0 : j = k * 3
      · subst e0; rw [if_neg e2, if_neg e1, if_pos rfl, if_pos (by omega), methCell_0 hk]
      · rw [if_neg e2, if_neg e1, if_neg e0]
        by_cases hj : j < k * 3
        · rw [if_pos hj, if_pos (by omega)]
          unfold methCell
          split
          · rfl
          · split
            · rfl
            · show V (j / 3) = if j / 3 = k then vo else V (j / 3)
              rw [if_neg (by omega)]
        · rw [if_neg hj, if_neg (by omega)]
def MethsNew (B : Nat) (w : World) (v : Value) (ms : List (Int × Int × List (Int × Int))) : Prop :=
  ∃ (g cap : Nat), v = .slice (some ⟨g, 0, none⟩) ms.length cap ∧ B ≤ g ∧ ms.length ≤ maxLen ∧
    ∀ i, (h : i < ms.length) → ∃ vo, w.cell? ⟨g, 0 + i * 3, none⟩ = some (.int .i64 ms[i].1) ∧ w.cell? ⟨g, 0 + i * 3 + 1, none⟩ = some (.int .i64 ms[i].2.1) ∧
      w.cell? ⟨g, 0 + i * 3 + 2, none⟩ = some vo ∧ OpsAt w vo ms[i].2.2 ∧ Own B vo
theorem MethsNew.at {B : Nat} {w : World} {v : Value} {ms : List (Int × Int × List (Int × Int))} (h : MethsNew B w v ms) : MethsAt w v ms := by
  obtain ⟨g, cap, hv, _, hl, hc⟩ := h
  refine ⟨_, cap, hv, hl, fun i hi => ?_⟩
  obtain ⟨vo, h0, h1, h2, h3, _⟩ := hc i hi
  exact ⟨g, 0, vo, rfl, h0, h1, h2, h3⟩
theorem MethsNew.own {B : Nat} {w : World} {v : Value} {ms : List (Int × Int × List (Int × Int))} (h : MethsNew B w v ms) : Own B v := by
  obtain ⟨g, cap, hv, hg, _⟩ := h
  exact ⟨g, _, cap, hv, hg⟩
theorem MethsNew.mono {B B' : Nat} {w : World} {v : Value} {ms : List (Int × Int × List (Int × Int))} (h : MethsNew B w v ms) (hB : B' ≤ B) : MethsNew B' w v ms := by
  obtain ⟨g, cap, hv, hg, hl, hc⟩ := h
  refine ⟨g, cap, hv, by omega, hl, fun i hi => ?_⟩
  obtain ⟨vo, h0, h1, h2, h3, h4⟩ := hc i hi
  exact ⟨vo, h0, h1, h2, h3, h4.mono hB⟩
theorem MethsNew.below {B : Nat} {w w' : World} {v : Value} {ms : List (Int × Int × List (Int × Int))} (h : MethsNew B w v ms) (hb : Below w.heap.size w w') : MethsNew B w' v ms := by
  obtain ⟨g, cap, hv, hg, hl, hc⟩ := h
  refine ⟨g, cap, hv, hg, hl, fun i hi => ?_⟩
  obtain ⟨vo, h0, h1, h2, h3, h4⟩ := hc i hi
  exact ⟨vo, cell_below hb h0, cell_below hb h1, cell_below hb h2, h3.below hb, h4⟩
theorem MethsNew.set {B : Nat} {w : World} {v : Value} {ms : List (Int × Int × List (Int × Int))} (h : MethsNew B w v ms) {p : Addr} (hp : p.block < B) (u : Value) : MethsNew B (w.setCell p u) v ms := by
  obtain ⟨g, cap, hv, hg, hl, hc⟩ := h
  refine ⟨g, cap, hv, hg, hl, fun i hi => ?_⟩
  obtain ⟨vo, h0, h1, h2, h3, h4⟩ := hc i hi
  have key : ∀ o x, w.cell? ⟨g, o, none⟩ = some x → (w.setCell p u).cell? ⟨g, o, none⟩ = some x := fun o x hx => by
    rw [World.cell?_setCell_other _ _ _ _ (fun e => by have := congrArg Addr.block e; simp at this; omega)]; exact hx
  exact ⟨vo, key _ _ h0, key _ _ h1, key _ _ h2, h3.set h4 hp u, h4⟩
theorem meth_row_end {w : World} {b : Nat} {t : TypeId} {ms : List (Int × Int × List (Int × Int))} {V : Nat → Value} (hl : ms.length ≤ maxLen) (h : w.rowIs b t (ms.length * 3) (fun j => if j < ms.length * 3 then methCell ms V j else methZero j))
    {B : Nat} (hB : B ≤ b) (hV : ∀ i, (hi : i < ms.length) → OpsAt w (V i) ms[i].2.2 ∧ Own B (V i)) (cap : Nat) : MethsNew B w (.slice (some ⟨b, 0, none⟩) ms.length cap) ms := by
  refine ⟨b, cap, rfl, hB, hl, fun i hi => ⟨V i, ?_, ?_, ?_, hV i hi⟩⟩
  · have := h.cell (i := i * 3) (by omega)
    rw [if_pos (by omega), methCell_0 hi] at this
    simpa using this
  · have := h.cell (i := i * 3 + 1) (by omega)
    rw [if_pos (by omega), methCell_1 hi] at this
    simpa using this
  · have := h.cell (i := i * 3 + 2) (by omega)
    rw [if_pos (by omega), methCell_2] at this
    simpa using this
structure Boxes (w wr : World) (vp : Value) (x t : Int) (vo : Value) : Prop where
  p : wr.cell? ⟨w.heap.size, 0, none⟩ = some vp
  a : wr.cell? ⟨w.heap.size + 1, 0, none⟩ = some (.int .i64 x)
  b : wr.cell? ⟨w.heap.size + 1, 1, none⟩ = some (.int .i64 t)
  c : wr.cell? ⟨w.heap.size + 1, 2, none⟩ = some vo
  below : Below w.heap.size w wr
theorem Boxes.new (w : World) (vp : Value) (x t : Int) (vo : Value) (t1 t2 : TypeId) : Boxes w ((w.alloc (.cells #[vp] t1)).alloc (.cells #[.int .i64 x, .int .i64 t, vo] t2)) vp x t vo := by
  refine ⟨?_, ?_, ?_, ?_, ((Below.refl _ _).alloc (Nat.le_refl _) _).alloc (by simp) _⟩
  all_goals simp [go_sem]
theorem Boxes.go {w wr w1 : World} {vp : Value} {x t : Int} {vo : Value} (h : Boxes w wr vp x t vo) (hb : Below wr.heap.size wr w1) : Boxes w w1 vp x t vo :=
  ⟨cell_below hb h.p, cell_below hb h.a, cell_below hb h.b, cell_below hb h.c, h.below.trans (hb.mono h.below.size)⟩
theorem bcell {W w1 : World} (hb : Below W.heap.size W w1) : (∀ b o, b < W.heap.size → w1.cell? ⟨b, o, none⟩ = W.cell? ⟨b, o, none⟩) ∧ (∀ b o, b < W.heap.size → w1.frozen? ⟨b, o, none⟩ = W.frozen? ⟨b, o, none⟩) :=
  ⟨fun b o h => hb.cell (p := ⟨b, o, none⟩) h, fun b o h => hb.frozen (p := ⟨b, o, none⟩) h⟩
end Go.Proofs.YtmifhlkcceafkaaGreat

/-
  Plain words for what calls and heaps of this project look like in memory, and how such facts are carried from one world to a later one. Values are pairs of numbers (kind, number): a row of values lies in memory as a row of operations does. Nothing of the translation is used here.
-/
namespace Go.Proofs.YtmifhlkcceafkaaGreat
open Go.RowKit
structure Cl where
  m : Int
  pc : Int
  temps : List (Int × Int)
  stack : List (Int × Int)
  sender : Int
  dead : Bool
structure Hp where
  calls : List Cl
  now : Int
  born : Int
  said : List (Int × Int)
  code : Int
structure ClAt (w : World) (b o : Nat) (vt vs : Value) (c : Cl) : Prop where
  c0 : w.cell? ⟨b, o, none⟩ = some (.int .i64 c.m)
  c1 : w.cell? ⟨b, o + 1, none⟩ = some (.int .i64 c.pc)
  c2 : w.cell? ⟨b, o + 2, none⟩ = some vt
  c3 : w.cell? ⟨b, o + 3, none⟩ = some vs
  c4 : w.cell? ⟨b, o + 4, none⟩ = some (.int .i64 c.sender)
  c5 : w.cell? ⟨b, o + 5, none⟩ = some (.bool c.dead)
  t : OpsAt w vt c.temps
  s : OpsAt w vs c.stack
theorem ClAt.below {w w' : World} {b o : Nat} {vt vs : Value} {c : Cl} (h : ClAt w b o vt vs c) (hb : Below w.heap.size w w') : ClAt w' b o vt vs c :=
  ⟨cell_below hb h.c0, cell_below hb h.c1, cell_below hb h.c2, cell_below hb h.c3, cell_below hb h.c4, cell_below hb h.c5, h.t.below hb, h.s.below hb⟩
def CallsAt (w : World) (v : Value) (cs : List Cl) : Prop :=
  ∃ (a : Option Addr) (cap : Nat), v = .slice a cs.length cap ∧ cs.length ≤ maxLen ∧
    ∀ i, (h : i < cs.length) → ∃ b o vt vs, a = some ⟨b, o, none⟩ ∧ ClAt w b (o + i * 6) vt vs cs[i]
theorem CallsAt.below {w w' : World} {v : Value} {cs : List Cl} (h : CallsAt w v cs) (hb : Below w.heap.size w w') : CallsAt w' v cs := by
  obtain ⟨a, cap, hv, hl, hc⟩ := h
  refine ⟨a, cap, hv, hl, fun i hi => ?_⟩
  obtain ⟨b, o, vt, vs, ha, h0⟩ := hc i hi
  exact ⟨b, o, vt, vs, ha, h0.below hb⟩
theorem CallsAt.nil (w : World) : CallsAt w (.slice none 0 0) [] := ⟨none, 0, rfl, Nat.zero_le _, fun _ hi => absurd hi (Nat.not_lt_zero _)⟩
def hpCells (vc vs : Value) (h : Hp) : Array Value := #[vc, .int .i64 h.now, .int .i64 h.born, vs, .int .i64 h.code]
structure HeapAt (w : World) (vc vs : Value) (h : Hp) : Prop where
  c : CallsAt w vc h.calls
  s : OpsAt w vs h.said
theorem HeapAt.below {w w' : World} {vc vs : Value} {h : Hp} (k : HeapAt w vc vs h) (hb : Below w.heap.size w w') : HeapAt w' vc vs h := ⟨k.c.below hb, k.s.below hb⟩
theorem OpsAt.shape {w : World} {v : Value} {ops : List (Int × Int)} (h : OpsAt w v ops) : ∃ a c, v = .slice a ops.length c := by
  obtain ⟨a, c, hv, _⟩ := h
  exact ⟨a, c, hv⟩
theorem CallsAt.shape {w : World} {v : Value} {cs : List Cl} (h : CallsAt w v cs) : ∃ a c, v = .slice a cs.length c := by
  obtain ⟨a, c, hv, _⟩ := h
  exact ⟨a, c, hv⟩
def Cl.small (c : Cl) : Prop := c.temps.length ≤ 1048576 ∧ c.stack.length ≤ 1048576
def Hp.small (h : Hp) : Prop := h.calls.length ≤ 1048576 ∧ (∀ i, (hi : i < h.calls.length) → h.calls[i].small) ∧ h.said.length ≤ 1048576
end Go.Proofs.YtmifhlkcceafkaaGreat

/-
  When a program is ok, in plain words: the one function that both the document's model and the program are held against. Nothing of the translation is used here.
-/
namespace Go.Proofs.YtmifhlkcceafkaaGreat
def inR (n lo hi : Int) : Bool := decide (lo ≤ n) && decide (n ≤ hi)
theorem inR_true {n lo hi : Int} : inR n lo hi = true ↔ lo ≤ n ∧ n ≤ hi := by simp [inR]
theorem inR_false {n lo hi : Int} : inR n lo hi = false ↔ ¬ (lo ≤ n ∧ n ≤ hi) := by
  rw [← inR_true]; simp
def opOk (nm no : Nat) (t k a : Int) : Bool :=
  if k = 1 then inR a 0 99
  else if k = 2 ∨ k = 3 then inR a 0 (t - 1)
  else if k = 7 ∨ k = 8 then inR a 0 ((no : Int) - 1)
  else if k = 9 then inR a 0 ((nm : Int) - 1)
  else if k = 13 ∨ k = 14 then inR a 0 3
  else inR k 1 18 && (a == 0)
def opsOk (nm : Nat) (t : Int) (ops : List (Int × Int)) : Bool := ops.all fun op => opOk nm ops.length t op.1 op.2
def methOk (nm : Nat) (m : Int × Int × List (Int × Int)) : Bool :=
  inR m.1 0 2 && inR m.2.1 m.1 4 && decide (m.2.2.length ≤ 14) && opsOk nm m.2.1 m.2.2
def progOk (ms : List (Int × Int × List (Int × Int))) : Bool :=
  inR ms.length 1 4 && ((ms.getD 0 (0, 0, [])).1 == 0) && ms.all (methOk ms.length)
theorem all_of {α : Type} {l : List α} {p : α → Bool} (h : ∀ i, (hi : i < l.length) → p l[i] = true) : l.all p = true := by
  rw [List.all_eq_true]
  intro x hx
  obtain ⟨i, hi, rfl⟩ := List.getElem_of_mem hx
  exact h i hi
theorem all_not {α : Type} {l : List α} {p : α → Bool} {i : Nat} (hi : i < l.length) (h : p l[i] = false) : l.all p = false := by
  rw [List.all_eq_false]
  exact ⟨_, List.getElem_mem hi, by simp [h]⟩
theorem opsOk_yes {nm : Nat} {t : Int} {ops : List (Int × Int)} (h : ∀ i, (hi : i < ops.length) → opOk nm ops.length t ops[i].1 ops[i].2 = true) : opsOk nm t ops = true := all_of h
theorem opsOk_no {nm : Nat} {t : Int} {ops : List (Int × Int)} {i : Nat} (hi : i < ops.length) (h : opOk nm ops.length t ops[i].1 ops[i].2 = false) : opsOk nm t ops = false := all_not hi h
theorem methOk_of {nm : Nat} {x t : Int} {ops : List (Int × Int)} (h1 : inR x 0 2 = true) (h2 : inR t x 4 = true) (h3 : ops.length ≤ 14) {b : Bool} (h4 : opsOk nm t ops = b) : methOk nm (x, t, ops) = b := by
  simp [methOk, h1, h2, h3, h4]
theorem methOk_no1 {nm : Nat} {x t : Int} {ops : List (Int × Int)} (h : inR x 0 2 = false) : methOk nm (x, t, ops) = false := by simp [methOk, h]
theorem methOk_no2 {nm : Nat} {x t : Int} {ops : List (Int × Int)} (h : inR t x 4 = false) : methOk nm (x, t, ops) = false := by simp [methOk, h]
theorem methOk_no3 {nm : Nat} {x t : Int} {ops : List (Int × Int)} (h : ¬ ops.length ≤ 14) : methOk nm (x, t, ops) = false := by simp [methOk, h]
theorem opOk_else (nm no : Nat) (t k a : Int) (h1 : ¬ k = 1) (h2 : ¬ k = 2) (h3 : ¬ k = 3) (h7 : ¬ k = 7) (h8 : ¬ k = 8) (h9 : ¬ k = 9) (h13 : ¬ k = 13) (h14 : ¬ k = 14) : opOk nm no t k a = (inR k 1 18 && (a == 0)) := by
  simp [opOk, h1, h2, h3, h7, h8, h9, h13, h14]
theorem opOk_noKind {nm no : Nat} {t k a : Int} (h : inR k 1 18 = false) : opOk nm no t k a = false := by
  rw [inR_false] at h
  rw [opOk_else nm no t k a (by omega) (by omega) (by omega) (by omega) (by omega) (by omega) (by omega) (by omega), inR_false.2 h]
  rfl
theorem ret_bool {a b : Bool} (h : a = b) : Ending.returned (.bool a) = .returned (.bool b) := by rw [h]
def Few (v : Int × Int) : Prop := 0 ≤ v.1 ∧ v.1 ≤ 2 ∧ 0 ≤ v.2 ∧ v.2 < 1000
end Go.Proofs.YtmifhlkcceafkaaGreat

/-
  When a value, a call, a heap is in form, in plain words: what both the document's model and the program are held against. Nothing of the translation is used here.
-/
namespace Go.Proofs.YtmifhlkcceafkaaGreat
def valOk (n : Int) (k a : Int) : Bool := if k = 0 then a == 0 else if k = 1 then inR a 0 999 else if k = 2 then inR a 0 (n - 1) else false
def valsOk (n : Int) (l : List (Int × Int)) : Bool := l.all fun v => valOk n v.1 v.2
theorem valsOk_yes {n : Int} {l : List (Int × Int)} (h : ∀ i, (hi : i < l.length) → valOk n l[i].1 l[i].2 = true) : valsOk n l = true := all_of h
theorem valsOk_no {n : Int} {l : List (Int × Int)} {i : Nat} (hi : i < l.length) (h : valOk n l[i].1 l[i].2 = false) : valsOk n l = false := all_not hi h
def clOk (ms : List (Int × Int × List (Int × Int))) (n : Nat) (c : Cl) : Bool :=
  inR c.m 0 ((ms.length : Int) - 1) && inR c.pc 0 ((ms.getD c.m.toNat (0, 0, [])).2.2.length : Int) && decide ((c.temps.length : Int) = (ms.getD c.m.toNat (0, 0, [])).2.1) && decide (c.stack.length ≤ 6) &&
  (inR c.sender (-1) ((n : Int) - 1) && valsOk n c.temps && valsOk n c.stack && (!c.dead || (c.sender == -1 && c.stack.length == 0)))
end Go.Proofs.YtmifhlkcceafkaaGreat

/-
  The sizes that the exact laws look at first, of values, calls and heaps: where szHeap answers no number below 0, none of its lists is longer than 1048576; it writes to nothing that was there.
-/
namespace Go.Proofs.YtmifhlkcceafkaaGreat
open Go.RowKit
theorem szValS_any (a : Option Addr) (n c : Nat) (left : Int) (w : World) (h0 : 0 ≤ left) (h1 : left ≤ 1048576) (hn : n ≤ maxLen) :
    Calls Tryz.prog 19 #[.slice a n c, .int .i64 left] w fun e w' => ∃ r : Int, e = .returned (.int .i64 r) ∧ r ≤ 1048576 ∧ (0 ≤ r → n ≤ 1048576) ∧ w' = w := by
  unfold maxLen at hn
  go_enter Tryz.func19, Tryz.ntmps19
  by_cases hlt : left - n < 0
  · go_wp2
    go_ret
    exact ⟨_, rfl, by omega, fun h => absurd h (by omega), rfl⟩
  · go_wp2
    go_ret
    exact ⟨_, rfl, by omega, fun _ => by omega, rfl⟩
set_option maxHeartbeats 400000 in
theorem szCall_any (c : Cl) (vt vs : Value) (left : Int) (w : World) (ht : OpsAt w vt c.temps) (hs : OpsAt w vs c.stack) (h0 : 0 ≤ left) (h1 : left ≤ 1048576) :
    Calls Tryz.prog 52 #[.agg #[.int .i64 c.m, .int .i64 c.pc, vt, vs, .int .i64 c.sender, .bool c.dead], .int .i64 left] w fun e w' => ∃ r : Int, e = .returned (.int .i64 r) ∧ r ≤ 1048576 ∧ (0 ≤ r → c.small) ∧ Below w.heap.size w w' := by
  obtain ⟨a1, k1, rfl, hl1, _⟩ := ht
  obtain ⟨a2, k2, rfl, hl2, _⟩ := hs
  have HB : ∀ o, Below w.heap.size w (w.alloc o) := fun o => (Below.refl _ _).alloc (Nat.le_refl _) _
  go_enter Tryz.func52, Tryz.ntmps52
  go_wp2_with fail
  refine (szValS_any _ _ _ _ _ h0 h1 hl1).mono ?_
  rintro e w1 ⟨r, rfl, hr, hr0, rfl⟩
  by_cases hlt : r < 0
  · go_wp2
    go_ret
    exact ⟨_, rfl, by omega, fun h => absurd h (by omega), HB _⟩
  have hrn := hr0 (by omega)
  clear hr0
  go_wp2_with fail
  refine (szValS_any _ _ _ _ _ (by omega) hr hl2).mono ?_
  rintro e w2 ⟨q, rfl, hq, hq0, rfl⟩
  by_cases hlt2 : q < 0
  · go_wp2
    go_ret
    exact ⟨_, rfl, by omega, fun h => absurd h (by omega), HB _⟩
  have hqn := hq0 (by omega)
  clear hq0
  go_wp2
  go_ret
  exact ⟨_, rfl, by omega, fun _ => ⟨hrn, hqn⟩, HB _⟩
set_option maxHeartbeats 1000000 in
theorem szCallS_any (v : Value) (cs : List Cl) (left : Int) (w : World) (h : CallsAt w v cs) (h0 : 0 ≤ left) (h1 : left ≤ 1048576) :
    Calls Tryz.prog 18 #[v, .int .i64 left] w fun e w' => ∃ r : Int, e = .returned (.int .i64 r) ∧ r ≤ 1048576 ∧ (0 ≤ r → cs.length ≤ 1048576 ∧ ∀ i, (hi : i < cs.length) → cs[i].small) ∧ Below w.heap.size w w' := by
  obtain ⟨a, cap, rfl, hl, hc⟩ := h
  unfold maxLen at hl
  go_enter Tryz.func18, Tryz.ntmps18
  by_cases hlt : left - cs.length < 0
  · go_wp2
    go_ret
    exact ⟨_, rfl, by omega, fun h => absurd h (by omega), Below.refl _ _⟩
  · go_wp2
    go_loopg [1, 5] cs.length (fun g l i wr => ∃ (k : Nat) (r : Int), k ≤ cs.length ∧ g = cs.length - k ∧ i = .int .i64 k ∧ l = .int .i64 r ∧ 0 ≤ r ∧ r ≤ 1048576 ∧ Below w.heap.size w wr ∧ ∀ j, (hj : j < cs.length) → j < k → cs[j].small)
    case atStart => exact ⟨0, _, Nat.zero_le _, rfl, rfl, rfl, by omega, by omega, Below.refl _ _, fun j _ h => absurd h (Nat.not_lt_zero _)⟩
    case round =>
      obtain ⟨k, r, hk, rfl, rfl, rfl, hr0, hr1, hb, hall⟩ := hrel
      have H : Hid (∀ j, (hj : j < cs.length) → j < k → cs[j].small) := hall
      clear hall
      by_cases hlk : k < cs.length
      · obtain ⟨b, o, vt, vs, rfl, hcl⟩ := hc k hlk
        have hcr := hcl.below hb
        obtain ⟨d0, d1, d2, d3, d4, d5, dt, ds⟩ := hcr
        obtain ⟨a1, k1, hv1⟩ := dt.shape
        obtain ⟨a2, k2, hv2⟩ := ds.shape
        rw [hv1] at d2 dt
        rw [hv2] at d3 ds
        clear hcl hv1 hv2
        have hkz : (k : Int) < (cs.length : Int) := by omega
        go_wp2_with fail
        refine (szCall_any cs[k] _ _ _ _ dt ds hr0 hr1).mono ?_
        rintro e w1 ⟨q, rfl, hq1, hq0, hb1⟩
        have hb2 : Below w.heap.size w w1 := hb.trans (hb1.mono hb.size)
        have HQ : Hid (0 ≤ q → cs[k].small) := hq0
        clear hb hb1 d0 d1 d2 d3 d4 d5 dt ds hq0
        by_cases hq : q < 0
        · go_wp2
          go_ret
          exact ⟨_, rfl, by omega, fun h => absurd h (by omega), hb2⟩
        · have hqs := HQ.out (by omega)
          have HS : Hid (cs[k].small) := hqs
          clear HQ hqs
          go_wp2
          go_roundg (cs.length - (k + 1))
          case measure => omega
          case rel =>
            refine ⟨k + 1, q, by omega, rfl, by go_num, rfl, by omega, hq1, hb2, fun j hj hjk => ?_⟩
            by_cases e : j = k
            · subst e; exact HS.out
            · exact H.out j hj (by omega)
      · obtain rfl : k = cs.length := by omega
        go_wp2
        go_ret
        exact ⟨_, rfl, by omega, fun _ => ⟨by omega, fun i hi => H.out i hi hi⟩, hb⟩
set_option maxHeartbeats 1000000 in
theorem szHeap_any (h : Hp) (vc vs : Value) (left : Int) (w : World) (hh : HeapAt w vc vs h) (h0 : 0 ≤ left) (h1 : left ≤ 1048576) :
    Calls Tryz.prog 5 #[.agg (hpCells vc vs h), .int .i64 left] w fun e w' => ∃ r : Int, e = .returned (.int .i64 r) ∧ r ≤ 1048576 ∧ (0 ≤ r → h.small) ∧ Below w.heap.size w w' := by
  unfold hpCells
  obtain ⟨ac, kc, hvc⟩ := hh.c.shape
  obtain ⟨aD, ks, hvs⟩ := hh.s.shape
  subst hvc hvs
  have hsl := hh.s
  obtain ⟨_, _, _, hml, _⟩ := hsl
  have hA := (Below.refl w.heap.size w).alloc (Nat.le_refl _) (.cells #[.slice ac h.calls.length kc, .int .i64 h.now, .int .i64 h.born, .slice aD h.said.length ks, .int .i64 h.code] 28)
  have b3 : (w.alloc (.cells #[.slice ac h.calls.length kc, .int .i64 h.now, .int .i64 h.born, .slice aD h.said.length ks, .int .i64 h.code] 28)).cell? ⟨w.heap.size, 3, none⟩ = some (.slice aD h.said.length ks) := by simp [go_sem]
  go_enter Tryz.func5, Tryz.ntmps5
  go_wp2_with fail
  generalize w.alloc (.cells #[.slice ac h.calls.length kc, .int .i64 h.now, .int .i64 h.born, .slice aD h.said.length ks, .int .i64 h.code] 28) = W0 at *
  have zA := hA.size
  refine (szCallS_any _ h.calls _ _ (hh.below hA).c h0 h1).mono ?_
  rintro e w1 ⟨r, rfl, hr, hr0, hb1⟩
  have c3 := cell_below hb1 b3
  have hB1 : Below w.heap.size w w1 := hA.trans (hb1.mono zA)
  have H1 : Hid (0 ≤ r → h.calls.length ≤ 1048576 ∧ ∀ i, (hi : i < h.calls.length) → h.calls[i].small) := hr0
  clear hr0 hb1 b3 hA
  by_cases hlt : r < 0
  · go_wp2
    go_ret
    exact ⟨_, rfl, by omega, fun h => absurd h (by omega), hB1⟩
  go_wp2_with fail
  refine (szValS_any _ _ _ _ _ (by omega) hr hml).mono ?_
  rintro e w2 ⟨q, rfl, hq, hq0, rfl⟩
  have H2 : Hid (0 ≤ q → h.said.length ≤ 1048576) := hq0
  clear hq0
  by_cases hlt2 : q < 0
  · go_wp2
    go_ret
    exact ⟨_, rfl, by omega, fun h => absurd h (by omega), hB1⟩
  go_wp2
  go_ret
  exact ⟨_, rfl, by omega, fun _ => ⟨(H1.out (by omega)).1, (H1.out (by omega)).2, H2.out (by omega)⟩, hB1⟩
end Go.Proofs.YtmifhlkcceafkaaGreat
