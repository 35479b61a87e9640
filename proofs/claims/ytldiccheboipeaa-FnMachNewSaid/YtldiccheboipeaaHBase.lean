/-
  Plain words for what calls and heaps of this project look like in memory, and how such facts are carried from one world to a later one. Values are pairs of numbers (kind, number): a row of values lies in memory as a row of operations does. Nothing of the translation is used here.
-/
import Derived.Test.YtldiccheboipeaaBase
namespace Go.Proofs.Ytldiccheboipeaa
open Go.RowKit

/-- a call -/
structure Cl where
  m : Int
  pc : Int
  temps : List (Int × Int)
  stack : List (Int × Int)
  sender : Int
  dead : Bool

/-- a heap -/
structure Hp where
  calls : List Cl
  now : Int
  born : Int
  said : List (Int × Int)
  code : Int

/-- a call in memory: six cells from place o of block b on, its lists vt and vs -/
structure ClAt (w : World) (b o : Nat) (vt vs : Value) (c : Cl) : Prop where
  c0 : w.cell? ⟨b, o, none⟩ = some (.int .i64 c.m)
  c1 : w.cell? ⟨b, o + 1, none⟩ = some (.int .i64 c.pc)
  c2 : w.cell? ⟨b, o + 2, none⟩ = some vt
  c3 : w.cell? ⟨b, o + 3, none⟩ = some vs
  c4 : w.cell? ⟨b, o + 4, none⟩ = some (.int .i64 c.sender)
  c5 : w.cell? ⟨b, o + 5, none⟩ = some (.bool c.dead)
  t : OpsAt w vt c.temps
  s : OpsAt w vs c.stack

theorem ClAt.below {w w' : World} {b o : Nat} {vt vs : Value} {c : Cl} (h : ClAt w b o vt vs c) (hb : Below w.heap.size w w') : ClAt w' b o vt vs c :=
  ⟨cell_below hb h.c0, cell_below hb h.c1, cell_below hb h.c2, cell_below hb h.c3, cell_below hb h.c4, cell_below hb h.c5, h.t.below hb, h.s.below hb⟩

/-- calls in memory -/
def CallsAt (w : World) (v : Value) (cs : List Cl) : Prop :=
  ∃ (a : Option Addr) (cap : Nat), v = .slice a cs.length cap ∧ cs.length ≤ maxLen ∧
    ∀ i, (h : i < cs.length) → ∃ b o vt vs, a = some ⟨b, o, none⟩ ∧ ClAt w b (o + i * 6) vt vs cs[i]

theorem CallsAt.below {w w' : World} {v : Value} {cs : List Cl} (h : CallsAt w v cs) (hb : Below w.heap.size w w') : CallsAt w' v cs := by
  obtain ⟨a, cap, hv, hl, hc⟩ := h
  refine ⟨a, cap, hv, hl, fun i hi => ?_⟩
  obtain ⟨b, o, vt, vs, ha, h0⟩ := hc i hi
  exact ⟨b, o, vt, vs, ha, h0.below hb⟩

theorem CallsAt.nil (w : World) : CallsAt w (.slice none 0 0) [] := ⟨none, 0, rfl, Nat.zero_le _, fun _ hi => absurd hi (Nat.not_lt_zero _)⟩

/-- the cells of a heap, its lists vc and vs -/
def hpCells (vc vs : Value) (h : Hp) : Array Value := #[vc, .int .i64 h.now, .int .i64 h.born, vs, .int .i64 h.code]

/-- a heap's lists in memory -/
structure HeapAt (w : World) (vc vs : Value) (h : Hp) : Prop where
  c : CallsAt w vc h.calls
  s : OpsAt w vs h.said

theorem HeapAt.below {w w' : World} {vc vs : Value} {h : Hp} (k : HeapAt w vc vs h) (hb : Below w.heap.size w w') : HeapAt w' vc vs h := ⟨k.c.below hb, k.s.below hb⟩

theorem OpsAt.shape {w : World} {v : Value} {ops : List (Int × Int)} (h : OpsAt w v ops) : ∃ a c, v = .slice a ops.length c := by
  obtain ⟨a, c, hv, _⟩ := h
  exact ⟨a, c, hv⟩
theorem CallsAt.shape {w : World} {v : Value} {cs : List Cl} (h : CallsAt w v cs) : ∃ a c, v = .slice a cs.length c := by
  obtain ⟨a, c, hv, _⟩ := h
  exact ⟨a, c, hv⟩

/-- how much of a call, of a heap, an exact law looks at -/
def Cl.small (c : Cl) : Prop := c.temps.length ≤ 1048576 ∧ c.stack.length ≤ 1048576
def Hp.small (h : Hp) : Prop := h.calls.length ≤ 1048576 ∧ (∀ i, (hi : i < h.calls.length) → h.calls[i].small) ∧ h.said.length ≤ 1048576

end Go.Proofs.Ytldiccheboipeaa
