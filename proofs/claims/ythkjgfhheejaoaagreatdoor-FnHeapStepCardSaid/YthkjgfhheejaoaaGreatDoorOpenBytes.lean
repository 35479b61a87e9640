import Derived.Test.YthkjgfhheejaoaaGreatDoorInts
import Derived.Deep.Slices
import Derived.Deep.SlicePairs
import Derived.Deep.Strs
import Derived.Test.YthkjgfhheejaoaaGreatDoorDraw10

/-
  From what the statement reads to what the walks ask: an argument that reads as a program lies in memory as methods with their operations. Nothing of the translation is used here.
-/
namespace Go.Proofs.YthkjgfhheejaoaaGreatDoor
open Go.ChangeShapes Go.WideShapes Go.Deep

section
variable {H : Type} {enc : TypeId × Value → H} {P : Program} {w : World} {base : Nat} {spare : Nat → Bool} {held : Bool}

theorem plain_of {a : Addr} {v : Value} (h : w.cell? (a.add 0) = some v) : ∃ b o, a = ⟨b, o, none⟩ := by
  have hs := World.cell?_spot h
  obtain ⟨b, o, s⟩ := a
  simp [Addr.add] at hs
  exact ⟨b, o, by rw [hs]⟩

theorem opsAt_of {t e : TypeId} {f0 f1 : Field} {fuel : Nat} {v : Value} {x : DataW H × List MemPlace} (ht : P.underlying t = some (.slice e)) (he : P.underlying e = some (.struct #[f0, f1]))
    (ce : P.cellsOf e = 2) (o0 : f0.offset = 0) (o1 : f1.offset = 1) (c0 : P.cellsOf f0.type = 1) (c1 : P.cellsOf f1.type = 1) (i0 : P.underlying f0.type = some (.int .i64)) (i1 : P.underlying f1.type = some (.int .i64))
    (h : DataW.trod enc P w base spare held fuel t [v] = some x) : ∃ ops, OpsAt w v ops := by
  rcases open_slice_pairs ht he ce o0 o1 c0 c1 h with ⟨hcs, _⟩ | ⟨a, len, cap, m, n, V0, V1, D0, D1, P0, P1, hcs, _, hl, hm, hmm, _, hx⟩
  · exact ⟨[], none, 0, by simpa using hcs, Nat.zero_le _, fun i hi => absurd hi (Nat.not_lt_zero _)⟩
  · have hlm : len ≤ m := by rw [hmm]; split <;> omega
    have each : ∀ i, i < len → ∃ q : Int × Int, w.cell? (a.add (i * 2)) = some (.int .i64 q.1) ∧ w.cell? (a.add (i * 2 + 1)) = some (.int .i64 q.2) := by
      intro i hi
      obtain ⟨h1, h2, h3, h4⟩ := hx i (by omega)
      obtain ⟨n0, e0, _, _⟩ := DataW.trod_int i0 h3
      obtain ⟨n1, e1, _, _⟩ := DataW.trod_int i1 h4
      simp at e0 e1
      exact ⟨(n0, n1), by rw [h1, e0], by rw [h2, e1]⟩
    obtain ⟨q, hq⟩ := choose_lt each
    refine ⟨(List.range len).map q, some a, cap, by simpa using hcs, by simp; omega, fun i hi => ?_⟩
    have hi' : i < len := by simpa using hi
    obtain ⟨h1, h2⟩ := hq i hi'
    obtain ⟨b, o, rfl⟩ := plain_of (by simpa using (hq 0 (by omega)).1)
    rw [add_plain] at h1 h2
    exact ⟨b, o, rfl, by simpa using h1, by simpa [Nat.add_assoc] using h2⟩

theorem methsAt_of {t e so eo : TypeId} {f0 f1 f2 g0 g1 : Field} {fuel : Nat} {v : Value} {x : DataW H × List MemPlace} (ht : P.underlying t = some (.slice e)) (he : P.underlying e = some (.struct #[f0, f1, f2]))
    (ce : P.cellsOf e = 3) (o0 : f0.offset = 0) (o1 : f1.offset = 1) (o2 : f2.offset = 2) (c0 : P.cellsOf f0.type = 1) (c1 : P.cellsOf f1.type = 1) (c2 : P.cellsOf f2.type = 1)
    (i0 : P.underlying f0.type = some (.int .i64)) (i1 : P.underlying f1.type = some (.int .i64)) (hso : f2.type = so) (ht' : P.underlying so = some (.slice eo)) (he' : P.underlying eo = some (.struct #[g0, g1]))
    (ce' : P.cellsOf eo = 2) (p0 : g0.offset = 0) (p1 : g1.offset = 1) (k0 : P.cellsOf g0.type = 1) (k1 : P.cellsOf g1.type = 1) (j0 : P.underlying g0.type = some (.int .i64)) (j1 : P.underlying g1.type = some (.int .i64))
    (h : DataW.trod enc P w base spare held fuel t [v] = some x) : ∃ ms, MethsAt w v ms := by
  rcases open_slice ht h with ⟨hcs, _⟩ | ⟨a, len, cap, m, n, D, Pl, hcs, _, hl, hm, hmm, _, hx⟩
  · exact ⟨[], none, 0, by simpa using hcs, Nat.zero_le _, fun i hi => absurd hi (Nat.not_lt_zero _)⟩
  · have hlm : len ≤ m := by rw [hmm]; split <;> omega
    have each : ∀ i, i < len → ∃ q : (Int × Int × List (Int × Int)) × Value, w.cell? (a.add (i * 3)) = some (.int .i64 q.1.1) ∧ w.cell? (a.add (i * 3 + 1)) = some (.int .i64 q.1.2.1) ∧ w.cell? (a.add (i * 3 + 2)) = some q.2 ∧ OpsAt w q.2 q.1.2.2 := by
      intro i hi
      obtain ⟨cs', h1, h2⟩ := hx i (by omega)
      rw [ce] at h1
      obtain ⟨_, hlen, hcell⟩ := World.cells?_some h1
      obtain ⟨y0, y1, y2, k, _, _, r0, r1, r2⟩ := trod_struct3 he h2
      match cs', hlen with
      | [v0, v1, v2], _ =>
        simp [o0, o1, o2, c0, c1, c2] at r0 r1 r2
        obtain ⟨n0, e0, _, _⟩ := DataW.trod_int i0 r0
        obtain ⟨n1, e1, _, _⟩ := DataW.trod_int i1 r1
        rw [hso] at r2
        obtain ⟨ops, hops⟩ := opsAt_of ht' he' ce' p0 p1 k0 k1 j0 j1 r2
        simp at e0 e1
        have q0 := hcell 0 (by omega)
        have q1 := hcell 1 (by omega)
        have q2 := hcell 2 (by omega)
        rw [add_add] at q0 q1 q2
        exact ⟨((n0, n1, ops), v2), by simpa [e0] using q0, by simpa [e1] using q1, by simpa using q2, hops⟩
    obtain ⟨q, hq⟩ := choose_lt each
    refine ⟨(List.range len).map fun i => (q i).1, some a, cap, by simpa using hcs, by simp; omega, fun i hi => ?_⟩
    have hi' : i < len := by simpa using hi
    obtain ⟨h1, h2, h3, h4⟩ := hq i hi'
    obtain ⟨b, o, rfl⟩ := plain_of (by simpa using (hq 0 (by omega)).1)
    rw [add_plain] at h1 h2 h3
    exact ⟨b, o, (q i).2, rfl, by simpa using h1, by simpa [Nat.add_assoc] using h2, by simpa [Nat.add_assoc] using h3, by simpa using h4⟩

end
end Go.Proofs.YthkjgfhheejaoaaGreatDoor

/-
  What draws: the bytes that come in, and the reader that is opened on them.
-/
namespace Go.Proofs.YthkjgfhheejaoaaGreatDoor
open Go.RowKit

/-- bytes that came in -/
def BytesAt (w : World) (a : Option Addr) (len cap : Nat) : Prop :=
  len ≤ cap ∧ cap ≤ maxLen ∧ ∀ i, i < len → ∃ b o x, a = some ⟨b, o, none⟩ ∧ w.cell? ⟨b, o + i, none⟩ = some (.int .u8 x) ∧ 0 ≤ x ∧ x ≤ 255

theorem BytesAt.below {w w' : World} {a : Option Addr} {len cap : Nat} (h : BytesAt w a len cap) (hb : Below w.heap.size w w') : BytesAt w' a len cap := by
  refine ⟨h.1, h.2.1, fun i hi => ?_⟩
  obtain ⟨b, o, x, ha, hc, hx⟩ := h.2.2 i hi
  exact ⟨b, o, x, ha, cell_below hb hc, hx⟩

theorem rd_new {w : World} {a : Option Addr} {len cap n : Nat} (h : BytesAt w a len cap) (hn : n ≤ len) (hn2 : n ≤ 2000) : Rd (w.alloc (.cells #[.slice a n cap, .int .i64 0] 84)) w.heap.size a n cap 0 := by
  refine ⟨by simp [go_sem], by simp [go_sem], by simp [go_sem], hn2, fun i hi => ?_⟩
  obtain ⟨b, o, x, ha, hc, hx⟩ := h.2.2 i (by omega)
  have := World.block_lt_of_cell? _ _ hc
  exact ⟨b, o, x, ha, by simp at this; omega, cell_below ((Below.refl _ _).alloc (Nat.le_refl _) _) hc, hx⟩

set_option maxRecDepth 100000 in
theorem l6Open_any (w : World) (a : Option Addr) (len cap : Nat) (h : BytesAt w a len cap) :
    Calls Tryz.prog 27 #[.slice a len cap] w fun e w' => ∃ n, e = .returned (.pointer (some ⟨w.heap.size, 0, none⟩)) ∧ Rd w' w.heap.size a n cap 0 ∧ w'.heap.size = w.heap.size + 1 ∧ Below w.heap.size w w' := by
  have hc := h.1
  have hm := h.2.1
  unfold maxLen at hm
  by_cases hl : 2000 < len
  · have hlz : (2000 : Int) < (len : Int) := by omega
    have h20 : 2000 ≤ cap := by omega
    obtain ⟨b, o, x, ha, _⟩ := h.2.2 0 (by omega)
    subst ha
    have HB : Hid (BytesAt w (some ⟨b, o, none⟩) len cap) := h
    clear h
    go_enter Tryz.func27, Tryz.ntmps27
    go_wp2
    go_ret
    exact ⟨2000, rfl, rd_new HB.out (by omega) (by omega), by simp, (Below.refl _ _).alloc (Nat.le_refl _) _⟩
  · have hlz : (len : Int) ≤ 2000 := by omega
    have HB : Hid (BytesAt w a len cap) := h
    clear h
    go_enter Tryz.func27, Tryz.ntmps27
    go_wp2
    go_ret
    exact ⟨len, rfl, rd_new HB.out (Nat.le_refl _) (by omega), by simp, (Below.refl _ _).alloc (Nat.le_refl _) _⟩

/-- a drawn program, as a caller sees it: memory of its own, from block B on -/
structure Drawn (B : Nat) (w : World) (v : Value) (ms : List MM) : Prop where
  row : PRow B w v ms
  few : ms.length ≤ 7
  ops : ∀ m ∈ ms, m.2.2.2.length ≤ 14

theorem Drawn.kept {B : Nat} {w w' : World} {v : Value} {ms : List MM} (h : Drawn B w v ms) {b : Nat} (hg : w.grownBy w' (some b)) (hb : b < B) : Drawn B w' v ms := ⟨h.row.low hg hb, h.few, h.ops⟩
theorem Drawn.below {B : Nat} {w w' : World} {v : Value} {ms : List MM} (h : Drawn B w v ms) (hb : Below w.heap.size w w') : Drawn B w' v ms := ⟨h.row.kept (below_grown hb none) (fun g e => by cases e), h.few, h.ops⟩
theorem Drawn.mono {B B' : Nat} {w : World} {v : Value} {ms : List MM} (h : Drawn B w v ms) (hB : B' ≤ B) : Drawn B' w v ms := ⟨h.row.mono hB, h.few, h.ops⟩
theorem Drawn.meths {B : Nat} {w : World} {v : Value} {ms : List MM} (h : Drawn B w v ms) : MethsAt w v (plainOf ms) :=
  h.row.meths (by have := h.few; unfold maxLen; omega) (fun m hm => by have := h.ops m hm; unfold maxLen; omega)

end Go.Proofs.YthkjgfhheejaoaaGreatDoor

/-
  From what the statement reads to what the walks ask: an argument that reads as bytes lies in memory as bytes.
-/
namespace Go.Proofs.YthkjgfhheejaoaaGreatDoor
open Go.ChangeShapes Go.WideShapes Go.Deep

section
variable {H : Type} {enc : TypeId × Value → H} {P : Program} {w : World} {base : Nat} {spare : Nat → Bool} {held : Bool}

theorem bytesAt_of {t e : TypeId} {fuel : Nat} {v : Value} {x : DataW H × List MemPlace} (ht : P.underlying t = some (.slice e)) (he : P.underlying e = some (.int .u8)) (ce : P.cellsOf e = 1)
    (h : DataW.trod enc P w base spare held fuel t [v] = some x) : ∃ a len cap, v = .slice a len cap ∧ BytesAt w a len cap := by
  rcases open_slice ht h with ⟨hcs, _⟩ | ⟨a, len, cap, m, n, D, Pl, hcs, _, hl, hm, hmm, _, hx⟩
  · exact ⟨none, 0, 0, by simpa using hcs, Nat.le_refl _, Nat.zero_le _, fun i hi => absurd hi (Nat.not_lt_zero _)⟩
  · have hlm : len ≤ m := by rw [hmm]; split <;> omega
    refine ⟨some a, len, cap, by simpa using hcs, hl, hm, ?_⟩
    have each : ∀ i, i < len → ∃ y : Int, w.cell? (a.add i) = some (.int .u8 y) ∧ 0 ≤ y ∧ y ≤ 255 := by
      intro i hi
      obtain ⟨cs', h1, h2⟩ := hx i (by omega)
      rw [ce] at h1
      obtain ⟨_, hlen, hcell⟩ := World.cells?_some h1
      obtain ⟨y, rfl, _, hwf⟩ := DataW.trod_int he h2
      have q0 := hcell 0 (by omega)
      rw [add_add] at q0
      have hr : 0 ≤ y ∧ y ≤ 255 := by
        have h2 : (decide (IntKind.u8.min ≤ y) && decide (y ≤ IntKind.u8.max)) = true := hwf
        rw [Bool.and_eq_true] at h2
        exact ⟨of_decide_eq_true h2.1, of_decide_eq_true h2.2⟩
      exact ⟨y, by simpa using q0, hr.1, hr.2⟩
    intro i hi
    obtain ⟨y, hy, hy0, hy1⟩ := each i hi
    obtain ⟨y', hy', _⟩ := each 0 (by omega)
    obtain ⟨b, o, rfl⟩ := plain_of hy'
    rw [add_plain] at hy
    exact ⟨b, o, y, rfl, hy, hy0, hy1⟩

end
end Go.Proofs.YthkjgfhheejaoaaGreatDoor
