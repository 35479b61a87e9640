/-
  From what the statement reads to what the walks ask: an argument that reads as a program lies in memory as methods with their operations. Nothing of the translation is used here.
-/
import Derived.Test.YtmifhlkcceafkaaGreatHPlain
import Derived.Deep.Slices
import Derived.Deep.SlicePairs
import Derived.Deep.Strs

namespace Go.Proofs.YtmifhlkcceafkaaGreat
open Go.ChangeShapes Go.WideShapes Go.Deep
section
variable {H : Type} {enc : TypeId × Value → H} {P : Program} {w : World} {base : Nat} {spare : Nat → Bool} {held : Bool}
theorem plain_of {a : Addr} {v : Value} (h : w.cell? (a.add 0) = some v) : ∃ b o, a = ⟨b, o, none⟩ := by
  have hs := World.cell?_spot h
  obtain ⟨b, o, s⟩ := a
  simp [Addr.add] at hs
  exact ⟨b, o, by rw [hs]⟩
theorem opsAt_of {t e : TypeId} {f0 f1 : Field} {fuel : Nat} {v : Value} {x : DataW H × List MemPlace} (ht : P.underlying t = some (.slice e)) (he : P.underlying e = some (.struct #[f0, f1]))
    (ce : P.cellsOf e = 2) (o0 : f0.offset = 0) (o1 : f1.offset = 1) (c0 : P.cellsOf f0.type = 1) (c1 : P.cellsOf f1.type = 1) (i0 : P.underlying f0.type = some (.int .i64)) (i1 : P.underlying f1.type = some (.int .i64))
    (h : DataW.trod enc P w base spare held fuel t [v] = some x) : ∃ ops, OpsAt w v ops := by
  rcases open_slice_pairs ht he ce o0 o1 c0 c1 h with ⟨hcs, _⟩ | ⟨a, len, cap, m, n, V0, V1, D0, D1, P0, P1, hcs, _, hl, hm, hmm, _, hx⟩
  · exact ⟨[], none, 0, by simpa using hcs, Nat.zero_le _, fun i hi => absurd hi (Nat.not_lt_zero _)⟩
  · have hlm : len ≤ m := by rw [hmm]; split <;> omega
    have each : ∀ i, i < len → ∃ q : Int × Int, w.cell? (a.add (i * 2)) = some (.int .i64 q.1) ∧ w.cell? (a.add (i * 2 + 1)) = some (.int .i64 q.2) := by
      intro i hi
      obtain ⟨h1, h2, h3, h4⟩ := hx i (by omega)
      obtain ⟨n0, e0, _, _⟩ := DataW.trod_int i0 h3
      obtain ⟨n1, e1, _, _⟩ := DataW.trod_int i1 h4
      simp at e0 e1
      exact ⟨(n0, n1), by rw [h1, e0], by rw [h2, e1]⟩
    obtain ⟨q, hq⟩ := choose_lt each
    refine ⟨(List.range len).map q, some a, cap, by simpa using hcs, by simp; omega, fun i hi => ?_⟩
    have hi' : i < len := by simpa using hi
    obtain ⟨h1, h2⟩ := hq i hi'
    obtain ⟨b, o, rfl⟩ := plain_of (by simpa using (hq 0 (by omega)).1)
    rw [add_plain] at h1 h2
    exact ⟨b, o, rfl, by simpa using h1, by simpa [Nat.add_assoc] using h2⟩
theorem methsAt_of {t e so eo : TypeId} {f0 f1 f2 g0 g1 : Field} {fuel : Nat} {v : Value} {x : DataW H × List MemPlace} (ht : P.underlying t = some (.slice e)) (he : P.underlying e = some (.struct #[f0, f1, f2]))
    (ce : P.cellsOf e = 3) (o0 : f0.offset = 0) (o1 : f1.offset = 1) (o2 : f2.offset = 2) (c0 : P.cellsOf f0.type = 1) (c1 : P.cellsOf f1.type = 1) (c2 : P.cellsOf f2.type = 1)
    (i0 : P.underlying f0.type = some (.int .i64)) (i1 : P.underlying f1.type = some (.int .i64)) (hso : f2.type = so) (ht' : P.underlying so = some (.slice eo)) (he' : P.underlying eo = some (.struct #[g0, g1]))
    (ce' : P.cellsOf eo = 2) (p0 : g0.offset = 0) (p1 : g1.offset = 1) (k0 : P.cellsOf g0.type = 1) (k1 : P.cellsOf g1.type = 1) (j0 : P.underlying g0.type = some (.int .i64)) (j1 : P.underlying g1.type = some (.int .i64))
    (h : DataW.trod enc P w base spare held fuel t [v] = some x) : ∃ ms, MethsAt w v ms := by
  rcases open_slice ht h with ⟨hcs, _⟩ | ⟨a, len, cap, m, n, D, Pl, hcs, _, hl, hm, hmm, _, hx⟩
  · exact ⟨[], none, 0, by simpa using hcs, Nat.zero_le _, fun i hi => absurd hi (Nat.not_lt_zero _)⟩
  · have hlm : len ≤ m := by rw [hmm]; split <;> omega
    have each : ∀ i, i < len → ∃ q : (Int × Int × List (Int × Int)) × Value, w.cell? (a.add (i * 3)) = some (.int .i64 q.1.1) ∧ w.cell? (a.add (i * 3 + 1)) = some (.int .i64 q.1.2.1) ∧ w.cell? (a.add (i * 3 + 2)) = some q.2 ∧ OpsAt w q.2 q.1.2.2 := by
      intro i hi
      obtain ⟨cs', h1, h2⟩ := hx i (by omega)
      rw [ce] at h1
      obtain ⟨_, hlen, hcell⟩ := World.cells?_some h1
      obtain ⟨y0, y1, y2, k, _, _, r0, r1, r2⟩ := trod_struct3 he h2
      match cs', hlen with
      | [v0, v1, v2], _ =>
        simp [o0, o1, o2, c0, c1, c2] at r0 r1 r2
        obtain ⟨n0, e0, _, _⟩ := DataW.trod_int i0 r0
        obtain ⟨n1, e1, _, _⟩ := DataW.trod_int i1 r1
        rw [hso] at r2
        obtain ⟨ops, hops⟩ := opsAt_of ht' he' ce' p0 p1 k0 k1 j0 j1 r2
        simp at e0 e1
        have q0 := hcell 0 (by omega)
        have q1 := hcell 1 (by omega)
        have q2 := hcell 2 (by omega)
        rw [add_add] at q0 q1 q2
        exact ⟨((n0, n1, ops), v2), by simpa [e0] using q0, by simpa [e1] using q1, by simpa using q2, hops⟩
    obtain ⟨q, hq⟩ := choose_lt each
    refine ⟨(List.range len).map fun i => (q i).1, some a, cap, by simpa using hcs, by simp; omega, fun i hi => ?_⟩
    have hi' : i < len := by simpa using hi
    obtain ⟨h1, h2, h3, h4⟩ := hq i hi'
    obtain ⟨b, o, rfl⟩ := plain_of (by simpa using (hq 0 (by omega)).1)
    rw [add_plain] at h1 h2 h3
    exact ⟨b, o, (q i).2, rfl, by simpa using h1, by simpa [Nat.add_assoc] using h2, by simpa [Nat.add_assoc] using h3, by simpa using h4⟩
end
end Go.Proofs.YtmifhlkcceafkaaGreat

/-
  From what the statement reads to what the walks ask: an argument that reads as a heap lies in memory as calls, with their temps and values, and what was said. Nothing of the translation is used here.
-/
namespace Go.Proofs.YtmifhlkcceafkaaGreat
open Go.ChangeShapes Go.WideShapes Go.Deep
section
variable {H : Type} {enc : TypeId × Value → H} {P : Program} {w : World} {base : Nat} {spare : Nat → Bool} {held : Bool}
theorem trod_fields {t : TypeId} {fs : Array Field} {fuel : Nat} {cs : List Value} {x : DataW H × List MemPlace} (ht : P.underlying t = some (.struct fs)) (h : DataW.trod enc P w base spare held fuel t cs = some x) :
    ∃ n, cs.length = P.cellsOf t ∧ ∀ (i : Nat) (f : Field), fs[i]? = some f → ∃ y, DataW.trod enc P w base spare held n f.type ((cs.drop f.offset).take (P.cellsOf f.type)) = some y := by
  obtain ⟨xs, n, _, _, hl, hlen, hf⟩ := DataW.trod_struct ht h
  refine ⟨n, hl, fun i f hi => ?_⟩
  have hlt : i < xs.length := by
    rw [hlen]
    by_cases hc : i < fs.size
    · exact hc
    · rw [Array.getElem?_eq_none (by omega)] at hi
      cases hi
  exact ⟨xs[i], by rw [hf i f hi, List.getElem?_eq_getElem hlt]⟩
theorem callsAt_of {t e so eo : TypeId} {f0 f1 f2 f3 f4 f5 g0 g1 : Field} {fuel : Nat} {v : Value} {x : DataW H × List MemPlace} (ht : P.underlying t = some (.slice e)) (he : P.underlying e = some (.struct #[f0, f1, f2, f3, f4, f5]))
    (ce : P.cellsOf e = 6) (o0 : f0.offset = 0) (o1 : f1.offset = 1) (o2 : f2.offset = 2) (o3 : f3.offset = 3) (o4 : f4.offset = 4) (o5 : f5.offset = 5)
    (c0 : P.cellsOf f0.type = 1) (c1 : P.cellsOf f1.type = 1) (c2 : P.cellsOf f2.type = 1) (c3 : P.cellsOf f3.type = 1) (c4 : P.cellsOf f4.type = 1) (c5 : P.cellsOf f5.type = 1)
    (i0 : P.underlying f0.type = some (.int .i64)) (i1 : P.underlying f1.type = some (.int .i64)) (hs2 : f2.type = so) (hs3 : f3.type = so) (i4 : P.underlying f4.type = some (.int .i64)) (i5 : P.underlying f5.type = some .bool)
    (ht' : P.underlying so = some (.slice eo)) (he' : P.underlying eo = some (.struct #[g0, g1]))
    (ce' : P.cellsOf eo = 2) (p0 : g0.offset = 0) (p1 : g1.offset = 1) (k0 : P.cellsOf g0.type = 1) (k1 : P.cellsOf g1.type = 1) (j0 : P.underlying g0.type = some (.int .i64)) (j1 : P.underlying g1.type = some (.int .i64))
    (h : DataW.trod enc P w base spare held fuel t [v] = some x) : ∃ cs, CallsAt w v cs := by
  rcases open_slice ht h with ⟨hcs, _⟩ | ⟨a, len, cap, m, n, D, Pl, hcs, _, hl, hm, hmm, _, hx⟩
  · exact ⟨[], none, 0, by simpa using hcs, Nat.zero_le _, fun i hi => absurd hi (Nat.not_lt_zero _)⟩
  · have hlm : len ≤ m := by rw [hmm]; split <;> omega
    have each : ∀ i, i < len → ∃ q : Cl × Value × Value, w.cell? (a.add (i * 6)) = some (.int .i64 q.1.m) ∧ w.cell? (a.add (i * 6 + 1)) = some (.int .i64 q.1.pc) ∧ w.cell? (a.add (i * 6 + 2)) = some q.2.1 ∧
        w.cell? (a.add (i * 6 + 3)) = some q.2.2 ∧ w.cell? (a.add (i * 6 + 4)) = some (.int .i64 q.1.sender) ∧ w.cell? (a.add (i * 6 + 5)) = some (.bool q.1.dead) ∧ OpsAt w q.2.1 q.1.temps ∧ OpsAt w q.2.2 q.1.stack := by
      intro i hi
      obtain ⟨cs', h1, h2⟩ := hx i (by omega)
      rw [ce] at h1
      obtain ⟨_, hlen, hcell⟩ := World.cells?_some h1
      obtain ⟨n', _, hf⟩ := trod_fields he h2
      obtain ⟨y0, r0⟩ := hf 0 f0 rfl
      obtain ⟨y1, r1⟩ := hf 1 f1 rfl
      obtain ⟨y2, r2⟩ := hf 2 f2 rfl
      obtain ⟨y3, r3⟩ := hf 3 f3 rfl
      obtain ⟨y4, r4⟩ := hf 4 f4 rfl
      obtain ⟨y5, r5⟩ := hf 5 f5 rfl
      match cs', hlen with
      | [v0, v1, v2, v3, v4, v5], _ =>
        simp [o0, o1, o2, o3, o4, o5, c0, c1, c2, c3, c4, c5] at r0 r1 r2 r3 r4 r5
        obtain ⟨n0, e0, _, _⟩ := DataW.trod_int i0 r0
        obtain ⟨n1, e1, _, _⟩ := DataW.trod_int i1 r1
        obtain ⟨n4, e4, _, _⟩ := DataW.trod_int i4 r4
        obtain ⟨b5, e5, _⟩ := DataW.trod_bool i5 r5
        rw [hs2] at r2
        rw [hs3] at r3
        obtain ⟨ts, hts⟩ := opsAt_of ht' he' ce' p0 p1 k0 k1 j0 j1 r2
        obtain ⟨ss, hss⟩ := opsAt_of ht' he' ce' p0 p1 k0 k1 j0 j1 r3
        simp at e0 e1 e4 e5
        have q0 := hcell 0 (by omega)
        have q1 := hcell 1 (by omega)
        have q2 := hcell 2 (by omega)
        have q3 := hcell 3 (by omega)
        have q4 := hcell 4 (by omega)
        have q5 := hcell 5 (by omega)
        rw [add_add] at q0 q1 q2 q3 q4 q5
        exact ⟨(⟨n0, n1, ts, ss, n4, b5⟩, v2, v3), by simpa [e0] using q0, by simpa [e1] using q1, by simpa using q2, by simpa using q3, by simpa [e4] using q4, by simpa [e5] using q5, hts, hss⟩
    have inh : Inhabited Cl := ⟨⟨0, 0, [], [], 0, false⟩⟩
    obtain ⟨q, hq⟩ := choose_lt each
    refine ⟨(List.range len).map fun i => (q i).1, some a, cap, by simpa using hcs, by simp; omega, fun i hi => ?_⟩
    have hi' : i < len := by simpa using hi
    obtain ⟨h1, h2, h3, h4, h5, h6, h7, h8⟩ := hq i hi'
    obtain ⟨b, o, rfl⟩ := plain_of (by simpa using (hq 0 (by omega)).1)
    rw [add_plain] at h1 h2 h3 h4 h5 h6
    exact ⟨b, o, (q i).2.1, (q i).2.2, rfl, ⟨by simpa using h1, by simpa [Nat.add_assoc] using h2, by simpa [Nat.add_assoc] using h3, by simpa [Nat.add_assoc] using h4, by simpa [Nat.add_assoc] using h5, by simpa [Nat.add_assoc] using h6, by simpa using h7, by simpa using h8⟩⟩
end
end Go.Proofs.YtmifhlkcceafkaaGreat
