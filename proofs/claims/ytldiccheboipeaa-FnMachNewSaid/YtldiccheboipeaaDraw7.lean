/-
  What draws: rows of operations, a bit more: what they look like, one of them written into; the answer of l71Method.
-/
import Derived.Test.YtldiccheboipeaaDraw5
import Derived.Deep.DeepCutAuto
import Derived.Deep.RegionLaw

namespace Go.Proofs.Ytldiccheboipeaa
open Go.RowKit
theorem OpsRow.shape {B : Nat} {w : World} {v : Value} {L : List (Int × Int)} (h : OpsRow B w v L) : ∃ a c, v = .slice a L.length c := by
  obtain ⟨_, h2⟩ := h
  rcases h2 with ⟨rfl, hn⟩ | ⟨g, cap, cur, rfl, _⟩
  · exact ⟨none, 0, by rw [hn]⟩
  · exact ⟨_, _, rfl⟩
theorem OpsRow.shape1 {B : Nat} {w : World} {v : Value} {L : List (Int × Int)} (h : OpsRow B w v L) (hn : 1 ≤ L.length) : ∃ g c, v = .slice (some ⟨g, 0, none⟩) L.length c := by
  obtain ⟨_, h2⟩ := h
  rcases h2 with ⟨rfl, hn'⟩ | ⟨g, cap, cur, rfl, _⟩
  · omega
  · exact ⟨_, _, rfl⟩
theorem flat_set (L : List (Int × Int)) : ∀ (i : Nat) (h : i < L.length) (x : Int), flat (L.set i (L[i].1, x)) = (flat L).set (i * 2 + 1) (.int .i64 x) := by
  induction L with
  | nil => intro i h; exact absurd h (Nat.not_lt_zero _)
  | cons a l ih =>
    intro i h x
    cases i with
    | zero => rfl
    | succ i =>
      have := ih i (by simpa using h) x
      rw [show (i + 1) * 2 + 1 = (i * 2 + 1) + 2 by omega]
      simp only [List.set_cons_succ, List.getElem_cons_succ]
      show [Value.int .i64 a.1, .int .i64 a.2] ++ flat _ = ([Value.int .i64 a.1, .int .i64 a.2] ++ flat l).set (i * 2 + 1 + 2) _
      rw [this]
      rfl
theorem OpsRow.setA {B : Nat} {w : World} {g c : Nat} {L : List (Int × Int)} (h : OpsRow B w (.slice (some ⟨g, 0, none⟩) L.length c) L) (i : Nat) (hi : i < L.length) (x : Int) :
    (∃ y, w.cell? ⟨g, i * 2 + 1, none⟩ = some (.int .i64 y)) ∧ w.frozen? ⟨g, i * 2 + 1, none⟩ = false ∧ OpsRow B (w.setCell ⟨g, i * 2 + 1, none⟩ (.int .i64 x)) (.slice (some ⟨g, 0, none⟩) L.length c) (L.set i (L[i].1, x)) ∧ w.grownBy (w.setCell ⟨g, i * 2 + 1, none⟩ (.int .i64 x)) (some g) := by
  obtain ⟨s1, s2⟩ := World.ownsRow.stored h (i * 2 + 1) (.int .i64 x)
  refine ⟨⟨L[i].2, ?_⟩, ?_, ?_, s2⟩
  · have := World.ownsRow.cells h (g := g) rfl (i * 2 + 1) _ (flat_at L i hi).2
    rwa [Addr.add_lit, Nat.zero_add] at this
  · rcases h.2 with ⟨e, _⟩ | ⟨g', cap', cur, e, _, hg, _⟩
    · cases e
    · cases e
      unfold World.frozen?; rw [hg]; simp
  · show World.ownsRow _ _ _ _ _ _ _
    rw [List.length_set, flat_set L i hi x]
    exact s1
namespace MS
variable {w0 w w' W : World} {b : Nat} {a : Option Addr} {len cap p q g : Nat} {A T : Int} {v v' : Value} {L L' : List (Int × Int)}
theorem opSet {gv c : Nat} (h : MS w0 w b a len cap p g A T (.slice (some ⟨gv, 0, none⟩) L.length c) L) (i : Nat) (hi : i < L.length) (x : Int) : MS w0 (w.setCell ⟨gv, i * 2 + 1, none⟩ (.int .i64 x)) b a len cap p g A T (.slice (some ⟨gv, 0, none⟩) L.length c) (L.set i (L[i].1, x)) := by
  obtain ⟨_, _, hr, hg⟩ := h.row.setA i hi x
  have e : ∀ k, some gv = some k → w0.heap.size ≤ k := fun k e => by cases e; exact (h.row.lt gv rfl).1
  obtain ⟨p0, h0⟩ := h.r0
  exact ⟨Rd.kept h0 h.rd h.gr.size hg e, grown_own h.gr hg e, row_kept h.box hg (fun e => row_ne h.box h.row (by decide) e.symm), h.own, hr, row_kept h.res hg (fun e => row_ne h.res h.row (by decide) e.symm), h.r0⟩
theorem final (h : MS w0 w b a len cap p g A T v L) :
    let W3 := ((w.setCell ⟨w0.heap.size, 0, none⟩ (.int .i64 A)).setCell ⟨w0.heap.size, 1, none⟩ (.int .i64 T)).setCell ⟨w0.heap.size, 2, none⟩ v
    OpsRow w0.heap.size W3 v L ∧ Rd W3 b a len cap p ∧ w0.grownBy W3 (some b) ∧ W3.cell? ⟨w0.heap.size, 0, none⟩ = some (.int .i64 A) ∧ W3.cell? ⟨w0.heap.size, 1, none⟩ = some (.int .i64 T) ∧ W3.cell? ⟨w0.heap.size, 2, none⟩ = some v := by
  intro W3
  have hk : w.grownBy W3 (some w0.heap.size) := ⟨rfl, rfl, rfl, by simp [W3, World.setCell], fun k _ hk => (Below.heap_setCell _ _ _ _ (fun e => hk (by rw [e]))).trans ((Below.heap_setCell _ _ _ _ (fun e => hk (by rw [e]))).trans (Below.heap_setCell _ _ _ _ (fun e => hk (by rw [e]))))⟩
  have e : ∀ k, some w0.heap.size = some k → w0.heap.size ≤ k := fun k e => by cases e; exact Nat.le_refl _
  obtain ⟨p0, h0⟩ := h.r0
  have hres := ((h.res.set 0 (.int .i64 A)).set 1 (.int .i64 T)).set 2 v
  refine ⟨h.row.kept hk (fun q e hk => by cases e; exact row_ne h.res h.row (by decide) hk), Rd.kept h0 h.rd h.gr.size hk e, grown_own h.gr hk e, ?_, ?_, ?_⟩
  · have := hres.cell (i := 0) (by decide); simpa using this
  · have := hres.cell (i := 1) (by decide); simpa using this
  · have := hres.cell (i := 2) (by decide); simpa using this
end MS
end Go.Proofs.Ytldiccheboipeaa
