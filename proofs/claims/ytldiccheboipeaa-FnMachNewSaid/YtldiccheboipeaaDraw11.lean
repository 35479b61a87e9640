/-
  What draws: a program that is written into: one of its operations, one of its methods' numbers, one of its rows of operations cut short.
-/
import Derived.Test.YtldiccheboipeaaDraw10

namespace Go.Proofs.Ytldiccheboipeaa
open Go.RowKit
theorem flat3_set0 (L : List (Int × Int × Value)) : ∀ (i : Nat) (h : i < L.length) (x : Int), flat3 (L.set i (x, L[i].2.1, L[i].2.2)) = (flat3 L).set (i * 3) (.int .i64 x) := by
  induction L with
  | nil => intro i h; exact absurd h (Nat.not_lt_zero _)
  | cons a l ih =>
    intro i h x
    cases i with
    | zero => rfl
    | succ i =>
      have := ih i (by simpa using h) x
      rw [show (i + 1) * 3 = (i * 3) + 3 by omega]
      simp only [List.set_cons_succ, List.getElem_cons_succ]
      show [Value.int .i64 a.1, .int .i64 a.2.1, a.2.2] ++ flat3 _ = ([Value.int .i64 a.1, .int .i64 a.2.1, a.2.2] ++ flat3 l).set (i * 3 + 3) _
      rw [this]
      rfl
theorem flat3_set1 (L : List (Int × Int × Value)) : ∀ (i : Nat) (h : i < L.length) (x : Int), flat3 (L.set i (L[i].1, x, L[i].2.2)) = (flat3 L).set (i * 3 + 1) (.int .i64 x) := by
  induction L with
  | nil => intro i h; exact absurd h (Nat.not_lt_zero _)
  | cons a l ih =>
    intro i h x
    cases i with
    | zero => rfl
    | succ i =>
      have := ih i (by simpa using h) x
      rw [show (i + 1) * 3 + 1 = (i * 3 + 1) + 3 by omega]
      simp only [List.set_cons_succ, List.getElem_cons_succ]
      show [Value.int .i64 a.1, .int .i64 a.2.1, a.2.2] ++ flat3 _ = ([Value.int .i64 a.1, .int .i64 a.2.1, a.2.2] ++ flat3 l).set (i * 3 + 1 + 3) _
      rw [this]
      rfl
theorem flat3_set2 (L : List (Int × Int × Value)) : ∀ (i : Nat) (h : i < L.length) (x : Value), flat3 (L.set i (L[i].1, L[i].2.1, x)) = (flat3 L).set (i * 3 + 2) x := by
  induction L with
  | nil => intro i h; exact absurd h (Nat.not_lt_zero _)
  | cons a l ih =>
    intro i h x
    cases i with
    | zero => rfl
    | succ i =>
      have := ih i (by simpa using h) x
      rw [show (i + 1) * 3 + 2 = (i * 3 + 2) + 3 by omega]
      simp only [List.set_cons_succ, List.getElem_cons_succ]
      show [Value.int .i64 a.1, .int .i64 a.2.1, a.2.2] ++ flat3 _ = ([Value.int .i64 a.1, .int .i64 a.2.1, a.2.2] ++ flat3 l).set (i * 3 + 2 + 3) _
      rw [this]
      rfl
theorem MRow.frozen {B : Nat} {w : World} {g n c : Nat} {ms : List (Int × Int × Value)} (h : MRow B w (.slice (some ⟨g, 0, none⟩) n c) ms) (j : Nat) : w.frozen? ⟨g, j, none⟩ = false := by
  rcases h.2 with ⟨e, _⟩ | ⟨g', cap', cur, e, _, hg, _⟩
  · cases e
  · cases e
    unfold World.frozen?; rw [hg]; simp
theorem OpsRow.frozen {B : Nat} {w : World} {g n c : Nat} {L : List (Int × Int)} (h : OpsRow B w (.slice (some ⟨g, 0, none⟩) n c) L) (j : Nat) : w.frozen? ⟨g, j, none⟩ = false := by
  rcases h.2 with ⟨e, _⟩ | ⟨g', cap', cur, e, _, hg, _⟩
  · cases e
  · cases e
    unfold World.frozen?; rw [hg]; simp
theorem OpsRow.cell {B : Nat} {w : World} {g n c : Nat} {L : List (Int × Int)} (h : OpsRow B w (.slice (some ⟨g, 0, none⟩) n c) L) (i : Nat) (hi : i < L.length) :
    w.cell? ⟨g, i * 2, none⟩ = some (.int .i64 L[i].1) ∧ w.cell? ⟨g, i * 2 + 1, none⟩ = some (.int .i64 L[i].2) := by
  have k0 := World.ownsRow.cells h (g := g) rfl _ _ (flat_at L i hi).1
  have k1 := World.ownsRow.cells h (g := g) rfl _ _ (flat_at L i hi).2
  rw [Addr.add_lit, Nat.zero_add] at k0 k1
  exact ⟨k0, k1⟩
theorem OpsRow.room {B : Nat} {w : World} {g n c : Nat} {L : List (Int × Int)} (h : OpsRow B w (.slice (some ⟨g, 0, none⟩) n c) L) : n ≤ c := by
  rcases h.2 with ⟨e, _⟩ | ⟨g', cap', cur, e, _, hg, hc, _⟩
  · cases e
  · cases e; exact hc
theorem flat_set0 (L : List (Int × Int)) : ∀ (i : Nat) (h : i < L.length) (x : Int), flat (L.set i (x, L[i].2)) = (flat L).set (i * 2) (.int .i64 x) := by
  induction L with
  | nil => intro i h; exact absurd h (Nat.not_lt_zero _)
  | cons a l ih =>
    intro i h x
    cases i with
    | zero => rfl
    | succ i =>
      have := ih i (by simpa using h) x
      rw [show (i + 1) * 2 = (i * 2) + 2 by omega]
      simp only [List.set_cons_succ, List.getElem_cons_succ]
      show [Value.int .i64 a.1, .int .i64 a.2] ++ flat _ = ([Value.int .i64 a.1, .int .i64 a.2] ++ flat l).set (i * 2 + 2) _
      rw [this]
      rfl
theorem OpsRow.setK {B : Nat} {w : World} {g c : Nat} {L : List (Int × Int)} (h : OpsRow B w (.slice (some ⟨g, 0, none⟩) L.length c) L) (i : Nat) (hi : i < L.length) (x : Int) :
    OpsRow B (w.setCell ⟨g, i * 2, none⟩ (.int .i64 x)) (.slice (some ⟨g, 0, none⟩) L.length c) (L.set i (x, L[i].2)) ∧ w.grownBy (w.setCell ⟨g, i * 2, none⟩ (.int .i64 x)) (some g) := by
  obtain ⟨s1, s2⟩ := World.ownsRow.stored h (i * 2) (.int .i64 x)
  refine ⟨?_, s2⟩
  show World.ownsRow _ _ _ _ _ _ _
  rw [List.length_set, flat_set0 L i hi x]
  exact s1
theorem OpsRow.take {B : Nat} {w : World} {g c : Nat} {L : List (Int × Int)} (h : OpsRow B w (.slice (some ⟨g, 0, none⟩) L.length c) L) (n : Nat) (hn : n ≤ L.length) : OpsRow B w (.slice (some ⟨g, 0, none⟩) n c) (L.take n) := by
  rcases h.2 with ⟨e, _⟩ | ⟨g', cap', cur, e, hB, hg, hc, hm, hs, ht⟩
  · cases e
  · cases e
    have hl : (L.take n).length = n := by simp [hn]
    have hf : flat (L.take n) = (flat L).take (n * 2) := by
      have h1 := flat_append (L.take n) (L.drop n)
      rw [List.take_append_drop] at h1
      have h2 : (flat (L.take n)).length = n * 2 := by rw [flat_length, hl]
      have h3 := List.take_left' (l₂ := flat (L.drop n)) h2
      rw [← h1] at h3
      exact h3.symm
    refine ⟨by rw [flat_length], .inr ⟨g, c, cur, by rw [hl], hB, hg, by rw [hl]; omega, hm, hs, ?_⟩⟩
    rw [hl, hf, ← ht, List.take_take, Nat.min_eq_left (by omega)]
namespace PS
variable {w0 w w' W : World} {b : Nat} {a : Option Addr} {len cap p q g : Nat} {va : Value} {xs : List Int} {v v' : Value} {ms ms' : List MM}
theorem below (h : PS w0 w b a len cap p g va xs v ms) (hb : Below w.heap.size w w') : PS w0 w' b a len cap p g va xs v ms := by
  have hN := below_grown hb none
  obtain ⟨p0, h0⟩ := h.r0
  exact ⟨Rd.kept h0 h.rd h.gr.size hN (fun g e => by cases e), grown_own h.gr hN (fun g e => by cases e), h.args.kept hN (fun g e => by cases e), row_kept h.box hN (by simp), h.own, h.row.kept hN (fun g e => by cases e), row_kept h.res hN (by simp), h.r0⟩
theorem rowWrite (h : PS w0 w b a len cap p g va xs v ms) (hg : w.grownBy w' v.ownBlock) (hr : MRow w0.heap.size w' v (ms'.map MM.tri)) (ho : ∀ m ∈ ms', OpsRow w0.heap.size w m.2.2.1 m.2.2.2)
    (hd : ms'.Pairwise fun m n => ∀ g, m.2.2.1.ownBlock = some g → n.2.2.1.ownBlock ≠ some g) : PS w0 w' b a len cap p g va xs v ms' := by
  obtain ⟨h1, h2, h3, h4, h5, h6⟩ := h.appended hg
  exact ⟨h1, h2, h3, h4, h.own, ⟨hr, fun m hm => h6 _ _ (ho m hm), hd⟩, h5, h.r0⟩
theorem dis_set {ms : List MM} (h : ms.Pairwise fun m n => ∀ g, m.2.2.1.ownBlock = some g → n.2.2.1.ownBlock ≠ some g) (k : Nat) (hk : k < ms.length) (m' : MM) (hm : m'.2.2.1.ownBlock = ms[k].2.2.1.ownBlock) :
    (ms.set k m').Pairwise fun m n => ∀ g, m.2.2.1.ownBlock = some g → n.2.2.1.ownBlock ≠ some g := by
  rw [List.pairwise_iff_getElem] at h ⊢
  intro i j hi hj hij
  have hi' : i < ms.length := by simpa using hi
  have hj' : j < ms.length := by simpa using hj
  have := h i j hi' hj' hij
  simp only [List.getElem_set]
  by_cases e1 : k = i
  · subst e1
    rw [if_pos rfl, if_neg (by omega), hm]
    exact this
  · rw [if_neg e1]
    by_cases e2 : k = j
    · subst e2
      rw [if_pos rfl, hm]
      exact this
    · rw [if_neg e2]
      exact this
theorem read {gm n c gk ck ln : Nat} (h : PS w0 w b a len cap p g va xs (.slice (some ⟨gm, 0, none⟩) n c) ms) (k : Nat) (hk : k < ms.length) (hv : ms[k].2.2.1 = .slice (some ⟨gk, 0, none⟩) ln ck) (hl : ms[k].2.2.2.length = ln) (i : Nat) (hi : i < ln) :
    w.cell? ⟨g, 0, none⟩ = some (.slice (some ⟨gm, 0, none⟩) n c) ∧ w.frozen? ⟨g, 0, none⟩ = false ∧ (∃ x, w.cell? ⟨gm, k * 3, none⟩ = some (.int .i64 x)) ∧ (∃ x, w.cell? ⟨gm, k * 3 + 1, none⟩ = some (.int .i64 x)) ∧ w.cell? ⟨gm, k * 3 + 2, none⟩ = some (.slice (some ⟨gk, 0, none⟩) ln ck) ∧
    w.frozen? ⟨gm, k * 3, none⟩ = false ∧ w.frozen? ⟨gm, k * 3 + 1, none⟩ = false ∧ w.frozen? ⟨gm, k * 3 + 2, none⟩ = false ∧
    (∃ x, w.cell? ⟨gk, i * 2, none⟩ = some (.int .i64 x)) ∧ (∃ x, w.cell? ⟨gk, i * 2 + 1, none⟩ = some (.int .i64 x)) ∧ w.frozen? ⟨gk, i * 2, none⟩ = false ∧ w.frozen? ⟨gk, i * 2 + 1, none⟩ = false := by
  have cs := h.row.row.cell k (by simpa using hk)
  rw [PRow.ofMap hk, hv] at cs
  have hok := h.row.ops _ (List.getElem_mem hk)
  rw [hv] at hok
  have oc := hok.cell i (by omega)
  exact ⟨h.c0, h.f0, ⟨_, cs.1⟩, ⟨_, cs.2.1⟩, cs.2.2, h.row.row.frozen _, h.row.row.frozen _, h.row.row.frozen _, ⟨_, oc.1⟩, ⟨_, oc.2⟩, hok.frozen _, hok.frozen _⟩
theorem opsWrite (h : PS w0 w b a len cap p g va xs v ms) (k : Nat) (hk : k < ms.length) {gk : Nat} (hv : ms[k].2.2.1.ownBlock = some gk) (hg : w.grownBy w' (some gk)) {L' : List (Int × Int)} (ho : OpsRow w0.heap.size w' ms[k].2.2.1 L') :
    PS w0 w' b a len cap p g va xs v (ms.set k (ms[k].1, ms[k].2.1, ms[k].2.2.1, L')) := by
  have hop := h.row.ops _ (List.getElem_mem hk)
  have e : ∀ j, some gk = some j → w0.heap.size ≤ j := fun j e => by cases e; exact (hop.lt _ hv).1
  have hmap : (ms.set k (ms[k].1, ms[k].2.1, ms[k].2.2.1, L')).map MM.tri = ms.map MM.tri := by
    rw [List.map_set]
    have : MM.tri (ms[k].1, ms[k].2.1, ms[k].2.2.1, L') = (ms.map MM.tri)[k]'(by simpa using hk) := by simp [MM.tri]
    rw [this, List.set_getElem_self]
  obtain ⟨p0, h0⟩ := h.r0
  refine ⟨Rd.kept h0 h.rd h.gr.size hg e, grown_own h.gr hg e, h.args.kept hg (fun j e hj => by cases e; exact nrow_ne h.args hop _ hj hv), row_kept h.box hg (fun e => row_ne_ops h.box hop (by decide) (by rw [hv]; exact e.symm)), h.own, ⟨?_, ?_, dis_set h.row.dis k hk _ rfl⟩, row_kept h.res hg (fun e => row_ne_ops h.res hop (by decide) (by rw [hv]; exact e.symm)), h.r0⟩
  · rw [hmap]
    exact h.row.row.kept hg (fun j e hj => by cases e; exact mrow_ne h.row.row hop _ hj hv)
  · intro m hm
    obtain ⟨i, hi, rfl⟩ := List.mem_iff_getElem.1 hm
    have hi' : i < ms.length := by simpa using hi
    rw [List.getElem_set]
    by_cases e : k = i
    · rw [if_pos e]; exact ho
    · rw [if_neg e]
      refine (h.row.ops _ (List.getElem_mem hi')).kept hg (fun j ej hj => ?_)
      cases ej
      have hp := List.pairwise_iff_getElem.1 h.row.dis
      rcases Nat.lt_or_gt_of_ne e with e | e
      · exact hp k i hk hi' e _ hv hj
      · exact hp i k hi' hk e _ hj hv
theorem opBoth (h : PS w0 w b a len cap p g va xs v ms) (k : Nat) (hk : k < ms.length) {gk c : Nat} (hv : ms[k].2.2.1 = .slice (some ⟨gk, 0, none⟩) ms[k].2.2.2.length c) (i : Nat) (hi : i < ms[k].2.2.2.length) (x y : Int) :
    ∃ L', L'.length = ms[k].2.2.2.length ∧ PS w0 ((w.setCell ⟨gk, i * 2, none⟩ (.int .i64 x)).setCell ⟨gk, i * 2 + 1, none⟩ (.int .i64 y)) b a len cap p g va xs v (ms.set k (ms[k].1, ms[k].2.1, ms[k].2.2.1, L')) := by
  have hop := h.row.ops _ (List.getElem_mem hk)
  rw [hv] at hop
  obtain ⟨s1, s2⟩ := hop.setK i hi x
  have hop' : OpsRow w0.heap.size (w.setCell ⟨gk, i * 2, none⟩ (.int .i64 x)) (.slice (some ⟨gk, 0, none⟩) (ms[k].2.2.2.set i (x, ms[k].2.2.2[i].2)).length c) (ms[k].2.2.2.set i (x, ms[k].2.2.2[i].2)) := by rw [List.length_set]; exact s1
  obtain ⟨_, _, t1, t2⟩ := hop'.setA i (by simpa using hi) y
  have st : w.grownBy ((w.setCell ⟨gk, i * 2, none⟩ (.int .i64 x)).setCell ⟨gk, i * 2 + 1, none⟩ (.int .i64 y)) (some gk) := ⟨rfl, rfl, rfl, by simp [World.setCell], fun j hj hn => (t2.block j (by simpa [World.setCell] using hj) hn).trans (s2.block j hj hn)⟩
  refine ⟨_, ?_, h.opsWrite k hk (gk := gk) (by rw [hv]; rfl) st (L' := (ms[k].2.2.2.set i (x, ms[k].2.2.2[i].2)).set i ((ms[k].2.2.2.set i (x, ms[k].2.2.2[i].2))[i]'(by simpa using hi) |>.1, y)) ?_⟩
  · simp
  · rw [hv]; simpa only [List.length_set] using t1
theorem opA (h : PS w0 w b a len cap p g va xs v ms) (k : Nat) (hk : k < ms.length) {gk c : Nat} (hv : ms[k].2.2.1 = .slice (some ⟨gk, 0, none⟩) ms[k].2.2.2.length c) (i : Nat) (hi : i < ms[k].2.2.2.length) (y : Int) :
    ∃ L', L'.length = ms[k].2.2.2.length ∧ PS w0 (w.setCell ⟨gk, i * 2 + 1, none⟩ (.int .i64 y)) b a len cap p g va xs v (ms.set k (ms[k].1, ms[k].2.1, ms[k].2.2.1, L')) := by
  have hop := h.row.ops _ (List.getElem_mem hk)
  rw [hv] at hop
  obtain ⟨_, _, t1, t2⟩ := hop.setA i hi y
  exact ⟨_, by simp, h.opsWrite k hk (gk := gk) (by rw [hv]; rfl) t2 (L' := ms[k].2.2.2.set i (ms[k].2.2.2[i].1, y)) (by rw [hv]; exact t1)⟩
theorem mem_set_ops (h : PS w0 w b a len cap p g va xs v ms) (k : Nat) (m' : MM) (hm : OpsRow w0.heap.size w m'.2.2.1 m'.2.2.2) : ∀ m ∈ ms.set k m', OpsRow w0.heap.size w m.2.2.1 m.2.2.2 := by
  intro m hm'
  rcases List.mem_or_eq_of_mem_set hm' with hm' | rfl
  · exact h.row.ops m hm'
  · exact hm
theorem mArgs {gm n c : Nat} (h : PS w0 w b a len cap p g va xs (.slice (some ⟨gm, 0, none⟩) n c) ms) (hn : n = ms.length) (k : Nat) (hk : k < ms.length) (x : Int) :
    PS w0 (w.setCell ⟨gm, k * 3, none⟩ (.int .i64 x)) b a len cap p g va xs (.slice (some ⟨gm, 0, none⟩) n c) (ms.set k (x, ms[k].2.1, ms[k].2.2.1, ms[k].2.2.2)) := by
  subst hn
  have hrow : w.ownsRow w0.heap.size 83 3 (.slice (some ⟨gm, 0, none⟩) ms.length c) ms.length (flat3 (ms.map MM.tri)) := by have := h.row.row; unfold MRow at this; rwa [List.length_map] at this
  obtain ⟨s1, s2⟩ := World.ownsRow.stored hrow (k * 3) (.int .i64 x)
  refine h.rowWrite s2 ?_ (h.mem_set_ops k _ (h.row.ops ms[k] (List.getElem_mem hk))) (dis_set h.row.dis k hk _ rfl)
  unfold MRow
  rw [List.length_map, List.length_set, List.map_set]
  have := flat3_set0 (ms.map MM.tri) k (by simpa using hk) x
  rw [PRow.ofMap hk] at this
  rw [show MM.tri (x, ms[k].2.1, ms[k].2.2.1, ms[k].2.2.2) = (x, ms[k].2.1, ms[k].2.2.1) from rfl, this]
  exact s1
theorem mTemps {gm n c : Nat} (h : PS w0 w b a len cap p g va xs (.slice (some ⟨gm, 0, none⟩) n c) ms) (hn : n = ms.length) (k : Nat) (hk : k < ms.length) (x : Int) :
    PS w0 (w.setCell ⟨gm, k * 3 + 1, none⟩ (.int .i64 x)) b a len cap p g va xs (.slice (some ⟨gm, 0, none⟩) n c) (ms.set k (ms[k].1, x, ms[k].2.2.1, ms[k].2.2.2)) := by
  subst hn
  have hrow : w.ownsRow w0.heap.size 83 3 (.slice (some ⟨gm, 0, none⟩) ms.length c) ms.length (flat3 (ms.map MM.tri)) := by have := h.row.row; unfold MRow at this; rwa [List.length_map] at this
  obtain ⟨s1, s2⟩ := World.ownsRow.stored hrow (k * 3 + 1) (.int .i64 x)
  refine h.rowWrite s2 ?_ (h.mem_set_ops k _ (h.row.ops ms[k] (List.getElem_mem hk))) (dis_set h.row.dis k hk _ rfl)
  unfold MRow
  rw [List.length_map, List.length_set, List.map_set]
  have := flat3_set1 (ms.map MM.tri) k (by simpa using hk) x
  rw [PRow.ofMap hk] at this
  rw [show MM.tri (ms[k].1, x, ms[k].2.2.1, ms[k].2.2.2) = (ms[k].1, x, ms[k].2.2.1) from rfl, this]
  exact s1
theorem mCut {gm n c gk ck : Nat} (h : PS w0 w b a len cap p g va xs (.slice (some ⟨gm, 0, none⟩) n c) ms) (hn : n = ms.length) (k : Nat) (hk : k < ms.length) (hv : ms[k].2.2.1 = .slice (some ⟨gk, 0, none⟩) ms[k].2.2.2.length ck) (i : Nat) (hi : i ≤ ms[k].2.2.2.length) :
    PS w0 (w.setCell ⟨gm, k * 3 + 2, none⟩ (.slice (some ⟨gk, 0, none⟩) i ck)) b a len cap p g va xs (.slice (some ⟨gm, 0, none⟩) n c) (ms.set k (ms[k].1, ms[k].2.1, .slice (some ⟨gk, 0, none⟩) i ck, ms[k].2.2.2.take i)) := by
  subst hn
  have hrow : w.ownsRow w0.heap.size 83 3 (.slice (some ⟨gm, 0, none⟩) ms.length c) ms.length (flat3 (ms.map MM.tri)) := by have := h.row.row; unfold MRow at this; rwa [List.length_map] at this
  obtain ⟨s1, s2⟩ := World.ownsRow.stored hrow (k * 3 + 2) (.slice (some ⟨gk, 0, none⟩) i ck)
  have hop := h.row.ops _ (List.getElem_mem hk)
  rw [hv] at hop
  refine h.rowWrite s2 ?_ (h.mem_set_ops k _ (hop.take i hi)) (dis_set h.row.dis k hk _ (by rw [hv]; rfl))
  unfold MRow
  rw [List.length_map, List.length_set, List.map_set]
  have := flat3_set2 (ms.map MM.tri) k (by simpa using hk) (.slice (some ⟨gk, 0, none⟩) i ck)
  rw [PRow.ofMap hk] at this
  rw [show MM.tri (ms[k].1, ms[k].2.1, .slice (some ⟨gk, 0, none⟩) i ck, ms[k].2.2.2.take i) = (ms[k].1, ms[k].2.1, .slice (some ⟨gk, 0, none⟩) i ck) from rfl, this]
  exact s1
end PS
end Go.Proofs.Ytldiccheboipeaa
