/-
  What draws: a program that is written into: one of its operations, one of its methods' numbers, one of its rows of operations cut short.
-/
import Derived.Test.YtfpodljalccpnaaGreatDoorDraw10

namespace Go.Proofs.YtfpodljalccpnaaGreatDoor
open Go.RowKit
theorem flat3_set0 (L : List (Int × Int × Value)) : ∀ (i : Nat) (h : i < L.length) (x : Int), flat3 (L.set i (x, L[i].2.1, L[i].2.2)) = (flat3 L).set (i * 3) (.int .i64 x) := by
  induction L with
  | nil => intro i h; exact absurd h (Nat.not_lt_zero _)
  | cons a l ih =>
    intro i h x
    cases i with
    | zero => rfl
    | succ i =>
      have := ih i (by simpa using h) x
      rw [show (i + 1) * 3 = (i * 3) + 3 by omega]
      simp only [List.set_cons_succ, List.getElem_cons_succ]
      show [Value.int .i64 a.1, .int .i64 a.2.1, a.2.2] ++ flat3 _ = ([Value.int .i64 a.1, .int .i64 a.2.1, a.2.2] ++ flat3 l).set (i * 3 + 3) _
      rw [this]
      rfl
theorem flat3_set1 (L : List (Int × Int × Value)) : ∀ (i : Nat) (h : i < L.length) (x : Int), flat3 (L.set i (L[i].1, x, L[i].2.2)) = (flat3 L).set (i * 3 + 1) (.int .i64 x) := by
  induction L with
  | nil => intro i h; exact absurd h (Nat.not_lt_zero _)
  | cons a l ih =>
    intro i h x
    cases i with
    | zero => rfl
    | succ i =>
      have := ih i (by simpa using h) x
      rw [show (i + 1) * 3 + 1 = (i * 3 + 1) + 3 by omega]
      simp only [List.set_cons_succ, List.getElem_cons_succ]
      show [Value.int .i64 a.1, .int .i64 a.2.1, a.2.2] ++ flat3 _ = ([Value.int .i64 a.1, .int .i64 a.2.1, a.2.2] ++ flat3 l).set (i * 3 + 1 + 3) _
      rw [this]
      rfl
theorem flat3_set2 (L : List (Int × Int × Value)) : ∀ (i : Nat) (h : i < L.length) (x : Value), flat3 (L.set i (L[i].1, L[i].2.1, x)) = (flat3 L).set (i * 3 + 2) x := by
  induction L with
  | nil => intro i h; exact absurd h (Nat.not_lt_zero _)
  | cons a l ih =>
    intro i h x
    cases i with
    | zero => rfl
    | succ i =>
      have := ih i (by simpa using h) x
      rw [show (i + 1) * 3 + 2 = (i * 3 + 2) + 3 by omega]
      simp only [List.set_cons_succ, List.getElem_cons_succ]
      show [Value.int .i64 a.1, .int .i64 a.2.1, a.2.2] ++ flat3 _ = ([Value.int .i64 a.1, .int .i64 a.2.1, a.2.2] ++ flat3 l).set (i * 3 + 2 + 3) _
      rw [this]
      rfl
theorem MRow.frozen {B : Nat} {w : World} {g n c : Nat} {ms : List (Int × Int × Value)} (h : MRow B w (.slice (some ⟨g, 0, none⟩) n c) ms) (j : Nat) : w.frozen? ⟨g, j, none⟩ = false := by
  rcases h.2 with ⟨e, _⟩ | ⟨g', cap', cur, e, _, hg, _⟩
  · cases e
  · cases e
    unfold World.frozen?; rw [hg]; simp
theorem OpsRow.frozen {B : Nat} {w : World} {g n c : Nat} {L : List (Int × Int)} (h : OpsRow B w (.slice (some ⟨g, 0, none⟩) n c) L) (j : Nat) : w.frozen? ⟨g, j, none⟩ = false := by
  rcases h.2 with ⟨e, _⟩ | ⟨g', cap', cur, e, _, hg, _⟩
  · cases e
  · cases e
    unfold World.frozen?; rw [hg]; simp
theorem OpsRow.cell {B : Nat} {w : World} {g n c : Nat} {L : List (Int × Int)} (h : OpsRow B w (.slice (some ⟨g, 0, none⟩) n c) L) (i : Nat) (hi : i < L.length) :
    w.cell? ⟨g, i * 2, none⟩ = some (.int .i64 L[i].1) ∧ w.cell? ⟨g, i * 2 + 1, none⟩ = some (.int .i64 L[i].2) := by
  have k0 := World.ownsRow.cells h (g := g) rfl _ _ (flat_at L i hi).1
  have k1 := World.ownsRow.cells h (g := g) rfl _ _ (flat_at L i hi).2
  rw [Addr.add_lit, Nat.zero_add] at k0 k1
  exact ⟨k0, k1⟩
theorem OpsRow.room {B : Nat} {w : World} {g n c : Nat} {L : List (Int × Int)} (h : OpsRow B w (.slice (some ⟨g, 0, none⟩) n c) L) : n ≤ c := by
  rcases h.2 with ⟨e, _⟩ | ⟨g', cap', cur, e, _, hg, hc, _⟩
  · cases e
  · cases e; exact hc
theorem flat_set0 (L : List (Int × Int)) : ∀ (i : Nat) (h : i < L.length) (x : Int), flat (L.set i (x, L[i].2)) = (flat L).set (i * 2) (.int .i64 x) := by
  induction L with
  | nil => intro i h; exact absurd h (Nat.not_lt_zero _)
  | cons a l ih =>
    intro i h x
    cases i with
    | zero => rfl
    | succ i =>
      have := ih i (by simpa using h) x
      rw [show (i + 1) * 2 = (i * 2) + 2 by omega]
      simp only [List.set_cons_succ, List.getElem_cons_succ]
      show [Value.int .i64 a.1, .int .i64 a.2] ++ flat _ = ([Value.int .i64 a.1, .int .i64 a.2] ++ flat l).set (i * 2 + 2) _
      rw [this]
      rfl
theorem OpsRow.setK {B : Nat} {w : World} {g c : Nat} {L : List (Int × Int)} (h : OpsRow B w (.slice (some ⟨g, 0, none⟩) L.length c) L) (i : Nat) (hi : i < L.length) (x : Int) :
    OpsRow B (w.setCell ⟨g, i * 2, none⟩ (.int .i64 x)) (.slice (some ⟨g, 0, none⟩) L.length c) (L.set i (x, L[i].2)) ∧ w.grownBy (w.setCell ⟨g, i * 2, none⟩ (.int .i64 x)) (some g) := by
  obtain ⟨s1, s2⟩ := World.ownsRow.stored h (i * 2) (.int .i64 x)
  refine ⟨?_, s2⟩
  show World.ownsRow _ _ _ _ _ _ _
  rw [List.length_set, flat_set0 L i hi x]
  exact s1
theorem OpsRow.take {B : Nat} {w : World} {g c : Nat} {L : List (Int × Int)} (h : OpsRow B w (.slice (some ⟨g, 0, none⟩) L.length c) L) (n : Nat) (hn : n ≤ L.length) : OpsRow B w (.slice (some ⟨g, 0, none⟩) n c) (L.take n) := by
  rcases h.2 with ⟨e, _⟩ | ⟨g', cap', cur, e, hB, hg, hc, hm, hs, ht⟩
  · cases e
  · cases e
    have hl : (L.take n).length = n := by simp [hn]
    have hf : flat (L.take n) = (flat L).take (n * 2) := by
      have h1 := flat_append (L.take n) (L.drop n)
      rw [List.take_append_drop] at h1
      have h2 : (flat (L.take n)).length = n * 2 := by rw [flat_length, hl]
      have h3 := List.take_left' (l₂ := flat (L.drop n)) h2
      rw [← h1] at h3
      exact h3.symm
    refine ⟨by rw [flat_length], .inr ⟨g, c, cur, by rw [hl], hB, hg, by rw [hl]; omega, hm, hs, ?_⟩⟩
    rw [hl, hf, ← ht, List.take_take, Nat.min_eq_left (by omega)]
namespace PS
variable {w0 w w' W : World} {b : Nat} {a : Option Addr} {len cap p q g : Nat} {va : Value} {xs : List Int} {v v' : Value} {ms ms' : List MM}
theorem below (h : PS w0 w b a len cap p g va xs v ms) (hb : Below w.heap.size w w') : PS w0 w' b a len cap p g va xs v ms := by
  have hN := below_grown hb none
  obtain ⟨p0, h0⟩ := h.r0
  exact ⟨Rd.kept h0 h.rd h.gr.size hN (fun g e => by cases e), grown_own h.gr hN (fun g e => by cases e), h.args.kept hN (fun g e => by cases e), row_kept h.box hN (by simp), h.own, h.row.kept hN (fun g e => by cases e), row_kept h.res hN (by simp), h.r0⟩
theorem rowWrite (h : PS w0 w b a len cap p g va xs v ms) (hg : w.grownBy w' v.ownBlock) (hr : MRow w0.heap.size w' v (ms'.map MM.tri)) (ho : ∀ m ∈ ms', OpsRow w0.heap.size w m.2.2.1 m.2.2.2)
    (hd : ms'.Pairwise fun m n => ∀ g, m.2.2.1.ownBlock = some g → n.2.2.1.ownBlock ≠ some g) : PS w0 w' b a len cap p g va xs v ms' := by
  obtain ⟨h1, h2, h3, h4, h5, h6⟩ := h.appended hg
  exact ⟨h1, h2, h3, h4, h.own, ⟨hr, fun m hm => h6 _ _ (ho m hm), hd⟩, h5, h.r0⟩
theorem dis_set {ms : List MM} (h : ms.Pairwise fun m n => ∀ g, m.2.2.1.ownBlock = some g → n.2.2.1.ownBlock ≠ some g) (k : Nat) (hk : k < ms.length) (m' : MM) (hm : m'.2.2.1.ownBlock = ms[k].2.2.1.ownBlock) :
    (ms.set k m').Pairwise fun m n => ∀ g, m.2.2.1.ownBlock = some g → n.2.2.1.ownBlock ≠ some g := by
  rw [List.pairwise_iff_getElem] at h ⊢
  intro i j hi hj hij
  have hi' : i < ms.length := by simpa using hi
  have hj' : j < ms.length := by simpa using hj
  have := h i j hi' hj' hij
  simp only [List.getElem_set]
  by_cases e1 : k = i
  · subst e1
    rw [if_pos rfl, if_neg (by omega), hm]
    exact this
  · rw [if_neg e1]
    by_cases e2 : k = j
    · subst e2
      rw [if_pos rfl, hm]
      exact this
    · rw [if_neg e2]
      exact this
theorem read {gm n c gk ck ln : Nat} (h : PS w0 w b a len cap p g va xs (.slice (some ⟨gm, 0, none⟩) n c) ms) (k : Nat) (hk : k < ms.length) (hv : ms[k].2.2.1 = .slice (some ⟨gk, 0, none⟩) ln ck) (hl : ms[k].2.2.2.length = ln) (i : Nat) (hi : i < ln) :
    w.cell? ⟨g, 0, none⟩ = some (.slice (some ⟨gm, 0, none⟩) n c) ∧ w.frozen? ⟨g, 0, none⟩ = false ∧ (∃ x, w.cell? ⟨gm, k * 3, none⟩ = some (.int .i64 x)) ∧ (∃ x, w.cell? ⟨gm, k * 3 + 1, none⟩ = some (.int .i64 x)) ∧ w.cell? ⟨gm, k * 3 + 2, none⟩ = some (.slice (some ⟨gk, 0, none⟩) ln ck) ∧
    w.frozen? ⟨gm, k * 3, none⟩ = false ∧ w.frozen? ⟨gm, k * 3 + 1, none⟩ = false ∧ w.frozen? ⟨gm, k * 3 + 2, none⟩ = false ∧
    (∃ x, w.cell? ⟨gk, i * 2, none⟩ = some (.int .i64 x)) ∧ (∃ x, w.cell? ⟨gk, i * 2 + 1, none⟩ = some (.int .i64 x)) ∧ w.frozen? ⟨gk, i * 2, none⟩ = false ∧ w.frozen? ⟨gk, i * 2 + 1, none⟩ = false := by
  have cs := h.row.row.cell k (by simpa using hk)
  rw [PRow.ofMap hk, hv] at cs
  have hok := h.row.ops _ (List.getElem_mem hk)
  rw [hv] at hok
  have oc := hok.cell i (by omega)
  exact ⟨h.c0, h.f0, ⟨_, cs.1⟩, ⟨_, cs.2.1⟩, cs.2.2, h.row.row.frozen _, h.row.row.frozen _, h.row.row.frozen _, ⟨_, oc.1⟩, ⟨_, oc.2⟩, hok.frozen _, hok.frozen _⟩
theorem opsWrite (h : PS w0 w b a len cap p g va xs v ms) (k : Nat) (hk : k < ms.length) {gk : Nat} (hv : ms[k].2.2.1.ownBlock = some gk) (hg : w.grownBy w' (some gk)) {L' : List (Int × Int)} (ho : OpsRow w0.heap.size w' ms[k].2.2.1 L') :
    PS w0 w' b a len cap p g va xs v (ms.set k (ms[k].1, ms[k].2.1, ms[k].2.2.1, L')) := by
  have hop := h.row.ops _ (List.getElem_mem hk)
  have e : ∀ j, some gk = some j → w0.heap.size ≤ j := fun j e => by cases e; exact (hop.lt _ hv).1
  have hmap : (ms.set k (ms[k].1, ms[k].2.1, ms[k].2.2.1, L')).map MM.tri = ms.map MM.tri := by
    rw [List.map_set]
    have : MM.tri (ms[k].1, ms[k].2.1, ms[k].2.2.1, L') = (ms.map MM.tri)[k]'(by simpa using hk) := by simp [MM.tri]
    rw [this, List.set_getElem_self]
  obtain ⟨p0, h0⟩ := h.r0
  refine ⟨Rd.kept h0 h.rd h.gr.size hg e, grown_own h.gr hg e, h.args.kept hg (fun j e hj => by cases e; exact nrow_ne h.args hop _ hj hv), row_kept h.box hg (fun e => row_ne_ops h.box hop (by decide) (by rw [hv]; exact e.symm)), h.own, ⟨?_, ?_, dis_set h.row.dis k hk _ rfl⟩, row_kept h.res hg (fun e => row_ne_ops h.res hop (by decide) (by rw [hv]; exact e.symm)), h.r0⟩
  · rw [hmap]
    exact h.row.row.kept hg (fun j e hj => by cases e; exact mrow_ne h.row.row hop _ hj hv)
  · intro m hm
    obtain ⟨i, hi, rfl⟩ := List.mem_iff_getElem.1 hm
    have hi' : i < ms.length := by simpa using hi
    rw [List.getElem_set]
    by_cases e : k = i
    · rw [if_pos e]; exact ho
    · rw [if_neg e]
      refine (h.row.ops _ (List.getElem_mem hi')).kept hg (fun j ej hj => ?_)
      cases ej
      have hp := List.pairwise_iff_getElem.1 h.row.dis
      rcases Nat.lt_or_gt_of_ne e with e | e
      · exact hp k i hk hi' e _ hv hj
      · exact hp i k hi' hk e _ hj hv
theorem opBoth (h : PS w0 w b a len cap p g va xs v ms) (k : Nat) (hk : k < ms.length) {gk c : Nat} (hv : ms[k].2.2.1 = .slice (some ⟨gk, 0, none⟩) ms[k].2.2.2.length c) (i : Nat) (hi : i < ms[k].2.2.2.length) (x y : Int) :
    ∃ L', L'.length = ms[k].2.2.2.length ∧ PS w0 ((w.setCell ⟨gk, i * 2, none⟩ (.int .i64 x)).setCell ⟨gk, i * 2 + 1, none⟩ (.int .i64 y)) b a len cap p g va xs v (ms.set k (ms[k].1, ms[k].2.1, ms[k].2.2.1, L')) := by
  have hop := h.row.ops _ (List.getElem_mem hk)
  rw [hv] at hop
  obtain ⟨s1, s2⟩ := hop.setK i hi x
  have hop' : OpsRow w0.heap.size (w.setCell ⟨gk, i * 2, none⟩ (.int .i64 x)) (.slice (some ⟨gk, 0, none⟩) (ms[k].2.2.2.set i (x, ms[k].2.2.2[i].2)).length c) (ms[k].2.2.2.set i (x, ms[k].2.2.2[i].2)) := by rw [List.length_set]; exact s1
  obtain ⟨_, _, t1, t2⟩ := hop'.setA i (by simpa using hi) y
  have st : w.grownBy ((w.setCell ⟨gk, i * 2, none⟩ (.int .i64 x)).setCell ⟨gk, i * 2 + 1, none⟩ (.int .i64 y)) (some gk) := ⟨rfl, rfl, rfl, by simp [World.setCell], fun j hj hn => (t2.block j (by simpa [World.setCell] using hj) hn).trans (s2.block j hj hn)⟩
  refine ⟨_, ?_, h.opsWrite k hk (gk := gk) (by rw [hv]; rfl) st (L' := (ms[k].2.2.2.set i (x, ms[k].2.2.2[i].2)).set i ((ms[k].2.2.2.set i (x, ms[k].2.2.2[i].2))[i]'(by simpa using hi) |>.1, y)) ?_⟩
  · simp
  · rw [hv]; simpa only [List.length_set] using t1
theorem opA (h : PS w0 w b a len cap p g va xs v ms) (k : Nat) (hk : k < ms.length) {gk c : Nat} (hv : ms[k].2.2.1 = .slice (some ⟨gk, 0, none⟩) ms[k].2.2.2.length c) (i : Nat) (hi : i < ms[k].2.2.2.length) (y : Int) :
    ∃ L', L'.length = ms[k].2.2.2.length ∧ PS w0 (w.setCell ⟨gk, i * 2 + 1, none⟩ (.int .i64 y)) b a len cap p g va xs v (ms.set k (ms[k].1, ms[k].2.1, ms[k].2.2.1, L')) := by
  have hop := h.row.ops _ (List.getElem_mem hk)
  rw [hv] at hop
  obtain ⟨_, _, t1, t2⟩ := hop.setA i hi y
  exact ⟨_, by simp, h.opsWrite k hk (gk := gk) (by rw [hv]; rfl) t2 (L' := ms[k].2.2.2.set i (ms[k].2.2.2[i].1, y)) (by rw [hv]; exact t1)⟩
theorem mem_set_ops (h : PS w0 w b a len cap p g va xs v ms) (k : Nat) (m' : MM) (hm : OpsRow w0.heap.size w m'.2.2.1 m'.2.2.2) : ∀ m ∈ ms.set k m', OpsRow w0.heap.size w m.2.2.1 m.2.2.2 := by
  intro m hm'
  rcases List.mem_or_eq_of_mem_set hm' with hm' | rfl
  · exact h.row.ops m hm'
  · exact hm
theorem mArgs {gm n c : Nat} (h : PS w0 w b a len cap p g va xs (.slice (some ⟨gm, 0, none⟩) n c) ms) (hn : n = ms.length) (k : Nat) (hk : k < ms.length) (x : Int) :
    PS w0 (w.setCell ⟨gm, k * 3, none⟩ (.int .i64 x)) b a len cap p g va xs (.slice (some ⟨gm, 0, none⟩) n c) (ms.set k (x, ms[k].2.1, ms[k].2.2.1, ms[k].2.2.2)) := by
  subst hn
  have hrow : w.ownsRow w0.heap.size 35 3 (.slice (some ⟨gm, 0, none⟩) ms.length c) ms.length (flat3 (ms.map MM.tri)) := by have := h.row.row; unfold MRow at this; rwa [List.length_map] at this
  obtain ⟨s1, s2⟩ := World.ownsRow.stored hrow (k * 3) (.int .i64 x)
  refine h.rowWrite s2 ?_ (h.mem_set_ops k _ (h.row.ops ms[k] (List.getElem_mem hk))) (dis_set h.row.dis k hk _ rfl)
  unfold MRow
  rw [List.length_map, List.length_set, List.map_set]
  have := flat3_set0 (ms.map MM.tri) k (by simpa using hk) x
  rw [PRow.ofMap hk] at this
  rw [show MM.tri (x, ms[k].2.1, ms[k].2.2.1, ms[k].2.2.2) = (x, ms[k].2.1, ms[k].2.2.1) from rfl, this]
  exact s1
theorem mTemps {gm n c : Nat} (h : PS w0 w b a len cap p g va xs (.slice (some ⟨gm, 0, none⟩) n c) ms) (hn : n = ms.length) (k : Nat) (hk : k < ms.length) (x : Int) :
    PS w0 (w.setCell ⟨gm, k * 3 + 1, none⟩ (.int .i64 x)) b a len cap p g va xs (.slice (some ⟨gm, 0, none⟩) n c) (ms.set k (ms[k].1, x, ms[k].2.2.1, ms[k].2.2.2)) := by
  subst hn
  have hrow : w.ownsRow w0.heap.size 35 3 (.slice (some ⟨gm, 0, none⟩) ms.length c) ms.length (flat3 (ms.map MM.tri)) := by have := h.row.row; unfold MRow at this; rwa [List.length_map] at this
  obtain ⟨s1, s2⟩ := World.ownsRow.stored hrow (k * 3 + 1) (.int .i64 x)
  refine h.rowWrite s2 ?_ (h.mem_set_ops k _ (h.row.ops ms[k] (List.getElem_mem hk))) (dis_set h.row.dis k hk _ rfl)
  unfold MRow
  rw [List.length_map, List.length_set, List.map_set]
  have := flat3_set1 (ms.map MM.tri) k (by simpa using hk) x
  rw [PRow.ofMap hk] at this
  rw [show MM.tri (ms[k].1, x, ms[k].2.2.1, ms[k].2.2.2) = (ms[k].1, x, ms[k].2.2.1) from rfl, this]
  exact s1
theorem mCut {gm n c gk ck : Nat} (h : PS w0 w b a len cap p g va xs (.slice (some ⟨gm, 0, none⟩) n c) ms) (hn : n = ms.length) (k : Nat) (hk : k < ms.length) (hv : ms[k].2.2.1 = .slice (some ⟨gk, 0, none⟩) ms[k].2.2.2.length ck) (i : Nat) (hi : i ≤ ms[k].2.2.2.length) :
    PS w0 (w.setCell ⟨gm, k * 3 + 2, none⟩ (.slice (some ⟨gk, 0, none⟩) i ck)) b a len cap p g va xs (.slice (some ⟨gm, 0, none⟩) n c) (ms.set k (ms[k].1, ms[k].2.1, .slice (some ⟨gk, 0, none⟩) i ck, ms[k].2.2.2.take i)) := by
  subst hn
  have hrow : w.ownsRow w0.heap.size 35 3 (.slice (some ⟨gm, 0, none⟩) ms.length c) ms.length (flat3 (ms.map MM.tri)) := by have := h.row.row; unfold MRow at this; rwa [List.length_map] at this
  obtain ⟨s1, s2⟩ := World.ownsRow.stored hrow (k * 3 + 2) (.slice (some ⟨gk, 0, none⟩) i ck)
  have hop := h.row.ops _ (List.getElem_mem hk)
  rw [hv] at hop
  refine h.rowWrite s2 ?_ (h.mem_set_ops k _ (hop.take i hi)) (dis_set h.row.dis k hk _ (by rw [hv]; rfl))
  unfold MRow
  rw [List.length_map, List.length_set, List.map_set]
  have := flat3_set2 (ms.map MM.tri) k (by simpa using hk) (.slice (some ⟨gk, 0, none⟩) i ck)
  rw [PRow.ofMap hk] at this
  rw [show MM.tri (ms[k].1, ms[k].2.1, .slice (some ⟨gk, 0, none⟩) i ck, ms[k].2.2.2.take i) = (ms[k].1, ms[k].2.1, .slice (some ⟨gk, 0, none⟩) i ck) from rfl, this]
  exact s1
end PS
end Go.Proofs.YtfpodljalccpnaaGreatDoor

/-
  What draws: l71Bent draws a program in which something is not as it was.
-/
namespace Go.Proofs.YtfpodljalccpnaaGreatDoor
open Go.RowKit
set_option maxRecDepth 100000 in
set_option maxHeartbeats 4000000 in
theorem l71Bent_any (w : World) (b : Nat) (a : Option Addr) (len cap p : Nat) (hr : Rd w b a len cap p) (hp : p + 10 ≤ 1000000) (B : Nat) (hbB : b < B) (vp : Value) (ms0 : List MM) (hsrc : PRow B w vp ms0) (hl2 : 2 ≤ ms0.length) (hl4 : ms0.length ≤ 4) (hmo : ∀ m ∈ ms0, mmOk m) :
    Calls Tryz.prog 83 #[.pointer (some ⟨b, 0, none⟩), .agg #[vp]] w fun e w' => ∃ (v : Value) (ms : List MM) (p' : Nat), e = .returned (.agg #[v]) ∧ PRow w.heap.size w' v ms ∧ ms.length ≤ 7 ∧ (∀ m ∈ ms, m.2.2.2.length ≤ 14) ∧ p ≤ p' ∧ p' ≤ p + 10 ∧ Rd w' b a len cap p' ∧ w.grownBy w' (some b) := by
  have hbw : b < w.heap.size := World.block_lt_of_cell? _ _ hr.s
  have hrB := hr.alloc (.cells #[vp] 25)
  have hszB : (w.alloc (.cells #[vp] 25)).heap.size = w.heap.size + 1 := by simp
  have hgB := grown_alloc (grown_refl w (some b)) (.cells #[vp] 25)
  have hsB := hsrc.kept (World.grownBy_alloc w (.cells #[vp] 25) none) (fun g e => by cases e)
  have pbB := pbox_new w vp
  have hP : PS (w.alloc (.cells #[vp] 25)) (((w.alloc (.cells #[vp] 25)).alloc (.cells #[.slice none 0 0] 25)).alloc (.cells #[.slice none 0 0] 25)) b a len cap p (w.heap.size + 1 + 1) (.slice none 0 0) [] (.slice none 0 0) [] := by
    refine ⟨(hrB.alloc _).alloc _, grown_alloc (grown_alloc (grown_refl _ _) _) _, World.ownsRow_nil _ _ _ _, ?_, ?_, PRow.nil _ _, ?_, ⟨p, hrB⟩⟩
    · have := pbox_new ((w.alloc (.cells #[vp] 25)).alloc (.cells #[.slice none 0 0] 25)) (.slice none 0 0)
      simpa using this
    · simp
    · exact (pbox_new (w.alloc (.cells #[vp] 25)) (.slice none 0 0)).alloc _
  obtain ⟨gS, cS, hvS⟩ := hsrc.shape1 (by omega)
  subst hvS
  have pc := pbB.cell (i := 0) (by decide)
  clear hsrc pbB
  go_enter Tryz.func83, Tryz.ntmps83
  go_wp2_with fail
  generalize (((w.alloc (.cells #[.slice (some ⟨gS, 0, none⟩) ms0.length cS] 25)).alloc (.cells #[.slice none 0 0] 25)).alloc (.cells #[.slice none 0 0] 25)) = W2 at hP ⊢
  generalize w.alloc (.cells #[.slice (some ⟨gS, 0, none⟩) ms0.length cS] 25) = W at *
  go_loopg [6] ms0.length (fun d i wr => ∃ (k : Nat) (v : Value) (ms : List MM), k ≤ ms0.length ∧ d = ms0.length - k ∧ i = .int .i64 k ∧ ms.length = k ∧ (∀ m ∈ ms, mmOk m) ∧ PS W wr b a len cap p (w.heap.size + 1 + 1) (.slice none 0 0) [] v ms)
  case atStart => exact ⟨0, _, [], Nat.zero_le _, rfl, rfl, rfl, by simp, hP⟩
  case round =>
    obtain ⟨k, v, ms, hk, rfl, rfl, HML, hmo', hPS⟩ := hrel
    have hml : Hid (ms.length = k) := HML
    clear HML
    have hm4 : ms.length ≤ 4 := by have := hml.out; omega
    have hszr := hPS.gr.size
    have hsr := hsB.low hPS.gr hbB
    have pcr := hPS.gr.cell pc (by simp; omega)
    have ob := hPS.c0
    have of := hPS.f0
    clear hP
    by_cases hlt : k < ms0.length
    · have hkz : (k : Int) < (ms0.length : Int) := by omega
      have hok := hsr.ops _ (List.getElem_mem hlt)
      have cs := hsr.row.cell k (by simpa using hlt)
      rw [PRow.ofMap hlt] at cs
      have hmk := hmo _ (List.getElem_mem hlt)
      generalize ms0[k] = m0 at hok cs hmk
      obtain ⟨A, T, vo, L⟩ := m0
      simp only [] at hok cs
      obtain ⟨d0, d1, d2⟩ := cs
      obtain ⟨hL2, hL14⟩ : 2 ≤ L.length ∧ L.length ≤ 14 := hmk
      obtain ⟨go, co, hvo⟩ := hok.shape1 (by omega)
      subst hvo
      obtain ⟨aV, cV, hvV⟩ := hPS.row.shape
      subst hvV
      have bm := box_new wr A T (.slice (some ⟨go, 0, none⟩) L.length co)
      have om := OpsRow.made (wr.alloc (.cells #[.int .i64 A, .int .i64 T, .slice (some ⟨go, 0, none⟩) L.length co] 35))
      have hok2 := World.ownsRow.alloc (World.ownsRow.alloc hok (.cells #[.int .i64 A, .int .i64 T, .slice (some ⟨go, 0, none⟩) L.length co] 35)) (.cells #[] 49)
      simp only [World.size_alloc] at om
      go_upto_region 7 with (at_builtin; refine append_ops _ (by rfl) _ _ (by rfl) _ _ [] (by rfl) om L go _ (by rfl) (World.ownsRow.cells hok2 rfl) (by omega) (by simp; omega) (by simp) ?_; intro g2 cp2 w2 hrow2 hg2 hB2 hlt2; have bm2 := row_kept (bm.alloc (.cells #[] 49)) hg2 (by simp [Value.ownBlock]); have x2 := bm2.cell (i := 2) (by decide); have y2 := bm2.frozen 2)
      simp only [List.length_nil, Nat.zero_add, List.nil_append] at hrow2
      have hBel : Below wr.heap.size wr (w2.setCell ⟨wr.heap.size, 2, none⟩ (.slice (some ⟨g2, 0, none⟩) L.length cp2)) :=
        ((((Below.refl _ _).alloc (Nat.le_refl _) _).alloc (by simp) _).grown hg2 (by simp; omega) (fun k e => by simp [Value.ownBlock] at e; omega)).setCell (Nat.le_refl _) _
      have hP3 := hPS.below hBel
      have hrow3 : OpsRow wr.heap.size (w2.setCell ⟨wr.heap.size, 2, none⟩ (.slice (some ⟨g2, 0, none⟩) L.length cp2)) (.slice (some ⟨g2, 0, none⟩) L.length cp2) L :=
        (hrow2.mono (Nat.le_succ _)).kept (grown_set w2 wr.heap.size 2 _) (fun q hq hk => by cases hq; exact row_ne bm2 hrow2 (by decide) hk)
      have bm3 := (bm2.set 2 (.slice (some ⟨g2, 0, none⟩) L.length cp2))
      generalize w2.setCell ⟨wr.heap.size, 2, none⟩ (.slice (some ⟨g2, 0, none⟩) L.length cp2) = w3 at *
      have e0 : w3.cell? ⟨wr.heap.size, 0, none⟩ = some (.int .i64 A) := bm3.cell (i := 0) (by decide)
      have e1 : w3.cell? ⟨wr.heap.size, 1, none⟩ = some (.int .i64 T) := bm3.cell (i := 1) (by decide)
      have e2 : w3.cell? ⟨wr.heap.size, 2, none⟩ = some (.slice (some ⟨g2, 0, none⟩) L.length cp2) := bm3.cell (i := 2) (by decide)
      have HD : Hid (∀ m ∈ ms, ∀ k, m.2.2.1.ownBlock = some k → k < wr.heap.size) := fun m hm k e => ((hPS.row.ops m hm).lt k e).2
      have o3 := hP3.c0
      have hsz3 := hP3.gr.size
      clear bm om hok hok2 hg2 bm2 x2 y2 hB2 hlt2 hrow2 hPS ob of hBel bm3 d0 d1 d2 pcr hsr
      go_wp2_with (at_builtin; refine append_meths _ (by rfl) _ _ (by rfl) W.heap.size _ (ms.map MM.tri) (by rfl) (World.ownsRow.alloc hP3.row.row _) [(A, T, .slice (some ⟨g2, 0, none⟩) L.length cp2)] (by simp; exact ⟨_, _, _, rfl⟩) ⟨w3.heap.size, 0, none⟩ _ (by rfl) (World.news_of_block (Go.Deep.blk_alloc_new w3 _)) (by simp) (by simp; omega) (by simp; omega) ?_; intro g5 cp5 w5 hrow5 hg5 hB5 hlt5; have hap := (hP3.alloc _).appended hg5; have q0 := hap.2.2.2.1.cell (i := 0) (by decide); have f0 := hap.2.2.2.1.frozen 0)
      simp only [List.length_map, List.length_cons, List.length_nil, Nat.zero_add] at hrow5
      have hPY := (hP3.alloc _).stored hg5 hrow5 (World.ownsRow.alloc (hrow3.mono hszr) _) (fun m hm j e e' => by have := HD.out m hm j e; have := (hrow3.lt j e').1; omega)
      have hmo2 : ∀ m ∈ ms ++ [((A, T, .slice (some ⟨g2, 0, none⟩) L.length cp2, L) : MM)], mmOk m := fun m hm => by
        rcases List.mem_append.1 hm with hm | hm
        · exact hmo' m hm
        · simp at hm; subst hm; exact ⟨hL2, hL14⟩
      clear hap q0 f0 hg5 hrow5 hB5 hlt5 hP3 HD hrow3 o3 e0 e1 e2
      go_wp2
      go_roundg (ms0.length - (k + 1))
      case measure => omega
      case rel => exact ⟨k + 1, _, _, by omega, rfl, by go_num, by have := hml.out; simp; omega, hmo2, hPY⟩
    · obtain rfl : k = ms0.length := by omega
      obtain ⟨gm, cm, hvm⟩ := hPS.row.shape1 (by have := hml.out; omega)
      subst hvm
      have hm2 : 2 ≤ ms.length := by have := hml.out; omega
      clear hml hsB hmo hl2 hl4 hsr pc hk hlt
      go_wp2_with fail
      refine (pick_any _ _ _ _ _ _ (ms.length : Int) hPS.rd (by omega) (by omega) (by omega)).mono ?_
      rintro e w6 ⟨x, rfl, hx0, hx1, hrd6, hg6⟩
      have hP6 := hPS.pick hrd6 hg6
      clear hPS hrd6 hg6 ob of pcr
      obtain ⟨k, rfl⟩ := Int.eq_ofNat_of_zero_le hx0
      have hk : k < ms.length := by omega
      have hok := hP6.row.ops _ (List.getElem_mem hk)
      have hmk := hmo' _ (List.getElem_mem hk)
      obtain ⟨gk, ck, hvk⟩ := hok.shape1 (by have := hmk.1; omega)
      obtain ⟨ln, hln⟩ : ∃ ln, ms[k].2.2.2.length = ln := ⟨_, rfl⟩
      rw [hln] at hvk
      have HV : Hid (ms[k].2.2.1 = .slice (some ⟨gk, 0, none⟩) ln ck) := hvk
      have HL : Hid (ms[k].2.2.2.length = ln) := hln
      have hL2 : 2 ≤ ln := by have := hmk.1; rw [hln] at this; exact this
      have hL14 : ln ≤ 14 := by have := hmk.2; rw [hln] at this; exact this
      have hkz : (k : Int) < (ms.length : Int) := by omega
      rw [hvk] at hok
      have hlc : ln ≤ ck := hok.room
      clear hvk hln hok hmk
      obtain ⟨t0, t1, ⟨z2, t2⟩, ⟨z3, t3⟩, t4, t5, t6, t7, ⟨z8, t8⟩, ⟨z9, t9⟩, t10, t11⟩ := hP6.read k hk HV.out HL.out 0 (by omega)
      go_wp2_with fail
      refine (pick_any _ _ _ _ _ _ (ln : Int) hP6.rd (by omega) (by omega) (by omega)).mono ?_
      rintro e w7 ⟨x, rfl, hx0, hx1, hrd7, hg7⟩
      have hP7 := hP6.pick hrd7 hg7
      clear hP6 hrd7 hg7 t0 t1 t2 t3 t4 t5 t6 t7 t8 t9 t10 t11
      obtain ⟨i, rfl⟩ := Int.eq_ofNat_of_zero_le hx0
      have hi : i < ln := by omega
      have hiz : (i : Int) < (ln : Int) := by omega
      have hick : i ≤ ck := by omega
      go_wp2_with fail
      refine (pick_any _ _ _ _ _ _ 6 hP7.rd (by omega) (by omega) (by omega)).mono ?_
      rintro e w8 ⟨x, rfl, hx0, hx1, hrd8, hg8⟩
      have hP8 := hP7.pick hrd8 hg8
      clear hP7 hrd8 hg8
      have hP8d := hP8.drew
      obtain ⟨t0, t1, ⟨z2, t2⟩, ⟨z3, t3⟩, t4, t5, t6, t7, ⟨z8, t8⟩, ⟨z9, t9⟩, t10, t11⟩ := hP8.read k hk HV.out HL.out i hi
      by_cases hx_0 : x = 0
      · subst hx_0
        go_wp2_with fail
        go_region_law ((go_simp; go_at_call 39; refine (pick_any _ _ _ _ _ _ 20 hP8d.rd (by omega) (by omega) (by omega)).mono ?_; rintro e w9 ⟨y, rfl, hy0, hy1, hrd9, hg9⟩; have hP9 := hP8d.pick hrd9 hg9; obtain ⟨s0, s1, ⟨z2, s2⟩, ⟨z3, s3⟩, s4, s5, s6, s7, ⟨z8, s8⟩, ⟨z9, s9⟩, s10, s11⟩ := hP9.read k hk HV.out HL.out i hi))
        all_goals
          obtain ⟨L', hL', hPF⟩ := hP9.opBoth k hk (by rw [HL.out]; exact HV.out) i (by rw [HL.out]; exact hi) y 0
          have hF7 : (ms.set k (ms[k].1, ms[k].2.1, ms[k].2.2.1, L')).length ≤ 7 := by simp; omega
          have hF14 : ∀ m ∈ ms.set k (ms[k].1, ms[k].2.1, ms[k].2.2.1, L'), m.2.2.2.length ≤ 14 := fun m hm => by
            rcases List.mem_or_eq_of_mem_set hm with hm | rfl
            · exact (hmo' m hm).2
            · have := HL.out; show L'.length ≤ 14; omega
          go_upto_region 25 with fail
          generalize (w9.setCell ⟨gk, i * 2, none⟩ (.int .i64 y)).setCell ⟨gk, i * 2 + 1, none⟩ (.int .i64 0) = wF at *
          clear s0 s1 s2 s3 s4 s5 s6 s7 s8 s9 s10 s11 hP9 hrd9 hg9 hP8 hP8d t0 t1 t2 t3 t4 t5 t6 t7 t8 t9 t10 t11
          have hFs := hPF.gr.size
          have c0 := hPF.c0
          have r0 := hPF.res.cell (i := 0) (by decide)
          have rf := hPF.res.frozen 0
          have hF := hPF.final
          rw [hszB] at hF r0 rf
          clear hPF
          go_wp2
          generalize wF.setCell ⟨w.heap.size + 1, 0, none⟩ (.slice (some ⟨gm, 0, none⟩) ms.length cm) = W3 at hF ⊢
          obtain ⟨h1, h2, h3, dF⟩ := hF
          exact bodyPost_ret (v := .agg #[(.slice (some ⟨gm, 0, none⟩) ms.length cm)]) (by simp [results, Tryz.results83, go_sem, dF]) rfl ⟨_, _, _, rfl, h1.mono (Nat.le_succ _), hF7, hF14, by omega, by omega, h2, grown_trans hgB h3⟩
      have ex_0 : (x == 0) = false := beq_eq_false_iff_ne.2 hx_0
      by_cases hx_1 : x = 1
      · subst hx_1
        go_wp2_with fail
        go_region_law ((go_simp; go_at_call 39; refine (pick_any _ _ _ _ _ _ 20 hP8d.rd (by omega) (by omega) (by omega)).mono ?_; rintro e w9 ⟨y, rfl, hy0, hy1, hrd9, hg9⟩; have hP9 := hP8d.pick hrd9 hg9; obtain ⟨s0, s1, ⟨z2, s2⟩, ⟨z3, s3⟩, s4, s5, s6, s7, ⟨z8, s8⟩, ⟨z9, s9⟩, s10, s11⟩ := hP9.read k hk HV.out HL.out i hi))
        all_goals
          obtain ⟨L', hL', hPF⟩ := hP9.opA k hk (by rw [HL.out]; exact HV.out) i (by rw [HL.out]; exact hi) (IntKind.i64.wrap (y - 1))
          have hF7 : (ms.set k (ms[k].1, ms[k].2.1, ms[k].2.2.1, L')).length ≤ 7 := by simp; omega
          have hF14 : ∀ m ∈ ms.set k (ms[k].1, ms[k].2.1, ms[k].2.2.1, L'), m.2.2.2.length ≤ 14 := fun m hm => by
            rcases List.mem_or_eq_of_mem_set hm with hm | rfl
            · exact (hmo' m hm).2
            · have := HL.out; show L'.length ≤ 14; omega
          go_upto_region 25 with fail
          generalize w9.setCell ⟨gk, i * 2 + 1, none⟩ (.int .i64 (IntKind.i64.wrap (y - 1))) = wF at *
          clear s0 s1 s2 s3 s4 s5 s6 s7 s8 s9 s10 s11 hP9 hrd9 hg9 hP8 hP8d t0 t1 t2 t3 t4 t5 t6 t7 t8 t9 t10 t11
          have hFs := hPF.gr.size
          have c0 := hPF.c0
          have r0 := hPF.res.cell (i := 0) (by decide)
          have rf := hPF.res.frozen 0
          have hF := hPF.final
          rw [hszB] at hF r0 rf
          clear hPF
          go_wp2
          generalize wF.setCell ⟨w.heap.size + 1, 0, none⟩ (.slice (some ⟨gm, 0, none⟩) ms.length cm) = W3 at hF ⊢
          obtain ⟨h1, h2, h3, dF⟩ := hF
          exact bodyPost_ret (v := .agg #[(.slice (some ⟨gm, 0, none⟩) ms.length cm)]) (by simp [results, Tryz.results83, go_sem, dF]) rfl ⟨_, _, _, rfl, h1.mono (Nat.le_succ _), hF7, hF14, by omega, by omega, h2, grown_trans hgB h3⟩
      have ex_1 : (x == 1) = false := beq_eq_false_iff_ne.2 hx_1
      by_cases hx_2 : x = 2
      · subst hx_2
        go_wp2_with fail
        go_region_law ((go_simp; go_at_call 39; refine (pick_any _ _ _ _ _ _ 7 hP8d.rd (by omega) (by omega) (by omega)).mono ?_; rintro e w9 ⟨y, rfl, hy0, hy1, hrd9, hg9⟩; have hP9 := hP8d.pick hrd9 hg9; obtain ⟨s0, s1, ⟨z2, s2⟩, ⟨z3, s3⟩, s4, s5, s6, s7, ⟨z8, s8⟩, ⟨z9, s9⟩, s10, s11⟩ := hP9.read k hk HV.out HL.out i hi))
        all_goals
          have hPF := hP9.mTemps rfl k hk (IntKind.i64.wrap (y - 1))
          have hF7 : (ms.set k (ms[k].1, IntKind.i64.wrap (y - 1), ms[k].2.2.1, ms[k].2.2.2)).length ≤ 7 := by simp; omega
          have hF14 : ∀ m ∈ ms.set k (ms[k].1, IntKind.i64.wrap (y - 1), ms[k].2.2.1, ms[k].2.2.2), m.2.2.2.length ≤ 14 := fun m hm => by
            rcases List.mem_or_eq_of_mem_set hm with hm | rfl
            · exact (hmo' m hm).2
            · have := HL.out; show ms[k].2.2.2.length ≤ 14; omega
          go_upto_region 25 with fail
          generalize w9.setCell ⟨gm, k * 3 + 1, none⟩ (.int .i64 (IntKind.i64.wrap (y - 1))) = wF at *
          clear s0 s1 s2 s3 s4 s5 s6 s7 s8 s9 s10 s11 hP9 hrd9 hg9 hP8 hP8d t0 t1 t2 t3 t4 t5 t6 t7 t8 t9 t10 t11
          have hFs := hPF.gr.size
          have c0 := hPF.c0
          have r0 := hPF.res.cell (i := 0) (by decide)
          have rf := hPF.res.frozen 0
          have hF := hPF.final
          rw [hszB] at hF r0 rf
          clear hPF
          go_wp2
          generalize wF.setCell ⟨w.heap.size + 1, 0, none⟩ (.slice (some ⟨gm, 0, none⟩) ms.length cm) = W3 at hF ⊢
          obtain ⟨h1, h2, h3, dF⟩ := hF
          exact bodyPost_ret (v := .agg #[(.slice (some ⟨gm, 0, none⟩) ms.length cm)]) (by simp [results, Tryz.results83, go_sem, dF]) rfl ⟨_, _, _, rfl, h1.mono (Nat.le_succ _), hF7, hF14, by omega, by omega, h2, grown_trans hgB h3⟩
      have ex_2 : (x == 2) = false := beq_eq_false_iff_ne.2 hx_2
      by_cases hx_3 : x = 3
      · subst hx_3
        go_wp2_with fail
        go_region_law ((go_simp; go_at_call 39; refine (pick_any _ _ _ _ _ _ 4 hP8d.rd (by omega) (by omega) (by omega)).mono ?_; rintro e w9 ⟨y, rfl, hy0, hy1, hrd9, hg9⟩; have hP9 := hP8d.pick hrd9 hg9; obtain ⟨s0, s1, ⟨z2, s2⟩, ⟨z3, s3⟩, s4, s5, s6, s7, ⟨z8, s8⟩, ⟨z9, s9⟩, s10, s11⟩ := hP9.read k hk HV.out HL.out i hi))
        all_goals
          have hPF := hP9.mArgs rfl k hk y
          have hF7 : (ms.set k (y, ms[k].2.1, ms[k].2.2.1, ms[k].2.2.2)).length ≤ 7 := by simp; omega
          have hF14 : ∀ m ∈ ms.set k (y, ms[k].2.1, ms[k].2.2.1, ms[k].2.2.2), m.2.2.2.length ≤ 14 := fun m hm => by
            rcases List.mem_or_eq_of_mem_set hm with hm | rfl
            · exact (hmo' m hm).2
            · have := HL.out; show ms[k].2.2.2.length ≤ 14; omega
          go_upto_region 25 with fail
          generalize w9.setCell ⟨gm, k * 3, none⟩ (.int .i64 y) = wF at *
          clear s0 s1 s2 s3 s4 s5 s6 s7 s8 s9 s10 s11 hP9 hrd9 hg9 hP8 hP8d t0 t1 t2 t3 t4 t5 t6 t7 t8 t9 t10 t11
          have hFs := hPF.gr.size
          have c0 := hPF.c0
          have r0 := hPF.res.cell (i := 0) (by decide)
          have rf := hPF.res.frozen 0
          have hF := hPF.final
          rw [hszB] at hF r0 rf
          clear hPF
          go_wp2
          generalize wF.setCell ⟨w.heap.size + 1, 0, none⟩ (.slice (some ⟨gm, 0, none⟩) ms.length cm) = W3 at hF ⊢
          obtain ⟨h1, h2, h3, dF⟩ := hF
          exact bodyPost_ret (v := .agg #[(.slice (some ⟨gm, 0, none⟩) ms.length cm)]) (by simp [results, Tryz.results83, go_sem, dF]) rfl ⟨_, _, _, rfl, h1.mono (Nat.le_succ _), hF7, hF14, by omega, by omega, h2, grown_trans hgB h3⟩
      have ex_3 : (x == 3) = false := beq_eq_false_iff_ne.2 hx_3
      by_cases hx_4 : x = 4
      · subst hx_4
        go_wp2_with fail
        go_region
        all_goals
          have hPF : PS W (w8.setCell ⟨gm, k * 3 + 2, none⟩ (.slice (some ⟨gk, 0, none⟩) i ck)).drew b a len cap (p + 1 + 1 + 1) (w.heap.size + 1 + 1) (.slice none 0 0) [] (.slice (some ⟨gm, 0, none⟩) ms.length cm) (ms.set k (ms[k].1, ms[k].2.1, .slice (some ⟨gk, 0, none⟩) i ck, ms[k].2.2.2.take i)) := hP8d.mCut rfl k hk (by rw [HL.out]; exact HV.out) i (by rw [HL.out]; omega)
          have hF7 : (ms.set k (ms[k].1, ms[k].2.1, .slice (some ⟨gk, 0, none⟩) i ck, ms[k].2.2.2.take i)).length ≤ 7 := by simp; omega
          have hF14 : ∀ m ∈ ms.set k (ms[k].1, ms[k].2.1, .slice (some ⟨gk, 0, none⟩) i ck, ms[k].2.2.2.take i), m.2.2.2.length ≤ 14 := fun m hm => by
            rcases List.mem_or_eq_of_mem_set hm with hm | rfl
            · exact (hmo' m hm).2
            · have := HL.out; show (ms[k].2.2.2.take i).length ≤ 14; simp; omega
          go_upto_region 25 with fail
          generalize (w8.setCell ⟨gm, k * 3 + 2, none⟩ (.slice (some ⟨gk, 0, none⟩) i ck)).drew = wF at *
          clear hP8 hP8d t0 t1 t2 t3 t4 t5 t6 t7 t8 t9 t10 t11
          have hFs := hPF.gr.size
          have c0 := hPF.c0
          have r0 := hPF.res.cell (i := 0) (by decide)
          have rf := hPF.res.frozen 0
          have hF := hPF.final
          rw [hszB] at hF r0 rf
          clear hPF
          go_wp2
          generalize wF.setCell ⟨w.heap.size + 1, 0, none⟩ (.slice (some ⟨gm, 0, none⟩) ms.length cm) = W3 at hF ⊢
          obtain ⟨h1, h2, h3, dF⟩ := hF
          exact bodyPost_ret (v := .agg #[(.slice (some ⟨gm, 0, none⟩) ms.length cm)]) (by simp [results, Tryz.results83, go_sem, dF]) rfl ⟨_, _, _, rfl, h1.mono (Nat.le_succ _), hF7, hF14, by omega, by omega, h2, grown_trans hgB h3⟩
      have ex_4 : (x == 4) = false := beq_eq_false_iff_ne.2 hx_4
      go_wp2_with fail
      clear t0 t1 t2 t3 t4 t5 t6 t7 t8 t9 t10 t11 hP8d HV HL hk hkz hi hiz
      go_loopg [10] 3 (fun d i wr => ∃ (k : Nat) (v : Value) (ms : List MM), k ≤ 3 ∧ d = 3 - k ∧ i = .int .i64 k ∧ ms.length ≤ 4 + k ∧ (∀ m ∈ ms, m.2.2.2.length ≤ 14) ∧ PS W wr b a len cap (p + 1 + 1 + 1) (w.heap.size + 1 + 1) (.slice none 0 0) [] v ms)
      case atStart => exact ⟨0, _, ms, Nat.zero_le _, rfl, rfl, hm4, fun m hm => (hmo' m hm).2, hP8⟩
      case round =>
        obtain ⟨k, v, ms, hk, rfl, rfl, hl7, hl14, hPS⟩ := hrel
        have hszr := hPS.gr.size
        obtain ⟨aV, cV, hvV⟩ := hPS.row.shape
        subst hvV
        by_cases hlt : k < 3
        · have hkz : (k : Int) < 3 := by omega
          have ob := hPS.c0
          go_wp2_with (at_builtin; refine append_meths _ (by rfl) _ _ (by rfl) W.heap.size _ (ms.map MM.tri) (by rfl) (World.ownsRow.alloc hPS.row.row _) [(0, 0, .slice none 0 0)] (by simp; exact ⟨_, _, _, rfl⟩) ⟨wr.heap.size, 0, none⟩ _ (by rfl) (World.news_of_block (Go.Deep.blk_alloc_new wr _)) (by simp) (by simp; omega) (by simp; omega) ?_; intro g5 cp5 w5 hrow5 hg5 hB5 hlt5; have hap := (hPS.alloc _).appended hg5; have q0 := hap.2.2.2.1.cell (i := 0) (by decide); have f0 := hap.2.2.2.1.frozen 0)
          simp only [List.length_map, List.length_cons, List.length_nil, Nat.zero_add] at hrow5
          have hPY := (hPS.alloc _).stored hg5 hrow5 (OpsRow.nil _ _) (fun m hm j e e' => by cases e')
          have hl14' : ∀ m ∈ ms ++ [((0, 0, .slice none 0 0, []) : MM)], m.2.2.2.length ≤ 14 := fun m hm => by
            rcases List.mem_append.1 hm with hm | hm
            · exact hl14 m hm
            · simp at hm; subst hm; simp
          clear hap q0 f0 hg5 hrow5 hB5 hlt5 hPS ob
          go_wp2
          go_roundg (3 - (k + 1))
          case measure => omega
          case rel => exact ⟨k + 1, _, _, by omega, rfl, by go_num, by simp; omega, hl14', hPY⟩
        · obtain rfl : k = 3 := by omega
          have hPF := hPS
          have hF7 : ms.length ≤ 7 := hl7
          have hF14 := hl14
          clear hPS
          have hFs := hPF.gr.size
          have c0 := hPF.c0
          have r0 := hPF.res.cell (i := 0) (by decide)
          have rf := hPF.res.frozen 0
          have hF := hPF.final
          rw [hszB] at hF r0 rf
          clear hPF
          go_wp2
          generalize wr.setCell ⟨w.heap.size + 1, 0, none⟩ (.slice aV ms.length cV) = W3 at hF ⊢
          obtain ⟨h1, h2, h3, dF⟩ := hF
          exact bodyPost_ret (v := .agg #[(.slice aV ms.length cV)]) (by simp [results, Tryz.results83, go_sem, dF]) rfl ⟨_, _, _, rfl, h1.mono (Nat.le_succ _), hF7, hF14, by omega, by omega, h2, grown_trans hgB h3⟩
end Go.Proofs.YtfpodljalccpnaaGreatDoor

/-
  What draws: l71Any draws a program, some spoilt; DrawOpTakes a program and an operation.
-/
namespace Go.Proofs.YtfpodljalccpnaaGreatDoor
open Go.RowKit
set_option maxRecDepth 100000 in
set_option maxHeartbeats 2000000 in
theorem l71Any_any (w : World) (b : Nat) (a : Option Addr) (len cap p : Nat) (hr : Rd w b a len cap p) (hp : p + 500 ≤ 1000000) :
    Calls Tryz.prog 60 #[.pointer (some ⟨b, 0, none⟩)] w fun e w' => ∃ (v : Value) (ms : List MM) (p' : Nat), e = .returned (.agg #[v]) ∧ Drawn w.heap.size w' v ms ∧ p ≤ p' ∧ p' ≤ p + 500 ∧ Rd w' b a len cap p' ∧ w.grownBy w' (some b) := by
  have hbw : b < w.heap.size := World.block_lt_of_cell? _ _ hr.s
  have hr2 := hr.alloc (.cells #[.slice none 0 0] 25)
  have g2 := grown_alloc (grown_refl w (some b)) (.cells #[.slice none 0 0] 25)
  have r2 := pbox_new w (.slice none 0 0)
  have z2 : (w.alloc (.cells #[.slice none 0 0] 25)).heap.size = w.heap.size + 1 := by simp
  go_enter Tryz.func60, Tryz.ntmps60
  go_wp2_with fail
  generalize w.alloc (.cells #[.slice none 0 0] 25) = w2 at *
  refine (l71Prog_any _ _ _ _ _ _ hr2 (by omega)).mono ?_
  rintro e w3 ⟨v3, ms3, p3, rfl, hp3, hl2, hl4, hmo, hq3, hq3', hr3, hg3⟩
  have r3 := row_kept r2 hg3 (by simp; omega)
  have g3 := grown_trans g2 hg3
  have z3 := hg3.size
  obtain ⟨aV, cV, hvV⟩ := hp3.shape
  subst hvV
  clear hr2 hg3 r2 g2
  go_wp2_with fail
  have hA4 := World.grownBy_alloc w3 (.cells #[.slice aV ms3.length cV] 25) none
  have r4 := r3.alloc (.cells #[.slice aV ms3.length cV] 25)
  have hr4 := hr3.alloc (.cells #[.slice aV ms3.length cV] 25)
  have hp4 := hp3.kept hA4 (fun g e => by cases e)
  have g4 := grown_alloc g3 (.cells #[.slice aV ms3.length cV] 25)
  have x4 := pbox_new w3 (.slice aV ms3.length cV)
  have z4 : (w3.alloc (.cells #[.slice aV ms3.length cV] 25)).heap.size = w3.heap.size + 1 := by simp
  generalize w3.alloc (.cells #[.slice aV ms3.length cV] 25) = w4 at *
  refine (pick_any _ _ _ _ _ _ 12 hr4 (by omega) (by omega) (by omega)).mono ?_
  rintro e w5 ⟨x, rfl, hx0, hx1, hr5, hg5⟩
  have r5 := row_kept r4 hg5 (by simp; omega)
  have hp5 := hp4.low hg5 (by omega)
  have g5 := grown_trans g4 hg5
  have z5 := hg5.size
  have x5 := (row_kept x4 hg5 (by simp; omega)).cell (i := 0) (by decide)
  clear hA4 r3 r4 hr3 hr4 hp3 hp4 g3 g4 hg5 x4
  by_cases hx : x = 0
  · subst hx
    go_wp2_with fail
    refine (l71Bent_any _ _ _ _ _ _ hr5 (by omega) w2.heap.size (by omega) _ ms3 hp5 hl2 hl4 hmo).mono ?_
    rintro e w6 ⟨v6, ms6, p6, rfl, hp6, hf6, ho6, hq6, hq6', hr6, hg6⟩
    have r6 := row_kept r5 hg6 (by simp; omega)
    have g6 := grown_trans g5 hg6
    have z6 := hg6.size
    have rc := r6.cell (i := 0) (by decide)
    have rf := r6.frozen 0
    obtain ⟨aW, cW, hvW⟩ := hp6.shape
    subst hvW
    have k7 := grown_set w6 w.heap.size 0 (.slice aW ms6.length cW)
    have D6 : Drawn w.heap.size (w6.setCell ⟨w.heap.size, 0, none⟩ (.slice aW ms6.length cW)) (.slice aW ms6.length cW) ms6 := (Drawn.kept ⟨hp6, hf6, ho6⟩ k7 (by omega)).mono (by omega)
    have hr7 := Rd.kept hr hr6 (by omega) k7 (fun g e => by cases e; exact Nat.le_refl _)
    have g7 := grown_own g6 k7 (fun g e => by cases e; exact Nat.le_refl _)
    have d7 := World.cell?_setCell_same w6 ⟨w.heap.size, 0, none⟩ (.slice aW ms6.length cW) rc
    clear hr5 hp5 r5 hr6 hg6 hp6 g5 g6 x5 r6 k7
    go_wp2
    generalize w6.setCell ⟨w.heap.size, 0, none⟩ (.slice aW ms6.length cW) = W3 at *
    exact bodyPost_ret (v := .agg #[.slice aW ms6.length cW]) (by simp [results, Tryz.results60, go_sem, d7]) rfl ⟨_, _, _, rfl, D6, by omega, by omega, hr7, g7⟩
  · have ex : (x == 0) = false := beq_eq_false_iff_ne.2 hx
    have rc := r5.cell (i := 0) (by decide)
    have rf := r5.frozen 0
    have k7 := grown_set w5 w.heap.size 0 (.slice aV ms3.length cV)
    have D6 : Drawn w.heap.size (w5.setCell ⟨w.heap.size, 0, none⟩ (.slice aV ms3.length cV)) (.slice aV ms3.length cV) ms3 := (Drawn.kept ⟨hp5, by omega, fun m hm => (hmo m hm).2⟩ k7 (by omega)).mono (by omega)
    have hr7 := Rd.kept hr hr5 (by omega) k7 (fun g e => by cases e; exact Nat.le_refl _)
    have g7 := grown_own g5 k7 (fun g e => by cases e; exact Nat.le_refl _)
    have d7 := World.cell?_setCell_same w5 ⟨w.heap.size, 0, none⟩ (.slice aV ms3.length cV) rc
    clear hr5 hp5 r5 g5 k7
    go_wp2
    generalize w5.setCell ⟨w.heap.size, 0, none⟩ (.slice aV ms3.length cV) = W3 at *
    exact bodyPost_ret (v := .agg #[.slice aV ms3.length cV]) (by simp [results, Tryz.results60, go_sem, d7]) rfl ⟨_, _, _, rfl, D6, by omega, by omega, hr7, g7⟩
end Go.Proofs.YtfpodljalccpnaaGreatDoor

/-
  What draws: DrawHeapNew draws a program, some spoilt.
-/
namespace Go.Proofs.YtfpodljalccpnaaGreatDoor
open Go.RowKit
set_option maxRecDepth 100000 in
set_option maxHeartbeats 2000000 in
theorem drawHeapNew_any (w : World) (a : Option Addr) (len cap : Nat) (h : BytesAt w a len cap) :
    Calls Tryz.prog 15 #[.slice a len cap] w fun e w' => ∃ (v : Value) (ms : List MM), e = .returned (.agg #[v]) ∧ Drawn w.heap.size w' v ms ∧ Below w.heap.size w w' := by
  have hA : Below w.heap.size w (w.alloc (.cells #[.slice none 0 0] 25)) := (Below.refl _ _).alloc (Nat.le_refl _) _
  have rA := pbox_new w (.slice none 0 0)
  have zA : (w.alloc (.cells #[.slice none 0 0] 25)).heap.size = w.heap.size + 1 := by simp
  go_enter Tryz.func15, Tryz.ntmps15
  go_wp2_with fail
  generalize w.alloc (.cells #[.slice none 0 0] 25) = W1 at *
  refine (l6Open_any _ a len cap (h.below hA)).mono ?_
  rintro e w2 ⟨n, rfl, hr2, z2, hb2⟩
  have r2 := row_kept rA (below_grown hb2 none) (by simp)
  have B2 : Below w.heap.size w w2 := hA.trans (hb2.mono (by omega))
  clear hA rA hb2
  rw [zA] at hr2 ⊢
  go_wp2_with fail
  refine (l71Any_any _ _ _ _ _ _ hr2 (by omega)).mono ?_
  rintro e w3 ⟨v, ms, p3, rfl, D3, hq3, hq3', hr3, hg3⟩
  have r3 := row_kept r2 hg3 (by intro e; injection e with e; omega)
  have B3 : Below w.heap.size w w3 := B2.grown hg3 (by omega) (fun k e => by cases e; omega)
  have z3 := hg3.size
  obtain ⟨aX, cX, hvX⟩ := D3.row.shape
  subst hvX
  clear hr2 r2 B2 hg3
  have rc := r3.cell (i := 0) (by decide)
  have rf := r3.frozen 0
  have k9 := grown_set w3 w.heap.size 0 (.slice aX ms.length cX)
  have D9 := (D3.kept k9 (by omega)).mono (show w.heap.size ≤ w2.heap.size by omega)
  have B9 := B3.setCell (p := ⟨w.heap.size, 0, none⟩) (Nat.le_refl _) (.slice aX ms.length cX)
  have d9 := World.cell?_setCell_same w3 ⟨w.heap.size, 0, none⟩ (.slice aX ms.length cX) rc
  clear D3 B3 r3 k9
  go_wp2
  generalize w3.setCell ⟨w.heap.size, 0, none⟩ (.slice aX ms.length cX) = W3 at *
  exact bodyPost_ret (v := .agg #[.slice aX ms.length cX]) (by simp [results, Tryz.results15, go_sem, d9]) rfl ⟨_, _, rfl, D9, B9⟩
end Go.Proofs.YtfpodljalccpnaaGreatDoor
