/-
  What draws: rows of numbers, rows of methods, and words for a program that is being drawn.
-/
import Derived.Test.YtldiccheboipeaaDraw8

namespace Go.Proofs.Ytldiccheboipeaa
open Go.RowKit
theorem Try.infoInt' : (Try.prog.info? 3).map (fun i => (i.zero, i.size, i.bytes)) = some (some (.int .i64 0), 1, 8) := by kernel_rfl
def NumRow (B : Nat) (w : World) (v : Value) (xs : List Int) : Prop := w.ownsRow B 3 1 v xs.length (xs.map fun x => Value.int .i64 x)
theorem NumRow.one (w : World) (x : Int) : NumRow w.heap.size (w.alloc (.cells #[.int .i64 x] 3)) (.slice (some ⟨w.heap.size, 0, none⟩) 1 1) [x] :=
  ⟨rfl, .inr ⟨w.heap.size, 1, #[.int .i64 x], rfl, Nat.le_refl _, Go.Deep.blk_alloc_new _ _, Nat.le_refl _, by unfold maxLen; omega, rfl, rfl⟩⟩
theorem NumRow.mono {B B' : Nat} {w : World} {v : Value} {xs : List Int} (h : NumRow B w v xs) (hB : B' ≤ B) : NumRow B' w v xs := by
  obtain ⟨h1, h2⟩ := h
  refine ⟨h1, ?_⟩
  rcases h2 with h2 | ⟨g, cap, cur, hv, hg, r⟩
  · exact .inl h2
  · exact .inr ⟨g, cap, cur, hv, by omega, r⟩
theorem NumRow.lt {B : Nat} {w : World} {v : Value} {xs : List Int} (h : NumRow B w v xs) : ∀ k, v.ownBlock = some k → B ≤ k ∧ k < w.heap.size := World.ownsRow.lt h
theorem NumRow.kept {B : Nat} {w w' : World} {v : Value} {xs : List Int} {row : Option Nat} (h : NumRow B w v xs) (hg : w.grownBy w' row) (hne : ∀ g, row = some g → v.ownBlock ≠ some g) : NumRow B w' v xs :=
  World.ownsRow.kept h hg (by
    cases row with
    | none => cases hv : v.ownBlock with
      | none => exact .inl rfl
      | some g => exact .inr (by simp)
    | some g => exact .inr (hne g rfl))
theorem NumRow.shape1 {B : Nat} {w : World} {v : Value} {xs : List Int} (h : NumRow B w v xs) (hn : 1 ≤ xs.length) : ∃ g c, v = .slice (some ⟨g, 0, none⟩) xs.length c := by
  obtain ⟨_, h2⟩ := h
  rcases h2 with ⟨rfl, hn'⟩ | ⟨g, cap, cur, rfl, _⟩
  · omega
  · exact ⟨_, _, rfl⟩
theorem NumRow.cell {B : Nat} {w : World} {g n c : Nat} {xs : List Int} (h : NumRow B w (.slice (some ⟨g, 0, none⟩) n c) xs) (i : Nat) (hi : i < xs.length) : w.cell? ⟨g, i, none⟩ = some (.int .i64 xs[i]) := by
  have := World.ownsRow.cells h (g := g) rfl i (.int .i64 xs[i]) (by simp [hi])
  rwa [Addr.add_lit, Nat.zero_add] at this
theorem append_num {ops : Array Oper} {rest : List Oper} {o : Oper} {act : Act} {Q : Exit → Act → World → Prop} (w : World) (hgd : o.guard = none) (s x : Operand)
    (ho : o.op = .call { callee := .builtin .append, args := #[s, x], argTypes := #[29, 29] }) (B : Nat) (v : Value) (L : List Int) (hs : act.eval s = v) (hown : NumRow B w v L) (k : Int) (c : Nat)
    (hx : act.eval x = .slice (some ⟨w.heap.size, 0, none⟩) 1 c) (hL : L.length ≤ 900) (hB : B ≤ w.heap.size)
    (h : ∀ g cap w', NumRow B w' (.slice (some ⟨g, 0, none⟩) (L.length + 1) cap) (L ++ [k]) → (w.alloc (.cells #[.int .i64 k] 3)).grownBy w' v.ownBlock → B ≤ g → g < w'.heap.size →
      wpList Try.prog ops Q rest (act.put o.dst (.slice (some ⟨g, 0, none⟩) (L.length + 1) cap)) w') :
    wpList Try.prog ops Q (o :: rest) act (w.alloc (.cells #[.int .i64 k] 3)) := by
  obtain ⟨i0, hi, hz0, hz1, hz2⟩ := info_parts Try.infoInt'
  refine wpList_append_lies _ hgd s x 29 ho B 3 i0 _ 1 8 Try.underlying29 hi hz0 hz1 hz2 rfl (by omega) v L.length (L.map fun x => Value.int .i64 x) hs (World.ownsRow.alloc hown _) ⟨w.heap.size, 0, none⟩ 1 c [.int .i64 k] hx rfl
    (World.news_of_block (Go.Deep.blk_alloc_new w _)) (by simp [Value.oneCell']) (by omega) (by unfold maxLen; omega) (by omega) (by simp; omega) _ rfl ?_
  intro g cap w' h1 h2 h3 h4
  refine h g cap w' ?_ h2 ?_ h4
  · unfold NumRow
    simp only [List.length_append, List.map_append, List.length_cons, List.length_nil, List.map_cons, List.map_nil, Nat.zero_add]
    exact h1
  · rcases h3 with h3 | h3
    · exact (hown.lt g h3).1
    · simp at h3; omega
def flat3 (ms : List (Int × Int × Value)) : List Value := ms.flatMap fun m => [.int .i64 m.1, .int .i64 m.2.1, m.2.2]
theorem flat3_append (a b : List (Int × Int × Value)) : flat3 (a ++ b) = flat3 a ++ flat3 b := by simp [flat3]
theorem flat3_length (a : List (Int × Int × Value)) : (flat3 a).length = a.length * 3 := by
  induction a with
  | nil => rfl
  | cons x l ih => simp [flat3] at ih ⊢; omega
theorem flat3_at (a : List (Int × Int × Value)) : ∀ (i : Nat) (h : i < a.length), (flat3 a)[i * 3]? = some (.int .i64 a[i].1) ∧ (flat3 a)[i * 3 + 1]? = some (.int .i64 a[i].2.1) ∧ (flat3 a)[i * 3 + 2]? = some a[i].2.2 := by
  induction a with
  | nil => intro i h; exact absurd h (Nat.not_lt_zero _)
  | cons x l ih =>
    intro i h
    cases i with
    | zero => exact ⟨rfl, rfl, rfl⟩
    | succ i =>
      have := ih i (by simpa using h)
      rw [show (i + 1) * 3 = i * 3 + 3 by omega]
      exact this
def IsSlice (v : Value) : Prop := ∃ a l c, v = .slice a l c
theorem flat3_one_cell (M : List (Int × Int × Value)) (hM : ∀ m ∈ M, IsSlice m.2.2) : ∀ u ∈ flat3 M, u.oneCell' = true := by
  intro u hu
  simp only [flat3, List.mem_flatMap] at hu
  obtain ⟨x, hx', hx⟩ := hu
  simp at hx
  rcases hx with rfl | rfl | rfl
  · rfl
  · rfl
  · obtain ⟨a, l, c, h⟩ := hM x hx'
    rw [h]; rfl
def MRow (B : Nat) (w : World) (v : Value) (ms : List (Int × Int × Value)) : Prop := w.ownsRow B 83 3 v ms.length (flat3 ms)
theorem MRow.nil (B : Nat) (w : World) : MRow B w (.slice none 0 0) [] := World.ownsRow_nil _ _ _ _
theorem MRow.mono {B B' : Nat} {w : World} {v : Value} {ms : List (Int × Int × Value)} (h : MRow B w v ms) (hB : B' ≤ B) : MRow B' w v ms := by
  obtain ⟨h1, h2⟩ := h
  refine ⟨h1, ?_⟩
  rcases h2 with h2 | ⟨g, cap, cur, hv, hg, r⟩
  · exact .inl h2
  · exact .inr ⟨g, cap, cur, hv, by omega, r⟩
theorem MRow.lt {B : Nat} {w : World} {v : Value} {ms : List (Int × Int × Value)} (h : MRow B w v ms) : ∀ k, v.ownBlock = some k → B ≤ k ∧ k < w.heap.size := World.ownsRow.lt h
theorem MRow.kept {B : Nat} {w w' : World} {v : Value} {ms : List (Int × Int × Value)} {row : Option Nat} (h : MRow B w v ms) (hg : w.grownBy w' row) (hne : ∀ g, row = some g → v.ownBlock ≠ some g) : MRow B w' v ms :=
  World.ownsRow.kept h hg (by
    cases row with
    | none => cases hv : v.ownBlock with
      | none => exact .inl rfl
      | some g => exact .inr (by simp)
    | some g => exact .inr (hne g rfl))
theorem MRow.shape {B : Nat} {w : World} {v : Value} {ms : List (Int × Int × Value)} (h : MRow B w v ms) : ∃ a c, v = .slice a ms.length c := by
  obtain ⟨_, h2⟩ := h
  rcases h2 with ⟨rfl, hn⟩ | ⟨g, cap, cur, rfl, _⟩
  · exact ⟨none, 0, by rw [hn]⟩
  · exact ⟨_, _, rfl⟩
theorem MRow.shape1 {B : Nat} {w : World} {v : Value} {ms : List (Int × Int × Value)} (h : MRow B w v ms) (hn : 1 ≤ ms.length) : ∃ g c, v = .slice (some ⟨g, 0, none⟩) ms.length c := by
  obtain ⟨_, h2⟩ := h
  rcases h2 with ⟨rfl, hn'⟩ | ⟨g, cap, cur, rfl, _⟩
  · omega
  · exact ⟨_, _, rfl⟩
theorem MRow.cell {B : Nat} {w : World} {g n c : Nat} {ms : List (Int × Int × Value)} (h : MRow B w (.slice (some ⟨g, 0, none⟩) n c) ms) (i : Nat) (hi : i < ms.length) :
    w.cell? ⟨g, i * 3, none⟩ = some (.int .i64 ms[i].1) ∧ w.cell? ⟨g, i * 3 + 1, none⟩ = some (.int .i64 ms[i].2.1) ∧ w.cell? ⟨g, i * 3 + 2, none⟩ = some ms[i].2.2 := by
  have h3 := flat3_at ms i hi
  have k0 := World.ownsRow.cells h (g := g) rfl _ _ h3.1
  have k1 := World.ownsRow.cells h (g := g) rfl _ _ h3.2.1
  have k2 := World.ownsRow.cells h (g := g) rfl _ _ h3.2.2
  rw [Addr.add_lit, Nat.zero_add] at k0 k1 k2
  exact ⟨k0, k1, k2⟩
theorem mrow_ne {w : World} {B B' : Nat} {v v' : Value} {ms : List (Int × Int × Value)} {L : List (Int × Int)} (hr : MRow B w v ms) (h : OpsRow B' w v' L) : ∀ g, v.ownBlock = some g → v'.ownBlock ≠ some g := by
  intro g e e'
  rcases hr.2 with ⟨rfl, _⟩ | ⟨g1, cap, cur, rfl, _, hh, _⟩
  · cases e
  · rcases h.2 with ⟨rfl, _⟩ | ⟨g2, cap', cur', rfl, _, hh', _⟩
    · cases e'
    · simp [Value.ownBlock] at e e'
      subst e; subst e'
      rw [hh] at hh'
      simp at hh'
theorem nrow_ne {w : World} {B B' : Nat} {v v' : Value} {xs : List Int} {L : List (Int × Int)} (hr : NumRow B w v xs) (h : OpsRow B' w v' L) : ∀ g, v.ownBlock = some g → v'.ownBlock ≠ some g := by
  intro g e e'
  rcases hr.2 with ⟨rfl, _⟩ | ⟨g1, cap, cur, rfl, _, hh, _⟩
  · cases e
  · rcases h.2 with ⟨rfl, _⟩ | ⟨g2, cap', cur', rfl, _, hh', _⟩
    · cases e'
    · simp [Value.ownBlock] at e e'
      subst e; subst e'
      rw [hh] at hh'
      simp at hh'
theorem nrow_ne' {w : World} {B B' : Nat} {v v' : Value} {xs : List Int} {ms : List (Int × Int × Value)} (hr : NumRow B w v xs) (h : MRow B' w v' ms) : ∀ g, v.ownBlock = some g → v'.ownBlock ≠ some g := by
  intro g e e'
  rcases hr.2 with ⟨rfl, _⟩ | ⟨g1, cap, cur, rfl, _, hh, _⟩
  · cases e
  · rcases h.2 with ⟨rfl, _⟩ | ⟨g2, cap', cur', rfl, _, hh', _⟩
    · cases e'
    · simp [Value.ownBlock] at e e'
      subst e; subst e'
      rw [hh] at hh'
      simp at hh'
theorem append_meths {ops : Array Oper} {rest : List Oper} {o : Oper} {act : Act} {Q : Exit → Act → World → Prop} (w : World) (hgd : o.guard = none) (s x : Operand)
    (ho : o.op = .call { callee := .builtin .append, args := #[s, x], argTypes := #[23, 23] }) (B : Nat) (v : Value) (L : List (Int × Int × Value)) (hs : act.eval s = v) (hown : MRow B w v L) (M : List (Int × Int × Value)) (hM1 : ∀ m ∈ M, IsSlice m.2.2) (ad : Addr) (c : Nat)
    (hx : act.eval x = .slice (some ad) M.length c) (hnews : ∀ j u, (flat3 M)[j]? = some u → w.cell? (ad.add j) = some u) (hM : 0 < M.length) (hL : L.length + M.length ≤ 1000) (hB : B ≤ w.heap.size)
    (h : ∀ g cap w', MRow B w' (.slice (some ⟨g, 0, none⟩) (L.length + M.length) cap) (L ++ M) → w.grownBy w' v.ownBlock → B ≤ g → g < w'.heap.size →
      wpList Try.prog ops Q rest (act.put o.dst (.slice (some ⟨g, 0, none⟩) (L.length + M.length) cap)) w') :
    wpList Try.prog ops Q (o :: rest) act w := by
  obtain ⟨i0, hi, hz0, hz1, hz2⟩ := info_parts Try.infoMeth
  refine wpList_append_lies _ hgd s x 23 ho B 83 i0 _ 3 40 Try.underlying23 hi hz0 hz1 hz2 rfl (by omega) v L.length (flat3 L) hs hown ad M.length c (flat3 M) hx (flat3_length M)
    hnews (flat3_one_cell M hM1) hM (by unfold maxLen; omega) (by omega) hB w.heap.size rfl ?_
  intro g cap w' h1 h2 h3 h4
  refine h g cap w' ?_ h2 ?_ h4
  · unfold MRow
    rw [flat3_append, List.length_append]
    exact h1
  · rcases h3 with h3 | h3
    · exact (hown.lt g h3).1
    · omega
theorem step_meths {ops : Array Oper} {o : Oper} {act : Act} {K : Act → World → Prop} {Q : Exit → Act → World → Prop} {E : Prop} (w : World) (hgd : o.guard = none) (s x : Operand)
    (ho : o.op = .call { callee := .builtin .append, args := #[s, x], argTypes := #[23, 23] }) (B : Nat) (v : Value) (L : List (Int × Int × Value)) (hs : act.eval s = v) (hown : MRow B w v L) (M : List (Int × Int × Value)) (hM1 : ∀ m ∈ M, IsSlice m.2.2) (ad : Addr) (c : Nat)
    (hx : act.eval x = .slice (some ad) M.length c) (hnews : ∀ j u, (flat3 M)[j]? = some u → w.cell? (ad.add j) = some u) (hM : 0 < M.length) (hL : L.length + M.length ≤ 1000) (hB : B ≤ w.heap.size)
    (h : ∀ g cap w', MRow B w' (.slice (some ⟨g, 0, none⟩) (L.length + M.length) cap) (L ++ M) → w.grownBy w' v.ownBlock → B ≤ g → g < w'.heap.size →
      K (act.put o.dst (.slice (some ⟨g, 0, none⟩) (L.length + M.length) cap)) w') :
    if Region.wanted o (yielded ops act.tmps) = true then Oper.wp Try.prog o act w K Q else E := by
  obtain ⟨i0, hi, hz0, hz1, hz2⟩ := info_parts Try.infoMeth
  refine step_append_lies _ hgd s x 23 ho B 83 i0 _ 3 40 Try.underlying23 hi hz0 hz1 hz2 rfl (by omega) v L.length (flat3 L) hs hown ad M.length c (flat3 M) hx (flat3_length M)
    hnews (flat3_one_cell M hM1) hM (by unfold maxLen; omega) (by omega) hB w.heap.size rfl ?_
  intro g cap w' h1 h2 h3 h4
  refine h g cap w' ?_ h2 ?_ h4
  · unfold MRow
    rw [flat3_append, List.length_append]
    exact h1
  · rcases h3 with h3 | h3
    · exact (hown.lt g h3).1
    · omega
abbrev MM := Int × Int × Value × List (Int × Int)
def MM.tri (m : MM) : Int × Int × Value := (m.1, m.2.1, m.2.2.1)
structure PRow (B : Nat) (w : World) (v : Value) (ms : List MM) : Prop where
  row : MRow B w v (ms.map MM.tri)
  ops : ∀ m ∈ ms, OpsRow B w m.2.2.1 m.2.2.2
  dis : ms.Pairwise fun m n => ∀ g, m.2.2.1.ownBlock = some g → n.2.2.1.ownBlock ≠ some g
theorem PRow.nil (B : Nat) (w : World) : PRow B w (.slice none 0 0) [] := ⟨MRow.nil _ _, by simp, .nil⟩
theorem PRow.shape {B : Nat} {w : World} {v : Value} {ms : List MM} (h : PRow B w v ms) : ∃ a c, v = .slice a ms.length c := by
  obtain ⟨a, c, e⟩ := h.row.shape
  exact ⟨a, c, by simpa using e⟩
theorem PRow.shape1 {B : Nat} {w : World} {v : Value} {ms : List MM} (h : PRow B w v ms) (hn : 1 ≤ ms.length) : ∃ g c, v = .slice (some ⟨g, 0, none⟩) ms.length c := by
  obtain ⟨a, c, e⟩ := h.row.shape1 (by simpa using hn)
  exact ⟨a, c, by simpa using e⟩
theorem PRow.mono {B B' : Nat} {w : World} {v : Value} {ms : List MM} (h : PRow B w v ms) (hB : B' ≤ B) : PRow B' w v ms := ⟨h.row.mono hB, fun m hm => (h.ops m hm).mono hB, h.dis⟩
theorem PRow.kept {B : Nat} {w w' : World} {v : Value} {ms : List MM} {row : Option Nat} (h : PRow B w v ms) (hg : w.grownBy w' row) (hne : ∀ g, row = some g → v.ownBlock ≠ some g ∧ ∀ m ∈ ms, m.2.2.1.ownBlock ≠ some g) : PRow B w' v ms :=
  ⟨h.row.kept hg (fun g e => (hne g e).1), fun m hm => (h.ops m hm).kept hg (fun g e => (hne g e).2 m hm), h.dis⟩
theorem PRow.low {B : Nat} {w w' : World} {v : Value} {ms : List MM} {b : Nat} (h : PRow B w v ms) (hg : w.grownBy w' (some b)) (hb : b < B) : PRow B w' v ms :=
  h.kept hg fun g e => by
    cases e
    exact ⟨fun k => by have := (h.row.lt _ k).1; omega, fun m hm k => by have := ((h.ops m hm).lt _ k).1; omega⟩
theorem PRow.ofMap {ms : List MM} {i : Nat} (hi : i < ms.length) : (ms.map MM.tri)[i]'(by simpa using hi) = (ms[i].1, ms[i].2.1, ms[i].2.2.1) := by simp [MM.tri]
theorem OpsRow.at {B : Nat} {w : World} {v : Value} {L : List (Int × Int)} (h : OpsRow B w v L) (hl : L.length ≤ maxLen) : OpsAt w v L := by
  rcases h.2 with ⟨rfl, hn⟩ | ⟨g, cap, cur, rfl, _⟩
  · have : L = [] := List.length_eq_zero_iff.1 hn
    subst this
    exact ⟨none, 0, rfl, Nat.zero_le _, fun i hi => absurd hi (Nat.not_lt_zero _)⟩
  · refine ⟨some ⟨g, 0, none⟩, cap, rfl, hl, fun i hi => ⟨g, 0, rfl, ?_, ?_⟩⟩
    · have := World.ownsRow.cells h (g := g) rfl _ _ (flat_at L i hi).1
      rwa [Addr.add_lit] at this
    · have := World.ownsRow.cells h (g := g) rfl _ _ (flat_at L i hi).2
      rw [Addr.add_lit] at this
      simpa using this
def plainOf (ms : List MM) : List (Int × Int × List (Int × Int)) := ms.map fun m => (m.1, m.2.1, m.2.2.2)
theorem PRow.meths {B : Nat} {w : World} {v : Value} {ms : List MM} (h : PRow B w v ms) (hl : ms.length ≤ maxLen) (ho : ∀ m ∈ ms, m.2.2.2.length ≤ maxLen) : MethsAt w v (plainOf ms) := by
  rcases h.row.2 with ⟨rfl, hn⟩ | ⟨g, cap, cur, hv, _⟩
  · have : ms = [] := by simpa using hn
    subst this
    exact ⟨none, 0, rfl, Nat.zero_le _, fun i hi => absurd hi (Nat.not_lt_zero _)⟩
  · subst hv
    refine ⟨some ⟨g, 0, none⟩, cap, by simp [plainOf], by simpa [plainOf] using hl, fun i hi => ?_⟩
    have hi' : i < ms.length := by simpa [plainOf] using hi
    have c := h.row.cell i (by simpa using hi')
    rw [PRow.ofMap hi'] at c
    refine ⟨g, 0, ms[i].2.2.1, rfl, ?_, ?_, ?_, ?_⟩
    · simp only [plainOf, List.getElem_map, Nat.zero_add]; exact c.1
    · simp only [plainOf, List.getElem_map, Nat.zero_add]; exact c.2.1
    · simp only [Nat.zero_add]; exact c.2.2
    · simp only [plainOf, List.getElem_map]; exact (h.ops _ (List.getElem_mem hi')).at (ho _ (List.getElem_mem hi'))
end Go.Proofs.Ytldiccheboipeaa
