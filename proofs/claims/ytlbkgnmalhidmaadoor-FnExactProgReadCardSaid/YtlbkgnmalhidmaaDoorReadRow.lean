/-
  Methods in rows of their own: a method more, an operation more of one of them; nothing else is written.
-/
import Derived.Test.YtlbkgnmalhidmaaDoorDraw13
namespace Go.Proofs.YtlbkgnmalhidmaaDoor
open Go.RowKit

theorem PRow.below {B : Nat} {w w' : World} {v : Value} {ms : List MM} (h : PRow B w v ms) (hb : Below w.heap.size w w') : PRow B w' v ms := h.kept (below_grown hb none) (fun g e => by cases e)

/-- a method without operations is appended -/
theorem PRow.snoc {B : Nat} {w w' : World} {v v' : Value} {ms : List MM} (h : PRow B w v ms) (hg : w.grownBy w' v.ownBlock) {x t : Int} (hrow : MRow B w' v' (ms.map MM.tri ++ [(x, t, .slice none 0 0)])) : PRow B w' v' (ms ++ [(x, t, .slice none 0 0, [])]) := by
  refine ⟨by simpa [MM.tri] using hrow, fun m hm => ?_, ?_⟩
  · rcases List.mem_append.1 hm with hm | hm
    · exact (h.ops m hm).kept hg (fun k e hk => mrow_ne h.row (h.ops m hm) k e hk)
    · simp at hm; subst hm; exact OpsRow.nil _ _
  · exact List.pairwise_append.2 ⟨h.dis, by simp, fun m hm n hn => by simp at hn; subst hn; intro g _; simp [Value.ownBlock]⟩

/-- a box beside them is written -/
theorem PRow.boxed {B : Nat} {w : World} {v : Value} {ms : List MM} (h : PRow B w v ms) {g : Nat} {f : Nat → Value} (hbox : w.rowIs g 26 1 f) (o : Nat) (u : Value) : PRow B (w.setCell ⟨g, o, none⟩ u) v ms :=
  h.kept (grown_set w g o u) fun q e => by
    cases e
    exact ⟨row_ne_meths hbox h.row (by decide), fun m hm => row_ne_ops hbox (h.ops m hm) (by decide)⟩

/-- the operations of method k lie elsewhere now, in a row that was theirs or is new -/
theorem PRow.opsTo {B : Nat} {w w' : World} {gm c : Nat} {ms : List MM} (h : PRow B w (.slice (some ⟨gm, 0, none⟩) ms.length c) ms) {k : Nat} (hk : k < ms.length) {vo : Value} {L : List (Int × Int)} (hg : w.grownBy w' ms[k].2.2.1.ownBlock) (ho : OpsRow B w' vo L)
    (hat : ∀ g, vo.ownBlock = some g → ms[k].2.2.1.ownBlock = some g ∨ w.heap.size ≤ g) :
    PRow B (w'.setCell ⟨gm, k * 3 + 2, none⟩ vo) (.slice (some ⟨gm, 0, none⟩) ms.length c) (ms.set k (ms[k].1, ms[k].2.1, vo, L)) := by
  have hpw := List.pairwise_iff_getElem.1 h.dis
  have hop := h.ops _ (List.getElem_mem hk)
  have hrow1 : MRow B w' (.slice (some ⟨gm, 0, none⟩) ms.length c) (ms.map MM.tri) := h.row.kept hg (fun g e hk' => by
    exact mrow_ne h.row hop g hk' e)
  have hoth : ∀ i, (hi : i < ms.length) → i ≠ k → OpsRow B w' ms[i].2.2.1 ms[i].2.2.2 := fun i hi hne => (h.ops _ (List.getElem_mem hi)).kept hg (fun g e hg' => by
    rcases Nat.lt_or_gt_of_ne hne with e' | e'
    · exact hpw i k hi hk e' g hg' e
    · exact hpw k i hk hi e' g e hg')
  have hrow2 : w'.ownsRow B 45 3 (.slice (some ⟨gm, 0, none⟩) ms.length c) ms.length (flat3 (ms.map MM.tri)) := by have := hrow1; unfold MRow at this; rwa [List.length_map] at this
  obtain ⟨s1, s2⟩ := World.ownsRow.stored hrow2 (k * 3 + 2) vo
  have hm : ∀ u L', OpsRow B w' u L' → OpsRow B (w'.setCell ⟨gm, k * 3 + 2, none⟩ vo) u L' := fun u L' hu => hu.kept s2 (fun g e hg' => mrow_ne hrow1 hu g e hg')
  refine ⟨?_, fun m hmm => ?_, ?_⟩
  · unfold MRow
    rw [List.length_map, List.length_set, List.map_set]
    have := flat3_set2 (ms.map MM.tri) k (by simpa using hk) vo
    rw [PRow.ofMap hk] at this
    rw [show MM.tri (ms[k].1, ms[k].2.1, vo, L) = (ms[k].1, ms[k].2.1, vo) from rfl, this]
    exact s1
  · obtain ⟨i, hi, rfl⟩ := List.mem_iff_getElem.1 hmm
    have hi' : i < ms.length := by simpa using hi
    rw [List.getElem_set]
    by_cases e : k = i
    · rw [if_pos e]; exact hm _ _ ho
    · rw [if_neg e]; exact hm _ _ (hoth i hi' (fun e' => e e'.symm))
  · rw [List.pairwise_iff_getElem]
    intro i j hi hj hij
    have hi' : i < ms.length := by simpa using hi
    have hj' : j < ms.length := by simpa using hj
    simp only [List.getElem_set]
    by_cases e1 : k = i
    · subst e1
      rw [if_pos rfl, if_neg (by omega)]
      intro g e e'
      rcases hat g e with h1 | h1
      · exact hpw k j hk hj' hij g h1 e'
      · have := ((h.ops _ (List.getElem_mem hj')).lt g e').2
        omega
    · rw [if_neg e1]
      by_cases e2 : k = j
      · subst e2
        rw [if_pos rfl]
        intro g e e'
        rcases hat g e' with h1 | h1
        · exact hpw i k hi' hk hij g e h1
        · have := ((h.ops _ (List.getElem_mem hi')).lt g e).2
          omega
      · rw [if_neg e2]
        exact hpw i j hi' hj' hij

/-- operations, more behind them: at a step of a region that draws its order; where they lie then -/
theorem step_ops2 {ops : Array Oper} {o : Oper} {act : Act} {K : Act → World → Prop} {Q : Exit → Act → World → Prop} {E : Prop} (w : World) (hgd : o.guard = none) (s x : Operand)
    (ho : o.op = .call { callee := .builtin .append, args := #[s, x], argTypes := #[43, 43] }) (B : Nat) (v : Value) (L : List (Int × Int)) (hs : act.eval s = v) (hown : OpsRow B w v L) (M : List (Int × Int)) (gb c : Nat)
    (hx : act.eval x = .slice (some ⟨gb, 0, none⟩) M.length c) (hnews : ∀ j u, (flat M)[j]? = some u → w.cell? ((⟨gb, 0, none⟩ : Addr).add j) = some u) (hM : 0 < M.length) (hL : L.length + M.length ≤ 1000) (hB : B ≤ w.heap.size)
    (h : ∀ g cap w', OpsRow B w' (.slice (some ⟨g, 0, none⟩) (L.length + M.length) cap) (L ++ M) → w.grownBy w' v.ownBlock → (v.ownBlock = some g ∨ w.heap.size ≤ g) → g < w'.heap.size →
      K (act.put o.dst (.slice (some ⟨g, 0, none⟩) (L.length + M.length) cap)) w') :
    if Region.wanted o (yielded ops act.tmps) = true then Oper.wp Tryd.prog o act w K Q else E := by
  obtain ⟨i0, hi, hz0, hz1, hz2⟩ := info_parts Tryd.infoOp
  refine step_append_lies _ hgd s x 43 ho B 47 i0 _ 2 16 Tryd.underlying43 hi hz0 hz1 hz2 rfl (by omega) v L.length (flat L) hs hown ⟨gb, 0, none⟩ M.length c (flat M) hx (flat_length M)
    hnews (flat_one_cell M) hM (by unfold maxLen; omega) (by omega) hB w.heap.size rfl ?_
  intro g cap w' h1 h2 h3 h4
  refine h g cap w' ?_ h2 ?_ h4
  · unfold OpsRow
    rw [flat_append, List.length_append]
    exact h1
  · rcases h3 with h3 | h3
    · exact .inl h3
    · exact .inr (by omega)

end Go.Proofs.YtlbkgnmalhidmaaDoor
