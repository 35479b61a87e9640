/-
  Rows of calls of their own: a call is appended to them.
-/
import Derived.Test.YtldiccheboipeaaVals
namespace Go.Proofs.Ytldiccheboipeaa
open Go.RowKit

/-- the cells of a call with its lists -/
def cells6 (x : Cl × Value × Value) : List Value := [.int .i64 x.1.m, .int .i64 x.1.pc, x.2.1, x.2.2, .int .i64 x.1.sender, .bool x.1.dead]
def rowC (L : List (Cl × Value × Value)) : List Value := L.flatMap cells6

theorem rowC_append (a b : List (Cl × Value × Value)) : rowC (a ++ b) = rowC a ++ rowC b := by simp [rowC]
theorem rowC_length (a : List (Cl × Value × Value)) : (rowC a).length = a.length * 6 := by
  induction a with
  | nil => rfl
  | cons x l ih => simp [rowC, cells6] at ih ⊢; omega
theorem rowC_at (a : List (Cl × Value × Value)) : ∀ (i : Nat) (h : i < a.length), (rowC a)[i * 6]? = some (.int .i64 a[i].1.m) ∧ (rowC a)[i * 6 + 1]? = some (.int .i64 a[i].1.pc) ∧ (rowC a)[i * 6 + 2]? = some a[i].2.1 ∧ (rowC a)[i * 6 + 3]? = some a[i].2.2 ∧ (rowC a)[i * 6 + 4]? = some (.int .i64 a[i].1.sender) ∧ (rowC a)[i * 6 + 5]? = some (.bool a[i].1.dead) := by
  induction a with
  | nil => intro i h; exact absurd h (Nat.not_lt_zero _)
  | cons x l ih =>
    intro i h
    cases i with
    | zero => exact ⟨rfl, rfl, rfl, rfl, rfl, rfl⟩
    | succ i =>
      have := ih i (by simpa using h)
      rw [show (i + 1) * 6 = i * 6 + 6 by omega]
      exact this

/-- calls with their lists in a row of their own -/
def CallRow (B : Nat) (w : World) (v : Value) (L : List (Cl × Value × Value)) : Prop := CRow B 6 w v L.length (rowC L)

theorem CallRow.nil (B : Nat) (w : World) : CallRow B w (.slice none 0 0) [] := CRow.nil B 6 w
theorem CallRow.made {B : Nat} {w : World} {e : TypeId} (hB : B ≤ w.heap.size) : CallRow B (w.alloc (.cells #[] e)) (.slice (some ⟨w.heap.size, 0, none⟩) 0 0) [] := CRow.made hB
theorem CallRow.lt {B : Nat} {w : World} {v : Value} {L : List (Cl × Value × Value)} (h : CallRow B w v L) : ∀ k, v.ownBlock = some k → B ≤ k ∧ k < w.heap.size := CRow.lt h
theorem CallRow.kept {B : Nat} {w w' : World} {v : Value} {L : List (Cl × Value × Value)} (h : CallRow B w v L) (hsz : w.heap.size ≤ w'.heap.size) (hb : ∀ g, v.ownBlock = some g → w'.heap[g]? = w.heap[g]?) : CallRow B w' v L := CRow.kept h hsz hb
theorem CallRow.below {B : Nat} {w w' : World} {v : Value} {L : List (Cl × Value × Value)} (h : CallRow B w v L) (hb : Below w.heap.size w w') : CallRow B w' v L := CRow.below h hb
theorem CallRow.slice {B : Nat} {w : World} {v : Value} {L : List (Cl × Value × Value)} (h : CallRow B w v L) : ∃ a cap, v = .slice a L.length cap ∧ L.length ≤ maxLen := by
  rcases h.2 with ⟨rfl, e⟩ | ⟨g, off, cap, hv, hB, hg, hl, hc, _⟩
  · exact ⟨none, 0, by rw [e], by rw [e]; omega⟩
  · exact ⟨_, cap, hv, by omega⟩

/-- a call more, just laid into a block of its own -/
theorem run_append_call {ty : TypeId} {B : Nat} {w : World} {v : Value} {L : List (Cl × Value × Value)} (hown : CallRow B w v L) (x : Cl × Value × Value) (h1 : x.2.1.oneCell' = true) (h2 : x.2.2.oneCell' = true) (H c : Nat)
    (hx : ∀ j u, (cells6 x)[j]? = some u → w.cell? ⟨H, j, none⟩ = some u) (hL : L.length ≤ 900000) (hB : B ≤ w.heap.size) :
    ∃ v' w', (Builtin.append_ #[37, 37] ty #[v, .slice (some ⟨H, 0, none⟩) 1 c]).run Try.prog w = .ok v' w' ∧ CallRow B w' v' (L ++ [x]) ∧ w.grownBy w' v.ownBlock ∧ (v'.ownBlock = v.ownBlock ∨ v'.ownBlock = some w.heap.size) := by
  obtain ⟨i0, hi, hz0, hz1, hz2⟩ := info_parts Try.infoCall
  have hs : Src Try.prog 6 37 (.slice (some ⟨H, 0, none⟩) 1 c) 1 (cells6 x) w := Src.ofSlice w Try.underlying37 ⟨H, 0, none⟩ 1 c (cells6 x) rfl (fun j u hu => by rw [Addr.add_lit, Nat.zero_add]; exact hx j u hu) (fun u hu => by
    simp only [cells6, List.mem_cons, List.not_mem_nil, or_false] at hu
    rcases hu with rfl | rfl | rfl | rfl | rfl | rfl
    · rfl
    · rfl
    · exact h1
    · exact h2
    · rfl
    · rfl)
  have ho : CRow B 6 w v L.length (rowC L) := hown
  rw [← hz1] at hs ho
  obtain ⟨v', w', hr, hc, hg, hb⟩ := run_append_rows (P := Try.prog) (ty := ty) Try.underlying37 hi hz0 (by rw [hz1]; rfl) (by rw [hz2]; omega) ho _ 1 (cells6 x) hs (by omega) hB
  refine ⟨v', w', hr, ?_, hg, hb⟩
  rw [hz1] at hc
  unfold CallRow
  rw [rowC_append, List.length_append]
  simpa [rowC] using hc

/-- the same at an operation of a plain region -/
theorem append_call {ops : Array Oper} {rest : List Oper} {o : Oper} {act : Act} {Q : Exit → Act → World → Prop} (w : World) (hgd : o.guard = none) (s y : Operand)
    (ho : o.op = .call { callee := .builtin .append, args := #[s, y], argTypes := #[37, 37] }) (B : Nat) (v : Value) (L : List (Cl × Value × Value)) (x : Cl × Value × Value) (hs : act.eval s = v) (H c : Nat) (hy : act.eval y = .slice (some ⟨H, 0, none⟩) 1 c) (hown : CallRow B w v L)
    (h1 : x.2.1.oneCell' = true) (h2 : x.2.2.oneCell' = true) (hx : ∀ j u, (cells6 x)[j]? = some u → w.cell? ⟨H, j, none⟩ = some u) (hL : L.length ≤ 900000) (hB : B ≤ w.heap.size)
    (h : ∀ v' w', CallRow B w' v' (L ++ [x]) → w.grownBy w' v.ownBlock → (v'.ownBlock = v.ownBlock ∨ v'.ownBlock = some w.heap.size) → wpList Try.prog ops Q rest (act.put o.dst v') w') :
    wpList Try.prog ops Q (o :: rest) act w := by
  obtain ⟨v', w', hr, h3, h4, h5⟩ := run_append_call (ty := o.type) hown x h1 h2 H c hx hL hB
  refine wpList_plain hgd fun K hK => ?_
  unfold Oper.wp execOp
  simp only [ho, resolve, invoke, builtin, Sem.run_bind, Sem.run_pure, Result.andThen_ok, List.map_toArray, List.map_cons, List.map_nil, hs, hy, hr]
  exact hK _ _ (h v' w' h3 h4 h5)

theorem cells6_of {w : World} {g : Nat} {t : TypeId} {x : Cl × Value × Value} (h : w.rowIs g t 6 (six (.int .i64 x.1.m) (.int .i64 x.1.pc) x.2.1 x.2.2 (.int .i64 x.1.sender) (.bool x.1.dead))) : ∀ j u, (cells6 x)[j]? = some u → w.cell? ⟨g, j, none⟩ = some u := by
  obtain ⟨⟨q0, q1, q2, q3, q4, q5⟩, _⟩ := six_cells h
  intro j u hu
  have hj : j < 6 := by
    by_cases h : j < 6
    · exact h
    · rw [List.getElem?_eq_none (by simp [cells6]; omega)] at hu; cases hu
  have h6 : j = 0 ∨ j = 1 ∨ j = 2 ∨ j = 3 ∨ j = 4 ∨ j = 5 := by omega
  rcases h6 with rfl | rfl | rfl | rfl | rfl | rfl <;> (simp [cells6] at hu; subst hu; assumption)

/-- such calls, where their lists lie too -/
theorem CallRow.at {B : Nat} {w : World} {v : Value} {L : List (Cl × Value × Value)} (h : CallRow B w v L) (hl : ∀ i, (hi : i < L.length) → OpsAt w L[i].2.1 L[i].1.temps ∧ OpsAt w L[i].2.2 L[i].1.stack) : CallsAt w v (L.map (·.1)) := by
  rcases h.2 with ⟨rfl, e⟩ | ⟨g, off, cap, rfl, hB, hg, hlc, hc, hsp, hx⟩
  · obtain rfl := List.eq_nil_of_length_eq_zero e
    exact CallsAt.nil w
  · refine ⟨some ⟨g, off, none⟩, cap, by simp, by simp; omega, fun i hi => ?_⟩
    have hi' : i < L.length := by simpa using hi
    obtain ⟨r0, r1, r2, r3, r4, r5⟩ := rowC_at L i hi'
    have hrl := rowC_length L
    have hget : ∀ (j : Nat) (u : Value), (rowC L)[j]? = some u → w.cell? ⟨g, off + j, none⟩ = some u := fun j u hu => by
      have hj : j < (rowC L).length := by
        by_cases h : j < (rowC L).length
        · exact h
        · rw [List.getElem?_eq_none (by omega)] at hu; cases hu
      rw [hx j hj, ← List.getElem?_eq_getElem, hu]
    obtain ⟨ht, hs⟩ := hl i hi'
    refine ⟨g, off, L[i].2.1, L[i].2.2, rfl, ?_, ?_, ?_, ?_, ?_, ?_, ?_, ?_⟩
    · simpa using hget _ _ r0
    · simpa [Nat.add_assoc] using hget _ _ r1
    · simpa [Nat.add_assoc] using hget _ _ r2
    · simpa [Nat.add_assoc] using hget _ _ r3
    · simpa [Nat.add_assoc] using hget _ _ r4
    · simpa [Nat.add_assoc] using hget _ _ r5
    · simpa using ht
    · simpa using hs

end Go.Proofs.Ytldiccheboipeaa
