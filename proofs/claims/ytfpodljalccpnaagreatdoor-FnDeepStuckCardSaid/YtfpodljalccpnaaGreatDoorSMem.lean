/-
  Rows of values of their own: values are appended to them; l11None and l11Call of the model.
-/
import Derived.Test.YtfpodljalccpnaaGreatDoorProg
import Derived.Test.YtfpodljalccpnaaGreatDoorCRow
import Derived.Test.YtfpodljalccpnaaGreatDoorHCopy

namespace Go.Proofs.YtfpodljalccpnaaGreatDoor
open Go.RowKit
def pcells (ops : List (Int × Int)) : List Value := ops.flatMap fun o => [.int .i64 o.1, .int .i64 o.2]
theorem pcells_append (a b : List (Int × Int)) : pcells (a ++ b) = pcells a ++ pcells b := by simp [pcells]
theorem pcells_length (a : List (Int × Int)) : (pcells a).length = a.length * 2 := by
  induction a with
  | nil => rfl
  | cons x l ih => simp [pcells] at ih ⊢; omega
theorem pcells_at (a : List (Int × Int)) : ∀ (i : Nat) (h : i < a.length), (pcells a)[i * 2]? = some (.int .i64 a[i].1) ∧ (pcells a)[i * 2 + 1]? = some (.int .i64 a[i].2) := by
  induction a with
  | nil => intro i h; exact absurd h (Nat.not_lt_zero _)
  | cons x l ih =>
    intro i h
    cases i with
    | zero => exact ⟨rfl, rfl⟩
    | succ i =>
      have := ih i (by simpa using h)
      rw [show (i + 1) * 2 = i * 2 + 2 by omega]
      exact this
theorem pcells_one (M : List (Int × Int)) : ∀ u ∈ pcells M, u.oneCell' = true := by
  intro u hu
  simp only [pcells, List.mem_flatMap] at hu
  obtain ⟨x, _, hx⟩ := hu
  simp at hx
  rcases hx with rfl | rfl <;> rfl
theorem PairRow.crow {B : Nat} {w : World} {v : Value} {ops : List (Int × Int)} (h : PairRow B w v ops) : CRow B 2 w v ops.length (pcells ops) := by
  refine ⟨pcells_length ops, ?_⟩
  rcases h with ⟨rfl, rfl⟩ | ⟨g, off, cap, rfl, hB, hg, hl, hc, hsp, hx⟩
  · exact .inl ⟨rfl, rfl⟩
  · refine .inr ⟨g, off, cap, rfl, hB, hg, hl, hc, hsp, fun i hi => ?_⟩
    rw [pcells_length] at hi
    have h2 := pcells_at ops (i / 2) (by omega)
    have h3 := hx (i / 2) (by omega)
    rcases Nat.mod_two_eq_zero_or_one i with hm | hm
    · rw [show i / 2 * 2 = i by omega] at h2
      rw [show off + i / 2 * 2 = off + i by omega] at h3
      rw [h3.1, ← h2.1, List.getElem?_eq_getElem]
    · rw [show i / 2 * 2 + 1 = i by omega] at h2
      rw [show off + i / 2 * 2 + 1 = off + i by omega] at h3
      rw [h3.2, ← h2.2, List.getElem?_eq_getElem]
theorem CRow.pair {B : Nat} {w : World} {v : Value} {n : Nat} {ops : List (Int × Int)} (hn : n = ops.length) (h : CRow B 2 w v n (pcells ops)) : PairRow B w v ops := by
  subst hn
  rcases h.2 with ⟨rfl, e⟩ | ⟨g, off, cap, rfl, hB, hg, hl, hc, hsp, hx⟩
  · exact .inl ⟨rfl, List.eq_nil_of_length_eq_zero e⟩
  · refine .inr ⟨g, off, cap, rfl, hB, hg, hl, hc, hsp, fun i hi => ?_⟩
    have h2 := pcells_at ops i hi
    have hp := pcells_length ops
    have h3 := hx (i * 2) (by omega)
    have h4 := hx (i * 2 + 1) (by omega)
    rw [← Nat.add_assoc] at h4
    rw [h3, h4, ← List.getElem?_eq_getElem, ← List.getElem?_eq_getElem, h2.1, h2.2]
    exact ⟨rfl, rfl⟩
theorem src_vals {P : Program} {tx e' : TypeId} (hk : P.underlying tx = some (.slice e')) {w : World} {v : Value} {ops : List (Int × Int)} (h : OpsAt w v ops) : Src P 2 tx v ops.length (pcells ops) w := by
  obtain ⟨a, cap, rfl, hl, hc⟩ := h
  cases a with
  | none =>
    cases ops with
    | nil => exact Src.ofNil w hk cap
    | cons x l =>
      obtain ⟨b, o, e, _⟩ := hc 0 (by simp)
      cases e
  | some ad =>
    refine Src.ofSlice w hk ad _ cap _ (pcells_length _) (fun j u hu => ?_) (pcells_one _)
    have hj : j < (pcells ops).length := by
      by_cases h : j < (pcells ops).length
      · exact h
      · rw [List.getElem?_eq_none (by omega)] at hu; cases hu
    rw [pcells_length] at hj
    obtain ⟨b, o, e, h0, h1⟩ := hc (j / 2) (by omega)
    obtain rfl : ad = ⟨b, o, none⟩ := by injection e
    rw [Addr.add_lit]
    have h2 := pcells_at ops (j / 2) (by omega)
    rcases Nat.mod_two_eq_zero_or_one j with hm | hm
    · rw [show o + j / 2 * 2 = o + j by omega] at h0
      rw [show j / 2 * 2 = j by omega] at h2
      rw [h0, ← h2.1]; exact hu
    · rw [show o + j / 2 * 2 + 1 = o + j by omega] at h1
      rw [show j / 2 * 2 + 1 = j by omega] at h2
      rw [h1, ← h2.2]; exact hu
theorem run_append_vals {ty : TypeId} {B : Nat} {w : World} {v xv : Value} {L M : List (Int × Int)} (hown : PairRow B w v L) (hM : OpsAt w xv M) (hL : L.length + M.length ≤ 3000000) (hB : B ≤ w.heap.size) :
    ∃ v' w', (Builtin.append_ #[27, 27] ty #[v, xv]).run Tryz.prog w = .ok v' w' ∧ PairRow B w' v' (L ++ M) ∧ w.grownBy w' v.ownBlock ∧ (v'.ownBlock = v.ownBlock ∨ v'.ownBlock = some w.heap.size) := by
  obtain ⟨i0, hi, hz0, hz1, hz2⟩ := info_parts Tryz.infoVal
  have h1 := hown.crow
  have h2 := src_vals (P := Tryz.prog) Tryz.underlying27 hM
  rw [← hz1] at h1 h2
  obtain ⟨v', w', hr, hc, hg, hb⟩ := run_append_rows (P := Tryz.prog) (ty := ty) Tryz.underlying27 hi hz0 (by rw [hz1]; rfl) (by rw [hz2]; omega) h1 xv M.length (pcells M) h2 hL hB
  refine ⟨v', w', hr, ?_, hg, hb⟩
  rw [hz1, ← pcells_append] at hc
  exact hc.pair (by simp)
theorem append_vals {ops : Array Oper} {rest : List Oper} {o : Oper} {act : Act} {Q : Exit → Act → World → Prop} (w : World) (hgd : o.guard = none) (s x : Operand)
    (ho : o.op = .call { callee := .builtin .append, args := #[s, x], argTypes := #[27, 27] }) (B : Nat) (v xv : Value) (L M : List (Int × Int)) (hs : act.eval s = v) (hx : act.eval x = xv) (hown : PairRow B w v L) (hM : OpsAt w xv M)
    (hL : L.length + M.length ≤ 3000000) (hB : B ≤ w.heap.size)
    (h : ∀ v' w', PairRow B w' v' (L ++ M) → w.grownBy w' v.ownBlock → (v'.ownBlock = v.ownBlock ∨ v'.ownBlock = some w.heap.size) → wpList Tryz.prog ops Q rest (act.put o.dst v') w') :
    wpList Tryz.prog ops Q (o :: rest) act w := by
  obtain ⟨v', w', hr, h2, h3, h4⟩ := run_append_vals (ty := o.type) hown hM hL hB
  refine wpList_plain hgd fun K hK => ?_
  unfold Oper.wp execOp
  simp only [ho, resolve, invoke, builtin, Sem.run_bind, Sem.run_pure, Result.andThen_ok, List.map_toArray, List.map_cons, List.map_nil, hs, hx, hr]
  exact hK _ _ (h v' w' h2 h3 h4)
theorem step_vals {ops : Array Oper} {o : Oper} {act : Act} {K : Act → World → Prop} {Q : Exit → Act → World → Prop} {E : Prop} (w : World) (hgd : o.guard = none) (s x : Operand)
    (ho : o.op = .call { callee := .builtin .append, args := #[s, x], argTypes := #[27, 27] }) (B : Nat) (v xv : Value) (L M : List (Int × Int)) (hs : act.eval s = v) (hx : act.eval x = xv) (hown : PairRow B w v L) (hM : OpsAt w xv M)
    (hL : L.length + M.length ≤ 3000000) (hB : B ≤ w.heap.size)
    (h : ∀ v' w', PairRow B w' v' (L ++ M) → w.grownBy w' v.ownBlock → (v'.ownBlock = v.ownBlock ∨ v'.ownBlock = some w.heap.size) → K (act.put o.dst v') w') :
    if Region.wanted o (yielded ops act.tmps) = true then Oper.wp Tryz.prog o act w K Q else E := by
  obtain ⟨v', w', hr, h2, h3, h4⟩ := run_append_vals (ty := o.type) hown hM hL hB
  rw [if_pos (by simp [Region.wanted, hgd])]
  unfold Oper.wp execOp
  simp only [ho, resolve, invoke, builtin, Sem.run_bind, Sem.run_pure, Result.andThen_ok, List.map_toArray, List.map_cons, List.map_nil, hs, hx, hr]
  exact h v' w' h2 h3 h4
theorem PairRow.made {B : Nat} {w : World} {e : TypeId} (hB : B ≤ w.heap.size) : PairRow B (w.alloc (.cells #[] e)) (.slice (some ⟨w.heap.size, 0, none⟩) 0 0) [] := (CRow.made hB).pair rfl
theorem one_at (w : World) (k q : Int) (e : TypeId) (c : Nat) : OpsAt (w.alloc (.cells #[.int .i64 k, .int .i64 q] e)) (.slice (some ⟨w.heap.size, 0, none⟩) 1 c) [(k, q)] :=
  ⟨_, c, rfl, by unfold maxLen; simp, fun i hi => by
    obtain rfl : i = 0 := by simpa using hi
    exact ⟨w.heap.size, 0, rfl, by simp [go_sem], by simp [go_sem]⟩⟩
end Go.Proofs.YtfpodljalccpnaaGreatDoor

/-
  Rows of calls of their own: a call is appended to them.
-/
namespace Go.Proofs.YtfpodljalccpnaaGreatDoor
open Go.RowKit
def cells6 (x : Cl × Value × Value) : List Value := [.int .i64 x.1.m, .int .i64 x.1.pc, x.2.1, x.2.2, .int .i64 x.1.sender, .bool x.1.dead]
def rowC (L : List (Cl × Value × Value)) : List Value := L.flatMap cells6
theorem rowC_append (a b : List (Cl × Value × Value)) : rowC (a ++ b) = rowC a ++ rowC b := by simp [rowC]
theorem rowC_length (a : List (Cl × Value × Value)) : (rowC a).length = a.length * 6 := by
  induction a with
  | nil => rfl
  | cons x l ih => simp [rowC, cells6] at ih ⊢; omega
theorem rowC_at (a : List (Cl × Value × Value)) : ∀ (i : Nat) (h : i < a.length), (rowC a)[i * 6]? = some (.int .i64 a[i].1.m) ∧ (rowC a)[i * 6 + 1]? = some (.int .i64 a[i].1.pc) ∧ (rowC a)[i * 6 + 2]? = some a[i].2.1 ∧ (rowC a)[i * 6 + 3]? = some a[i].2.2 ∧ (rowC a)[i * 6 + 4]? = some (.int .i64 a[i].1.sender) ∧ (rowC a)[i * 6 + 5]? = some (.bool a[i].1.dead) := by
  induction a with
  | nil => intro i h; exact absurd h (Nat.not_lt_zero _)
  | cons x l ih =>
    intro i h
    cases i with
    | zero => exact ⟨rfl, rfl, rfl, rfl, rfl, rfl⟩
    | succ i =>
      have := ih i (by simpa using h)
      rw [show (i + 1) * 6 = i * 6 + 6 by omega]
      exact this
def CallRow (B : Nat) (w : World) (v : Value) (L : List (Cl × Value × Value)) : Prop := CRow B 6 w v L.length (rowC L)
theorem CallRow.nil (B : Nat) (w : World) : CallRow B w (.slice none 0 0) [] := CRow.nil B 6 w
theorem CallRow.lt {B : Nat} {w : World} {v : Value} {L : List (Cl × Value × Value)} (h : CallRow B w v L) : ∀ k, v.ownBlock = some k → B ≤ k ∧ k < w.heap.size := CRow.lt h
theorem CallRow.below {B : Nat} {w w' : World} {v : Value} {L : List (Cl × Value × Value)} (h : CallRow B w v L) (hb : Below w.heap.size w w') : CallRow B w' v L := CRow.below h hb
theorem CallRow.slice {B : Nat} {w : World} {v : Value} {L : List (Cl × Value × Value)} (h : CallRow B w v L) : ∃ a cap, v = .slice a L.length cap ∧ L.length ≤ maxLen := by
  rcases h.2 with ⟨rfl, e⟩ | ⟨g, off, cap, hv, hB, hg, hl, hc, _⟩
  · exact ⟨none, 0, by rw [e], by rw [e]; omega⟩
  · exact ⟨_, cap, hv, by omega⟩
theorem run_append_call {ty : TypeId} {B : Nat} {w : World} {v : Value} {L : List (Cl × Value × Value)} (hown : CallRow B w v L) (x : Cl × Value × Value) (h1 : x.2.1.oneCell' = true) (h2 : x.2.2.oneCell' = true) (H c : Nat)
    (hx : ∀ j u, (cells6 x)[j]? = some u → w.cell? ⟨H, j, none⟩ = some u) (hL : L.length ≤ 900000) (hB : B ≤ w.heap.size) :
    ∃ v' w', (Builtin.append_ #[26, 26] ty #[v, .slice (some ⟨H, 0, none⟩) 1 c]).run Tryz.prog w = .ok v' w' ∧ CallRow B w' v' (L ++ [x]) ∧ w.grownBy w' v.ownBlock ∧ (v'.ownBlock = v.ownBlock ∨ v'.ownBlock = some w.heap.size) := by
  obtain ⟨i0, hi, hz0, hz1, hz2⟩ := info_parts Tryz.infoCall
  have hs : Src Tryz.prog 6 26 (.slice (some ⟨H, 0, none⟩) 1 c) 1 (cells6 x) w := Src.ofSlice w Tryz.underlying26 ⟨H, 0, none⟩ 1 c (cells6 x) rfl (fun j u hu => by rw [Addr.add_lit, Nat.zero_add]; exact hx j u hu) (fun u hu => by
    simp only [cells6, List.mem_cons, List.not_mem_nil, or_false] at hu
    rcases hu with rfl | rfl | rfl | rfl | rfl | rfl
    · rfl
    · rfl
    · exact h1
    · exact h2
    · rfl
    · rfl)
  have ho : CRow B 6 w v L.length (rowC L) := hown
  rw [← hz1] at hs ho
  obtain ⟨v', w', hr, hc, hg, hb⟩ := run_append_rows (P := Tryz.prog) (ty := ty) Tryz.underlying26 hi hz0 (by rw [hz1]; rfl) (by rw [hz2]; omega) ho _ 1 (cells6 x) hs (by omega) hB
  refine ⟨v', w', hr, ?_, hg, hb⟩
  rw [hz1] at hc
  unfold CallRow
  rw [rowC_append, List.length_append]
  simpa [rowC] using hc
theorem cells6_of {w : World} {g : Nat} {t : TypeId} {x : Cl × Value × Value} (h : w.rowIs g t 6 (six (.int .i64 x.1.m) (.int .i64 x.1.pc) x.2.1 x.2.2 (.int .i64 x.1.sender) (.bool x.1.dead))) : ∀ j u, (cells6 x)[j]? = some u → w.cell? ⟨g, j, none⟩ = some u := by
  obtain ⟨⟨q0, q1, q2, q3, q4, q5⟩, _⟩ := six_cells h
  intro j u hu
  have hj : j < 6 := by
    by_cases h : j < 6
    · exact h
    · rw [List.getElem?_eq_none (by simp [cells6]; omega)] at hu; cases hu
  have h6 : j = 0 ∨ j = 1 ∨ j = 2 ∨ j = 3 ∨ j = 4 ∨ j = 5 := by omega
  rcases h6 with rfl | rfl | rfl | rfl | rfl | rfl <;> (simp [cells6] at hu; subst hu; assumption)
theorem CallRow.at {B : Nat} {w : World} {v : Value} {L : List (Cl × Value × Value)} (h : CallRow B w v L) (hl : ∀ i, (hi : i < L.length) → OpsAt w L[i].2.1 L[i].1.temps ∧ OpsAt w L[i].2.2 L[i].1.stack) : CallsAt w v (L.map (·.1)) := by
  rcases h.2 with ⟨rfl, e⟩ | ⟨g, off, cap, rfl, hB, hg, hlc, hc, hsp, hx⟩
  · obtain rfl := List.eq_nil_of_length_eq_zero e
    exact CallsAt.nil w
  · refine ⟨some ⟨g, off, none⟩, cap, by simp, by simp; omega, fun i hi => ?_⟩
    have hi' : i < L.length := by simpa using hi
    obtain ⟨r0, r1, r2, r3, r4, r5⟩ := rowC_at L i hi'
    have hrl := rowC_length L
    have hget : ∀ (j : Nat) (u : Value), (rowC L)[j]? = some u → w.cell? ⟨g, off + j, none⟩ = some u := fun j u hu => by
      have hj : j < (rowC L).length := by
        by_cases h : j < (rowC L).length
        · exact h
        · rw [List.getElem?_eq_none (by omega)] at hu; cases hu
      rw [hx j hj, ← List.getElem?_eq_getElem, hu]
    obtain ⟨ht, hs⟩ := hl i hi'
    refine ⟨g, off, L[i].2.1, L[i].2.2, rfl, ?_, ?_, ?_, ?_, ?_, ?_, ?_, ?_⟩
    · simpa using hget _ _ r0
    · simpa [Nat.add_assoc] using hget _ _ r1
    · simpa [Nat.add_assoc] using hget _ _ r2
    · simpa [Nat.add_assoc] using hget _ _ r3
    · simpa [Nat.add_assoc] using hget _ _ r4
    · simpa [Nat.add_assoc] using hget _ _ r5
    · simpa using ht
    · simpa using hs
end Go.Proofs.YtfpodljalccpnaaGreatDoor

/-
  Calls in a row with their lists: no two lists share a block. Nothing of the translation is used here.
-/
namespace Go.Proofs.YtfpodljalccpnaaGreatDoor
open Go.RowKit
end Go.Proofs.YtfpodljalccpnaaGreatDoor

/-
  A heap at work, in memory of its own: what is written to it. Nothing of the translation is used here but the number of its type.
-/
namespace Go.Proofs.YtfpodljalccpnaaGreatDoor
open Go.RowKit
def putV (V : Nat → Value × Value) (j : Nat) (x : Value × Value) : Nat → Value × Value := fun i => if i = j then x else V i
theorem putV_same (V : Nat → Value × Value) (j : Nat) (x : Value × Value) : putV V j x j = x := if_pos rfl
theorem putV_other (V : Nat → Value × Value) {j i : Nat} (x : Value × Value) (h : i ≠ j) : putV V j x i = V i := if_neg h
end Go.Proofs.YtfpodljalccpnaaGreatDoor

/-
  A heap at work, in memory of its own: a value is put, a number is turned, a temp is set, a value is said, a call is born. Nothing of the translation is used here but the number of its type.
-/
namespace Go.Proofs.YtfpodljalccpnaaGreatDoor
open Go.RowKit
end Go.Proofs.YtfpodljalccpnaaGreatDoor
