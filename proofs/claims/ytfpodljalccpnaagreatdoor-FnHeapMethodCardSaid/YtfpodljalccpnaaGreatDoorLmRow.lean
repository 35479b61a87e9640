/-
  Rows of whatever elements that are copied whole into memory of their own; a method, a call of such a row is another one then.
-/
import Derived.Test.YtfpodljalccpnaaGreatDoorSMem
import Derived.Test.YtfpodljalccpnaaGreatDoorDraw10

namespace Go.Proofs.YtfpodljalccpnaaGreatDoor
open Go.RowKit
theorem append_row {ops : Array Oper} {rest : List Oper} {o : Oper} {act : Act} {Q : Exit → Act → World → Prop} (w : World) (hgd : o.guard = none) (s x : Operand) (t e : TypeId)
    (ho : o.op = .call { callee := .builtin .append, args := #[s, x], argTypes := #[t, t] }) (ht : Tryz.prog.underlying t = some (.slice e)) {z : Value} {sz nb : Nat} (hinf : (Tryz.prog.info? e).map (fun i => (i.zero, i.size, i.bytes)) = some (some z, sz, nb)) (hzs : z.cells.size = sz) (hby : nb ≤ 1000)
    (B : Nat) (v xv : Value) (n m : Nat) (xs ys : List Value) (hs : act.eval s = v) (hx : act.eval x = xv) (hown : CRow B sz w v n xs) (hsrc : Src Tryz.prog sz t xv m ys w) (hL : n + m ≤ 3000000) (hB : B ≤ w.heap.size)
    (h : ∀ v' w', CRow B sz w' v' (n + m) (xs ++ ys) → w.grownBy w' v.ownBlock → (v'.ownBlock = v.ownBlock ∨ v'.ownBlock = some w.heap.size) → wpList Tryz.prog ops Q rest (act.put o.dst v') w') :
    wpList Tryz.prog ops Q (o :: rest) act w := by
  obtain ⟨i0, hi, hz0, hz1, hz2⟩ := info_parts hinf
  subst hz1
  obtain ⟨v', w', hr, h2, h3, h4⟩ := run_append_rows (P := Tryz.prog) (ty := o.type) ht hi hz0 hzs (by omega) hown xv m ys hsrc hL hB
  refine wpList_plain hgd fun K hK => ?_
  unfold Oper.wp execOp
  simp only [ho, resolve, invoke, builtin, Sem.run_bind, Sem.run_pure, Result.andThen_ok, List.map_toArray, List.map_cons, List.map_nil, hs, hx, hr]
  exact hK _ _ (h v' w' h2 h3 h4)
theorem CRow.form {B sz n : Nat} {w : World} {v : Value} {xs : List Value} (h : CRow B sz w v n xs) (hn : 0 < n) : ∃ g off cap, v = .slice (some ⟨g, off, none⟩) n cap ∧ B ≤ g ∧ g < w.heap.size := by
  rcases h.2 with ⟨_, h0⟩ | ⟨g, off, cap, hv, hB, hg, _⟩
  · omega
  · exact ⟨g, off, cap, hv, hB, hg⟩
theorem CRow.at {B sz n m : Nat} {w : World} {g off cap : Nat} {xs : List Value} (h : CRow B sz w (.slice (some ⟨g, off, none⟩) m cap) n xs) : n ≤ maxLen ∧ ∀ i u, xs[i]? = some u → w.cell? ⟨g, off + i, none⟩ = some u ∧ w.frozen? ⟨g, off + i, none⟩ = false := by
  rcases h.2 with ⟨h0, _⟩ | ⟨g', off', cap', hv, hB, hg, hl, hm, hsp, hx⟩
  · cases h0
  · cases hv
    refine ⟨by omega, fun i u hu => ?_⟩
    have hi : i < xs.length := by
      by_cases e : i < xs.length
      · exact e
      · rw [List.getElem?_eq_none (by omega)] at hu; cases hu
    rw [List.getElem?_eq_getElem hi] at hu
    injection hu with hu
    have hle : n * sz ≤ cap * sz := Nat.mul_le_mul_right _ hl
    have hxl := h.1
    exact ⟨by rw [← hu]; exact hx i hi, (hsp i (by omega)).2⟩
def methL (ms : List (Int × Int × List (Int × Int))) (V : Nat → Value) : List (Int × Int × Value) := (List.range ms.length).map fun i => ((ms.getD i (0, 0, [])).1, (ms.getD i (0, 0, [])).2.1, V i)
theorem methL_len (ms : List (Int × Int × List (Int × Int))) (V : Nat → Value) : (methL ms V).length = ms.length := by simp [methL]
theorem methL_at {ms : List (Int × Int × List (Int × Int))} {V : Nat → Value} {i : Nat} (hi : i < ms.length) : (methL ms V)[i]'(by rw [methL_len]; exact hi) = (ms[i].1, ms[i].2.1, V i) := by simp [methL, hi]
theorem src_meths {w : World} {v : Value} {ms : List (Int × Int × List (Int × Int))} (h : MethsAt w v ms) : ∃ V : Nat → Value, (∀ w', Below w.heap.size w w' → Src Tryz.prog 3 23 v ms.length (flat3 (methL ms V)) w') ∧ ∀ i, (hi : i < ms.length) → OpsAt w (V i) ms[i].2.2 := by
  obtain ⟨a, cap, rfl, hl, hc⟩ := h
  cases a with
  | none =>
    cases ms with
    | nil => exact ⟨fun _ => .slice none 0 0, fun w' _ => Src.ofNil w' Tryz.underlying23 cap, fun i hi => absurd hi (Nat.not_lt_zero _)⟩
    | cons x l =>
      obtain ⟨b, o, vo, e, _⟩ := hc 0 (by simp)
      cases e
  | some ad =>
    have hV : ∀ i, (hi : i < ms.length) → (w.cell? ⟨ad.block, ad.off + i * 3, none⟩ = some (.int .i64 ms[i].1) ∧ w.cell? ⟨ad.block, ad.off + i * 3 + 1, none⟩ = some (.int .i64 ms[i].2.1) ∧ w.cell? ⟨ad.block, ad.off + i * 3 + 2, none⟩ = some ((w.cell? ⟨ad.block, ad.off + i * 3 + 2, none⟩).getD (.slice none 0 0)) ∧ OpsAt w ((w.cell? ⟨ad.block, ad.off + i * 3 + 2, none⟩).getD (.slice none 0 0)) ms[i].2.2) ∧ ad = ⟨ad.block, ad.off, none⟩ := fun i hi => by
      obtain ⟨b, o, vo, e, k0, k1, k2, k3⟩ := hc i hi
      obtain rfl : ad = ⟨b, o, none⟩ := by injection e
      have h2 : (w.cell? ⟨b, o + i * 3 + 2, none⟩).getD (.slice none 0 0) = vo := by rw [k2]; rfl
      exact ⟨by simp only [h2]; exact ⟨k0, k1, k2, k3⟩, rfl⟩
    refine ⟨fun i => (w.cell? ⟨ad.block, ad.off + i * 3 + 2, none⟩).getD (.slice none 0 0), fun w' hb => ?_, fun i hi => (hV i hi).1.2.2.2⟩
    refine Src.ofSlice w' Tryz.underlying23 ad _ cap _ (by rw [flat3_length, methL_len]) (fun j u hu => ?_) (flat3_one_cell _ fun m hm => ?_)
    · have hj : j < ms.length * 3 := by
        by_cases e : j < ms.length * 3
        · exact e
        · rw [List.getElem?_eq_none (by rw [flat3_length, methL_len]; omega)] at hu; cases hu
      have hi : j / 3 < ms.length := by omega
      obtain ⟨⟨k0, k1, k2, _⟩, had⟩ := hV (j / 3) hi
      have hr := flat3_at (methL ms fun i => (w.cell? ⟨ad.block, ad.off + i * 3 + 2, none⟩).getD (.slice none 0 0)) (j / 3) (by rw [methL_len]; exact hi)
      rw [methL_at hi] at hr
      obtain ⟨r0, r1, r2⟩ := hr
      rw [had, Addr.add_lit]
      have h3 : j = j / 3 * 3 ∨ j = j / 3 * 3 + 1 ∨ j = j / 3 * 3 + 2 := by omega
      rcases h3 with e | e | e <;> rw [e] at hu ⊢
      · rw [r0] at hu; rw [← hu]; exact cell_below hb k0
      · rw [r1] at hu; rw [← hu]; exact cell_below hb k1
      · rw [r2] at hu; rw [← hu]; exact cell_below hb k2
    · unfold methL at hm
      obtain ⟨i, hi, rfl⟩ := List.mem_map.1 hm
      have hi' : i < ms.length := by simpa using hi
      obtain ⟨a1, c1, e1⟩ := (hV i hi').1.2.2.2.shape
      exact ⟨a1, _, c1, e1⟩
end Go.Proofs.YtfpodljalccpnaaGreatDoor
