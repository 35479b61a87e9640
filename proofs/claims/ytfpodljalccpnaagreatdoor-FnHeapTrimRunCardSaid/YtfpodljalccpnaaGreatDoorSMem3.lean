/-
  A heap at work, in memory of its own: a call is born. Nothing of the translation is used here but the number of its type.
-/
import Derived.Test.YtfpodljalccpnaaGreatDoorSMem

namespace Go.Proofs.YtfpodljalccpnaaGreatDoor
open Go.RowKit
theorem SM.born {A : Nat → Prop} {B : Nat} {w w3 w4 : World} {bo : Nat} {vp vc vs : Value} {ms : List (Int × Int × List (Int × Int))} {h : Hp} {V : Nat → Value × Value} (k : SM A B w bo vp vc vs ms h V) (c : Cl) (vt vs3 v' : Value) (hB : B ≤ w.heap.size) (h3 : Below w.heap.size w w3)
    (ht : PairRow w.heap.size w3 vt c.temps) (hs : PairRow w.heap.size w3 vs3 c.stack) (hap : ∀ q, vt.ownBlock = some q → vs3.ownBlock ≠ some q) (hrow : CallRow B w4 v' (rowOf h.calls V ++ [(c, vt, vs3)])) (hg : w3.grownBy w4 vc.ownBlock) (hv : v'.ownBlock = vc.ownBlock ∨ v'.ownBlock = some w3.heap.size) :
    (∃ V', SM A B (w4.setCell ⟨bo, 1, none⟩ v') bo vp v' vs ms { h with calls := h.calls ++ [c] } V') ∧ Cm A B w (w4.setCell ⟨bo, 1, none⟩ v') := by
  have hz3 := h3.size
  have hz4 := hg.size
  have hbo : bo < w.heap.size := k.box.lt
  have hbc : ¬ CallBlocks vc h.calls.length V bo := fun e => k.nb (.inr e)
  have hvc : ∀ q, vc.ownBlock = some q → B ≤ q ∧ q < w.heap.size := fun q e => k.own.c.lt (.inl e)
  have hvn : ∀ q, v'.ownBlock = some q → vc.ownBlock = some q ∨ w3.heap.size ≤ q := fun q e => by
    rcases hv with x | x
    · exact .inl (by rw [← x]; exact e)
    · rw [x] at e; cases e; exact .inr (Nat.le_refl _)
  have hbl : ∀ q, q < w.heap.size → vc.ownBlock ≠ some q → w4.heap[q]? = w.heap[q]? := fun q hq hn => (hg.block q (by omega) (fun e => hn e.symm)).trans (h3.block q hq)
  have hnw : ∀ q, w.heap.size ≤ q → q < w3.heap.size → w4.heap[q]? = w3.heap[q]? := fun q h1 h2 => hg.block q h2 (fun e => by have := (hvc q e.symm).2; omega)
  have hl := rowOf_len h.calls V
  have b4 : Below B w w4 := ⟨hg.os.trans h3.os, hg.tape.trans h3.tape, hg.output.trans h3.output, by omega, fun q hq => hbl q (by omega) (fun e => by have := (hvc q e).1; omega)⟩
  have hlists : ∀ j, (hj : j < (rowOf h.calls V ++ [(c, vt, vs3)]).length) → PairRow B w4 (rowOf h.calls V ++ [(c, vt, vs3)])[j].2.1 (rowOf h.calls V ++ [(c, vt, vs3)])[j].1.temps ∧ PairRow B w4 (rowOf h.calls V ++ [(c, vt, vs3)])[j].2.2 (rowOf h.calls V ++ [(c, vt, vs3)])[j].1.stack := fun j hj => by
    by_cases e : j < h.calls.length
    · rw [List.getElem_append_left (by rw [hl]; exact e), rowOf_at e]
      obtain ⟨p1, p2⟩ := k.own.c.lists j e
      refine ⟨p1.kept (by omega) fun q hq => hbl q (p1.lt q hq).2 ?_, p2.kept (by omega) fun q hq => hbl q (p2.lt q hq).2 ?_⟩
      · exact (k.own.c.apart (j * 2) (by omega) q (by rw [lst_0]; exact hq)).1
      · exact (k.own.c.apart (j * 2 + 1) (by omega) q (by rw [lst_1]; exact hq)).1
    · rw [List.getElem_append_right (by rw [hl]; omega)]
      simp only [List.getElem_singleton]
      exact ⟨(ht.kept (by omega) fun q hq => hnw q (ht.lt q hq).1 (ht.lt q hq).2).mono hB, (hs.kept (by omega) fun q hq => hnw q (hs.lt q hq).1 (hs.lt q hq).2).mono hB⟩
  have hapL : ApartL (rowOf h.calls V ++ [(c, vt, vs3)]) v' := apart_snoc (S := w.heap.size) (S' := w3.heap.size) k.own.c.apartL (fun q hq g hg' => by
      rw [hl] at hq
      have hq2 : q / 2 < h.calls.length := by omega
      have : lst (fun i => ((rowOf h.calls V).getD i (Cl.none, .slice none 0 0, .slice none 0 0)).2) q = lst V q := by
        unfold lst
        simp only [rowOf_getD hq2]
      rw [this] at hg'
      exact (k.own.c.lt (.inr ⟨q, hq, hg'⟩)).2) (fun q e => ht.lt q e) (fun q e => hs.lt q e) hap (fun q e => (hvc q e).2) hvn hz3
  have ho := hrow.own hlists hapL
  rw [List.map_append, rowOf_map] at ho
  have hblk : ∀ q, CallBlocks v' (h.calls ++ [c]).length (fun i => ((rowOf h.calls V ++ [(c, vt, vs3)]).getD i (Cl.none, .slice none 0 0, .slice none 0 0)).2) q → CallBlocks vc h.calls.length V q ∨ w.heap.size ≤ q := fun q e => by
    rcases e with e | ⟨i, hi, e⟩
    · rcases hvn q e with x | x
      · exact .inl (.inl x)
      · exact .inr (by omega)
    · have hi' : i < (h.calls.length + 1) * 2 := by simpa using hi
      by_cases e1 : i < h.calls.length * 2
      · have hq2 : i / 2 < h.calls.length := by omega
        rw [lst_snoc_left (by rw [hl]; exact e1)] at e
        have : lst (fun i => ((rowOf h.calls V).getD i (Cl.none, .slice none 0 0, .slice none 0 0)).2) i = lst V i := by
          unfold lst
          simp only [rowOf_getD hq2]
        rw [this] at e
        exact .inl (.inr ⟨i, e1, e⟩)
      · have h2 : i = (rowOf h.calls V).length * 2 ∨ i = (rowOf h.calls V).length * 2 + 1 := by rw [hl]; omega
        rcases h2 with e2 | e2
        · rw [e2, lst_snoc_0] at e; exact .inr (ht.lt q e).1
        · rw [e2, lst_snoc_1] at e; exact .inr (hs.lt q e).1
  have hnb : ¬ CallBlocks v' (h.calls ++ [c]).length (fun i => ((rowOf h.calls V ++ [(c, vt, vs3)]).getD i (Cl.none, .slice none 0 0, .slice none 0 0)).2) bo := fun e => by
    rcases hblk bo e with x | x
    · exact hbc x
    · omega
  have hsb : vs.ownBlock ≠ some bo := fun e => k.nb (.inl e)
  have box4 : w4.rowIs bo 99 6 (six vp vc (.int .i64 h.now) (.int .i64 h.born) vs (.int .i64 h.code)) := k.box.of_block (hbl bo hbo (fun e => hbc (.inl e)))
  have s4 : PairRow B w4 vs h.said := k.own.s.kept (by omega) fun q e => hbl q (k.own.s.lt q e).2 (fun e2 => k.own.apart q e (.inl e2))
  have b5 := b4.setCell (p := ⟨bo, 1, none⟩) k.le v'
  refine ⟨⟨_, ⟨six_set1 box4 v', k.le, ⟨ho.kept (by simp [World.setCell]) (fun q e => Below.heap_setCell _ _ _ _ (fun e2 => hnb (by have e3 : q = bo := e2; rw [← e3]; exact e))), s4.set_other _ hsb, fun q e e2 => ?_⟩, fun e => ?_, fun q hq => ⟨(k.av q hq).1, by simp [World.setCell]; have := (k.av q hq).2.1; omega, fun e => ?_⟩, prog_later k.pr b5⟩⟩, b5, fun q hq => (Below.heap_setCell _ _ _ _ (fun e => (k.av q hq).1 e)).trans (hbl q (k.av q hq).2.1 (fun e => (k.av q hq).2.2 (.inr (.inl e))))⟩
  · rcases hblk q e2 with x | x
    · exact k.own.apart q e x
    · have := (k.own.s.lt q e).2; omega
  · rcases e with e | e
    · exact hsb e
    · exact hnb e
  · rcases e with e | e
    · exact (k.av q hq).2.2 (.inl e)
    · rcases hblk q e with x | x
      · exact (k.av q hq).2.2 (.inr x)
      · have := (k.av q hq).2.1; omega
end Go.Proofs.YtfpodljalccpnaaGreatDoor
