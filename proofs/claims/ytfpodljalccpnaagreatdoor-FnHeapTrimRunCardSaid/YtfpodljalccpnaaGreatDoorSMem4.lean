/-
  A heap at work, in memory of its own: a value is put to a call's. Nothing of the translation is used here but the number of its type.
-/
import Derived.Test.YtfpodljalccpnaaGreatDoorSMem3
import Derived.Test.YtfpodljalccpnaaGreatDoorHImpl4

namespace Go.Proofs.YtfpodljalccpnaaGreatDoor
open Go.RowKit
theorem SM.push {A : Nat → Prop} {B : Nat} {w W0 w2 : World} {bo : Nat} {vp vs : Value} {g off n cap : Nat} {ms : List (Int × Int × List (Int × Int))} {h : Hp} {V : Nat → Value × Value} (k : SM A B w bo vp (.slice (some ⟨g, off, none⟩) n cap) vs ms h V) {j : Nat} (hj : j < h.calls.length) {v' : Value} {st : List (Int × Int)} (hB : B ≤ w.heap.size)
    (hW : Below w.heap.size w W0) (hg : W0.grownBy w2 (V j).2.ownBlock) (hr : PairRow B w2 v' st) (hv : v'.ownBlock = (V j).2.ownBlock ∨ v'.ownBlock = some W0.heap.size) :
    (∃ V', SM A B (w2.setCell ⟨g, off + j * 6 + 3, none⟩ v') bo vp (.slice (some ⟨g, off, none⟩) n cap) vs ms { h with calls := h.calls.set j { h.calls[j] with stack := st } } V') ∧ Cm A B w (w2.setCell ⟨g, off + j * 6 + 3, none⟩ v') := by
  have hz0 := hW.size
  have hz2 := hg.size
  have hgB := (k.own.c.lt (g := g) (.inl rfl)).1
  have hs := (k.own.c.lists j hj).2
  have hbl : ∀ q, q < w.heap.size → (V j).2.ownBlock ≠ some q → w2.heap[q]? = w.heap[q]? := fun q hq hn => (hg.block q (by omega) (fun e => hn e.symm)).trans (hW.block q hq)
  have b2 : Below B w w2 := ⟨hg.os.trans hW.os, hg.tape.trans hW.tape, hg.output.trans hW.output, by omega, fun q hq => hbl q (by omega) (fun e => by have := (hs.lt q e).1; omega)⟩
  have b3 := b2.setCell (p := ⟨g, off + j * 6 + 3, none⟩) hgB v'
  have r := k.put hj (put_stack k.own.c hj v' st (by omega) hbl hr (fun q e => by
    rcases hv with x | x
    · exact .inl (by rw [← x]; exact e)
    · rw [x] at e; cases e; exact .inr hz0)) b3
  exact ⟨⟨_, r.1⟩, r.2⟩
theorem pushH_eq {h : Hp} {j : Nat} (hn : h.now = j) (hj : j < h.calls.length) (x : Int × Int) : pushH h x = { h with calls := h.calls.set j { h.calls[j] with stack := h.calls[j].stack ++ [x] } } := by
  have e : h.now.toNat = j := by omega
  unfold pushH setH
  rw [cur_at hn hj, e]
theorem setH_eq {h : Hp} {j : Nat} (hn : h.now = j) (c : Cl) : setH h c = { h with calls := h.calls.set j c } := by
  have e : h.now.toNat = j := by omega
  unfold setH
  rw [e]
end Go.Proofs.YtfpodljalccpnaaGreatDoor
