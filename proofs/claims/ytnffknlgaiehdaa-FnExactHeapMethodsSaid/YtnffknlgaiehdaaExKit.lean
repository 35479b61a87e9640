/-
  What toProg and toHeap made stays while their blocks stay.
-/
import Derived.Test.YtnffknlgaiehdaaRF
import Derived.Test.YtnffknlgaiehdaaOwnNew
namespace Go.Proofs.Ytnffknlgaiehdaa
open Go.RowKit

theorem OpsAt.kept {B : Nat} {w w' : World} {v : Value} {ops : List (Int × Int)} (h : OpsAt w v ops) (ho : Own B v) (hr : ∀ r, B ≤ r → r < w.heap.size → w'.heap[r]? = w.heap[r]?) : OpsAt w' v ops := by
  obtain ⟨a, cap, hv, hl, hc⟩ := h
  refine ⟨a, cap, hv, hl, fun i hi => ?_⟩
  obtain ⟨b, o, ha, h0, h1⟩ := hc i hi
  obtain ⟨g, n, c, he, hg⟩ := ho
  have hb : b = g := by
    rw [hv, ha] at he
    injection he with e
    injection e with e
    injection e
  subst hb
  have hlt : b < w.heap.size := World.block_lt_of_cell? _ _ h0
  have hbk := hr b hg hlt
  exact ⟨b, o, ha, (World.cell?_of_block (a := ⟨b, o + i * 2, none⟩) hbk).trans h0, (World.cell?_of_block (a := ⟨b, o + i * 2 + 1, none⟩) hbk).trans h1⟩

theorem MethsNew.kept {B : Nat} {w w' : World} {v : Value} {ms : List (Int × Int × List (Int × Int))} (h : MethsNew B w v ms) (hr : ∀ r, B ≤ r → r < w.heap.size → w'.heap[r]? = w.heap[r]?) : MethsAt w' v ms := by
  obtain ⟨g, cap, hv, hg, hl, hc⟩ := h
  refine ⟨_, cap, hv, hl, fun i hi => ?_⟩
  obtain ⟨vo, h0, h1, h2, h3, h4⟩ := hc i hi
  have hlt : g < w.heap.size := World.block_lt_of_cell? _ _ h0
  have hbk := hr g hg hlt
  exact ⟨g, 0, vo, rfl, (World.cell?_of_block (a := ⟨g, 0 + i * 3, none⟩) hbk).trans h0, (World.cell?_of_block (a := ⟨g, 0 + i * 3 + 1, none⟩) hbk).trans h1, (World.cell?_of_block (a := ⟨g, 0 + i * 3 + 2, none⟩) hbk).trans h2, h3.kept h4 hr⟩

theorem NewHeap.kept {B g sb : Nat} {w w' : World} {h : Hp} {G : Nat → Nat × Nat} (k : NewHeap g sb w h G) (hB : B ≤ g) (hnf : NF B w) (hl : h.calls.length ≤ maxLen) (hs : w.heap.size ≤ w'.heap.size) (hr : ∀ r, B ≤ r → r < w.heap.size → w'.heap[r]? = w.heap[r]?) :
    HeapAt w' (full g h.calls.length) (full sb h.said.length) h :=
  ((k.own hB hnf hl).kept hs fun q hq => hr q ((k.own hB hnf hl).lt hq).1 ((k.own hB hnf hl).lt hq).2).at

end Go.Proofs.Ytnffknlgaiehdaa
