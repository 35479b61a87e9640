/-
  A heap that toHeap has made lies in memory of its own.
-/
import Derived.Test.YtfpodljalccpnaaOwn
import Derived.Test.YtfpodljalccpnaaHCopy
import Derived.Test.YtfpodljalccpnaaRF

namespace Go.Proofs.Ytfpodljalccpnaa
open Go.RowKit
theorem pair_full {B g : Nat} {w : World} {ops : List (Int × Int)} (h : OpsAt w (full g ops.length) ops) (hB : B ≤ g) (hg : g < w.heap.size) (hnf : NF B w) : PairRow B w (full g ops.length) ops := by
  obtain ⟨a, cap, e, hl, hc⟩ := h
  have hx : ∀ i, (hi : i < ops.length) → w.cell? ⟨g, 0 + i * 2, none⟩ = some (.int .i64 ops[i].1) ∧ w.cell? ⟨g, 0 + i * 2 + 1, none⟩ = some (.int .i64 ops[i].2) := fun i hi => by
    obtain ⟨b, o, e2, c0, c1⟩ := hc i hi
    have e3 : some (⟨g, 0, none⟩ : Addr) = some ⟨b, o, none⟩ := by injection e with e1; rw [e1]; exact e2
    obtain ⟨rfl, rfl⟩ : g = b ∧ 0 = o := by simpa using e3
    exact ⟨c0, c1⟩
  refine .inr ⟨g, 0, ops.length, rfl, hB, hg, Nat.le_refl _, hl, fun i hi => ⟨?_, hnf g _ hB⟩, hx⟩
  have h2 := hx (i / 2) (by omega)
  rcases Nat.mod_two_eq_zero_or_one i with hm | hm
  · rw [show 0 + i / 2 * 2 = 0 + i by omega] at h2
    rw [h2.1]; rfl
  · rw [show 0 + i / 2 * 2 + 1 = 0 + i by omega] at h2
    rw [h2.2]; rfl
theorem NewHeap.own {B g sb : Nat} {w : World} {h : Hp} {G : Nat → Nat × Nat} (k : NewHeap g sb w h G) (hB : B ≤ g) (hnf : NF B w) (hl : h.calls.length ≤ maxLen) :
    OwnHeap B w (full g h.calls.length) (full sb h.said.length) h (fun i => (full (G i).1 (h.calls.getD i Cl.none).temps.length, full (G i).2 (h.calls.getD i Cl.none).stack.length)) := by
  have hget : ∀ i, (hi : i < h.calls.length) → h.calls.getD i Cl.none = h.calls[i] := fun i hi => by simp [hi]
  have hord : ∀ i, (hi : i < h.calls.length) → g < (G i).1 ∧ (G i).1 < (G i).2 ∧ (G i).2 < w.heap.size ∧ (∀ j, j < i → (G j).2 < (G i).1) := fun i hi => by
    obtain ⟨h1, h2, h3, _, _, h6⟩ := k.c.lists i hi hi
    exact ⟨h1, h2, h3, h6⟩
  have hblk : ∀ q, q < h.calls.length * 2 → ∀ x, (lst (fun i => (full (G i).1 (h.calls.getD i Cl.none).temps.length, full (G i).2 (h.calls.getD i Cl.none).stack.length)) q).ownBlock = some x → (q % 2 = 0 ∧ x = (G (q / 2)).1) ∨ (q % 2 = 1 ∧ x = (G (q / 2)).2) := fun q hq x e => by
    unfold lst at e
    split at e
    · rename_i hm
      simp [Value.ownBlock] at e
      exact .inl ⟨hm, e.symm⟩
    · rename_i hm
      simp [Value.ownBlock] at e
      exact .inr ⟨by omega, e.symm⟩
  refine ⟨⟨.inr ⟨g, 0, h.calls.length, rfl, hB, k.c.row.lt, Nat.le_refl _, hl, fun i hi => ⟨?_, hnf g _ hB⟩, fun i hi => ?_⟩, fun i hi => ?_, fun q hq x e => ?_⟩, pair_full k.sd (by have := k.gs; omega) k.sz hnf, fun x e e2 => ?_⟩
  · rw [Nat.zero_add, k.c.row.cell hi]; rfl
  · obtain ⟨e0, e1, e2, e3, e4, e5⟩ := clCell_at (G := G) hi
    have c0 := k.c.row.cell (i := i * 6) (by omega)
    have c1 := k.c.row.cell (i := i * 6 + 1) (by omega)
    have c2 := k.c.row.cell (i := i * 6 + 2) (by omega)
    have c3 := k.c.row.cell (i := i * 6 + 3) (by omega)
    have c4 := k.c.row.cell (i := i * 6 + 4) (by omega)
    have c5 := k.c.row.cell (i := i * 6 + 5) (by omega)
    rw [e0] at c0
    rw [e1] at c1
    rw [e2] at c2
    rw [e3] at c3
    rw [e4] at c4
    rw [e5] at c5
    rw [Nat.zero_add, hget i hi]
    exact ⟨c0, c1, c2, c3, c4, c5⟩
  · obtain ⟨h1, h2, h3, h4, h5, _⟩ := k.c.lists i hi hi
    rw [hget i hi]
    exact ⟨pair_full h4 (by omega) (by omega) hnf, pair_full h5 (by omega) (by omega) hnf⟩
  · have hi : q / 2 < h.calls.length := by omega
    obtain ⟨o1, o2, o3, o4⟩ := hord _ hi
    refine ⟨fun e2 => ?_, fun q' hq' hne e' => ?_⟩
    · simp [Value.ownBlock] at e2
      rcases hblk q hq x e with ⟨_, h2⟩ | ⟨_, h2⟩ <;> omega
    · have hi' : q' / 2 < h.calls.length := by omega
      obtain ⟨p1, p2, p3, p4⟩ := hord _ hi'
      have hc : q' / 2 = q / 2 ∨ q' / 2 < q / 2 ∨ q / 2 < q' / 2 := by omega
      rcases hc with hc | hc | hc
      · rcases hblk q hq x e with ⟨m1, m2⟩ | ⟨m1, m2⟩ <;> rcases hblk q' hq' x e' with ⟨n1, n2⟩ | ⟨n1, n2⟩ <;> (rw [hc] at n2; omega)
      · have := o4 _ hc
        rcases hblk q hq x e with ⟨m1, m2⟩ | ⟨m1, m2⟩ <;> rcases hblk q' hq' x e' with ⟨n1, n2⟩ | ⟨n1, n2⟩ <;> omega
      · have := p4 _ hc
        rcases hblk q hq x e with ⟨m1, m2⟩ | ⟨m1, m2⟩ <;> rcases hblk q' hq' x e' with ⟨n1, n2⟩ | ⟨n1, n2⟩ <;> omega
  · simp [Value.ownBlock] at e
    subst e
    rcases e2 with e2 | ⟨q, hq, e2⟩
    · simp [Value.ownBlock] at e2
      have := k.gs
      omega
    · have hi : q / 2 < h.calls.length := by omega
      have := k.ls _ hi
      obtain ⟨o1, o2, o3, o4⟩ := hord _ hi
      rcases hblk q hq _ e2 with ⟨_, h2⟩ | ⟨_, h2⟩ <;> omega
end Go.Proofs.Ytfpodljalccpnaa

/-
  What toProg and toHeap made stays while their blocks stay.
-/
namespace Go.Proofs.Ytfpodljalccpnaa
open Go.RowKit
theorem OpsAt.kept {B : Nat} {w w' : World} {v : Value} {ops : List (Int × Int)} (h : OpsAt w v ops) (ho : Own B v) (hr : ∀ r, B ≤ r → r < w.heap.size → w'.heap[r]? = w.heap[r]?) : OpsAt w' v ops := by
  obtain ⟨a, cap, hv, hl, hc⟩ := h
  refine ⟨a, cap, hv, hl, fun i hi => ?_⟩
  obtain ⟨b, o, ha, h0, h1⟩ := hc i hi
  obtain ⟨g, n, c, he, hg⟩ := ho
  have hb : b = g := by
    rw [hv, ha] at he
    injection he with e
    injection e with e
    injection e
  subst hb
  have hlt : b < w.heap.size := World.block_lt_of_cell? _ _ h0
  have hbk := hr b hg hlt
  exact ⟨b, o, ha, (World.cell?_of_block (a := ⟨b, o + i * 2, none⟩) hbk).trans h0, (World.cell?_of_block (a := ⟨b, o + i * 2 + 1, none⟩) hbk).trans h1⟩
theorem MethsNew.kept {B : Nat} {w w' : World} {v : Value} {ms : List (Int × Int × List (Int × Int))} (h : MethsNew B w v ms) (hr : ∀ r, B ≤ r → r < w.heap.size → w'.heap[r]? = w.heap[r]?) : MethsAt w' v ms := by
  obtain ⟨g, cap, hv, hg, hl, hc⟩ := h
  refine ⟨_, cap, hv, hl, fun i hi => ?_⟩
  obtain ⟨vo, h0, h1, h2, h3, h4⟩ := hc i hi
  have hlt : g < w.heap.size := World.block_lt_of_cell? _ _ h0
  have hbk := hr g hg hlt
  exact ⟨g, 0, vo, rfl, (World.cell?_of_block (a := ⟨g, 0 + i * 3, none⟩) hbk).trans h0, (World.cell?_of_block (a := ⟨g, 0 + i * 3 + 1, none⟩) hbk).trans h1, (World.cell?_of_block (a := ⟨g, 0 + i * 3 + 2, none⟩) hbk).trans h2, h3.kept h4 hr⟩
theorem NewHeap.kept {B g sb : Nat} {w w' : World} {h : Hp} {G : Nat → Nat × Nat} (k : NewHeap g sb w h G) (hB : B ≤ g) (hnf : NF B w) (hl : h.calls.length ≤ maxLen) (hs : w.heap.size ≤ w'.heap.size) (hr : ∀ r, B ≤ r → r < w.heap.size → w'.heap[r]? = w.heap[r]?) :
    HeapAt w' (full g h.calls.length) (full sb h.said.length) h :=
  ((k.own hB hnf hl).kept hs fun q hq => hr q ((k.own hB hnf hl).lt hq).1 ((k.own hB hnf hl).lt hq).2).at
theorem row_fiveX {w : World} {b : Nat} {T : TypeId} {x0 x1 x2 x3 x4 : Value} (h : w.rowIs b T 5 (fun j => [x0, x1, x2, x3, x4].getD j undef)) : w.rowIs b T 5 (five x0 x1 x2 x3 x4) := h.congr fun j hj => by
  have : j = 0 ∨ j = 1 ∨ j = 2 ∨ j = 3 ∨ j = 4 := by omega
  rcases this with rfl | rfl | rfl | rfl | rfl <;> rfl
structure HX where
  ac : Option Addr
  kc : Nat
  ad : Option Addr
  kd : Nat
end Go.Proofs.Ytfpodljalccpnaa
