import Derived.Test.YthkjgfhheejaoaaGreatDoorVSpec
import Derived.Test.YthkjgfhheejaoaaGreatDoorTakes2
import Derived.Deep.QuietTactic
import Derived.Deep.RegionHeld3
import Derived.Test.YthkjgfhheejaoaaGreatDoorVSpec4
import Derived.Lib.SliceRun

/-
  What is seen of a heap, by the program: calls in the order in which they are come to (come, comeToVals, numberOf).
-/
namespace Go.Proofs.YthkjgfhheejaoaaGreatDoor
open Go.RowKit

/-- of each call its number in the order -/
def tabN (n : Nat) (ps : List Nat) : List Int := (List.range n).map fun (p : Nat) => numOf ps p

theorem tabN_len (n : Nat) (ps : List Nat) : (tabN n ps).length = n := by simp [tabN]
theorem tabN_at (n : Nat) (ps : List Nat) (p : Nat) (h : p < (tabN n ps).length) : (tabN n ps)[p] = numOf ps p := by simp [tabN]

theorem tabN_snoc {n : Nat} {ps : List Nat} {p : Nat} (hp : p < n) (h : numOf ps p = -1) : (tabN n ps).set p (ps.length : Int) = tabN n (ps ++ [p]) := by
  refine List.ext_getElem (by simp [tabN]) fun i h1 h2 => ?_
  rw [tabN_at, numOf_snoc h]
  by_cases e : i = p
  · subst e; simp
  · rw [List.getElem_set_ne (Ne.symm e), tabN_at, if_neg (by omega)]

/-- two cells in a row -/
def two (x0 x1 : Value) : Nat → Value := fun i => if i = 0 then x0 else x1
theorem two_new (w : World) (t : TypeId) (x0 x1 : Value) : (w.alloc (.cells #[x0, x1] t)).rowIs w.heap.size t 2 (two x0 x1) :=
  ⟨_, Go.Deep.blk_alloc_new _ _, rfl, fun i hi => by match i, hi with | 0, _ => rfl | 1, _ => rfl⟩
theorem two_cells {w : World} {g : Nat} {t : TypeId} {x0 x1 : Value} (h : w.rowIs g t 2 (two x0 x1)) : (w.cell? ⟨g, 0, none⟩ = some x0 ∧ w.cell? ⟨g, 1, none⟩ = some x1) ∧ (w.frozen? ⟨g, 0, none⟩ = false ∧ w.frozen? ⟨g, 1, none⟩ = false) :=
  ⟨⟨h.cell (i := 0) (by decide), h.cell (i := 1) (by decide)⟩, h.frozen 0, h.frozen 1⟩
theorem two_set0 {w : World} {g : Nat} {t : TypeId} {x0 x1 : Value} (h : w.rowIs g t 2 (two x0 x1)) (v : Value) : (w.setCell ⟨g, 0, none⟩ v).rowIs g t 2 (two v x1) :=
  (h.set 0 v).congr fun i hi => by match i, hi with | 0, _ => rfl | 1, _ => rfl

/-- what was done to it -/
structure Came (A : Nat → Prop) (B : Nat) (w w' : World) : Prop where
  b : Below B w w'
  a : ∀ g, A g → w'.heap[g]? = w.heap[g]?

theorem Came.refl (A : Nat → Prop) (B : Nat) (w : World) : Came A B w w := ⟨Below.refl _ _, fun _ _ => rfl⟩
theorem Came.trans {A : Nat → Prop} {B : Nat} {a b c : World} (h : Came A B a b) (k : Came A B b c) : Came A B a c :=
  ⟨h.b.trans k.b, fun g hg => (k.a g hg).trans (h.a g hg)⟩

theorem Came.drewN {A : Nat → Prop} {B : Nat} {w w' : World} (h : Came A B w w') (k : Nat) : Came A B w (w'.drewN k) := ⟨below_drewN h.b k, h.a⟩

end Go.Proofs.YthkjgfhheejaoaaGreatDoor

/-
  What is seen of a heap, by the program: comeToVals, numberOf.
-/
namespace Go.Proofs.YthkjgfhheejaoaaGreatDoor
open Go.RowKit

theorem Came.alloc {A : Nat → Prop} {B : Nat} {w w' : World} (h : Came A B w w') (hb : B ≤ w'.heap.size) (hA : ∀ g, A g → g < w'.heap.size) (o : Obj) : Came A B w (w'.alloc o) :=
  ⟨h.b.alloc hb o, fun g hg => (Below.heap_alloc _ _ _ (hA g hg)).trans (h.a g hg)⟩

end Go.Proofs.YthkjgfhheejaoaaGreatDoor

/-
  What is seen of a heap, by the program: slices.Clone of values, renumberedVals, renumbered.
-/
namespace Go.Proofs.YthkjgfhheejaoaaGreatDoor
open Go.RowKit

set_option maxRecDepth 100000 in
set_option maxHeartbeats 1000000 in
theorem clone_any (v : Value) (xs : List (Int × Int)) (w : World) (h : OpsAt w v xs) (hl : xs.length ≤ 1000) :
    Calls Tryz.prog 33 #[v] w fun e w' => ∃ v', e = .returned v' ∧ PairRow w.heap.size w' v' xs ∧ Below w.heap.size w w' := by
  obtain ⟨a, c, rfl, hlm, hc⟩ := id h
  have hnil : ∀ (W : World) (a : Option Addr) (n c : Nat), (binOp .eql 27 (.slice a n c) (.slice none 0 0)).run Tryz.prog W = .ok (.bool a.isNone) W := fun W a n c => Lib.run_eql_slice_nil W _ _ a n c 0 0 Tryz.underlying27
  cases a with
  | none =>
    have hx : xs = [] := by
      cases xs with
      | nil => rfl
      | cons y t => obtain ⟨b, o, e, _⟩ := hc 0 (by simp); cases e
    subst hx
    go_enter Tryz.func33, Tryz.ntmps33
    go_wp2
    go_ret
    exact ⟨_, rfl, PairRow.nil _ _, Below.refl _ _⟩
  | some ad =>
    have N1 := (Below.refl w.heap.size w).alloc (Nat.le_refl _) (.cells #[] 43)
    have mk := PairRow.made (B := w.heap.size) (w := w) (e := 43) (Nat.le_refl _)
    have h1 := h.below N1
    go_enter Tryz.func33, Tryz.ntmps33
    go_wp2_with (at_builtin; refine append_vals _ (by rfl) _ _ (by rfl) w.heap.size _ _ [] xs (by rfl) (by rfl) mk h1 (by simp; omega) N1.size ?_; intro v2 w2 hrow2 hg2 hb2; rw [List.nil_append] at hrow2)
    have B2 := N1.grown hg2 N1.size (fun q e => (mk.lt q e).1)
    clear hg2 hb2
    go_ret
    exact ⟨_, rfl, hrow2, B2⟩

/-- rows of values that begin inside their block: one number of an element is written -/
theorem PairRow.set1 {B : Nat} {w : World} {g off n cap : Nat} {xs : List (Int × Int)} (h : PairRow B w (.slice (some ⟨g, off, none⟩) n cap) xs) (i : Nat) (hi : i < xs.length) (y : Int) :
    PairRow B (w.setCell ⟨g, off + i * 2 + 1, none⟩ (.int .i64 y)) (.slice (some ⟨g, off, none⟩) n cap) (xs.set i (xs[i].1, y)) := by
  obtain ⟨⟨hc, hd⟩, _⟩ := h.cell hi
  rcases h with ⟨h, _⟩ | ⟨g', off', cap', hv, hB, hg, hl, hm, hsp, hx⟩
  · cases h
  · cases hv
    refine .inr ⟨g, off, cap, by simp, hB, by simp [World.setCell]; exact hg, by simpa using hl, hm, fun j hj => ?_, fun j hj => ?_⟩
    · rw [World.frozen?_setCell]
      refine ⟨?_, (hsp j hj).2⟩
      by_cases e : j = i * 2 + 1
      · subst e; rw [show off + (i * 2 + 1) = off + i * 2 + 1 by omega, World.cell?_setCell_same _ _ _ hd]; rfl
      · rw [World.cell?_setCell_other _ _ _ _ (fun q => by have := congrArg Addr.off q; simp at this; omega)]; exact (hsp j hj).1
    · rw [List.length_set] at hj
      by_cases e : j = i
      · subst e
        rw [List.getElem_set_self]
        refine ⟨?_, World.cell?_setCell_same _ _ _ hd⟩
        rw [World.cell?_setCell_other _ _ _ _ (fun q => by have := congrArg Addr.off q; simp at this)]; exact hc
      · rw [List.getElem_set_ne (Ne.symm e), World.cell?_setCell_other _ _ _ _ (fun q => by have := congrArg Addr.off q; simp at this; omega), World.cell?_setCell_other _ _ _ _ (fun q => by have := congrArg Addr.off q; simp at this; omega)]
        exact hx j hj

end Go.Proofs.YthkjgfhheejaoaaGreatDoor

/-
  What is seen of a heap, by the program: renumbered.
-/
namespace Go.Proofs.YthkjgfhheejaoaaGreatDoor
open Go.RowKit

end Go.Proofs.YthkjgfhheejaoaaGreatDoor
