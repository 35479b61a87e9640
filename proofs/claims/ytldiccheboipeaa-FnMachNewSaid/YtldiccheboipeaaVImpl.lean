/-
  What is seen of a heap, by the program: calls in the order in which they are come to (come, comeToVals, numberOf).
-/
import Derived.Test.YtldiccheboipeaaView1
import Derived.Test.YtldiccheboipeaaImplOk
import Derived.Test.YtldiccheboipeaaVSpec
import Derived.Deep.QuietTactic
import Derived.Deep.RegionHeld3
namespace Go.Proofs.Ytldiccheboipeaa
open Go.RowKit

/-- of each call its number in the order -/
def tabN (n : Nat) (ps : List Nat) : List Int := (List.range n).map fun (p : Nat) => numOf ps p

theorem tabN_len (n : Nat) (ps : List Nat) : (tabN n ps).length = n := by simp [tabN]
theorem tabN_at (n : Nat) (ps : List Nat) (p : Nat) (h : p < (tabN n ps).length) : (tabN n ps)[p] = numOf ps p := by simp [tabN]

theorem tabN_snoc {n : Nat} {ps : List Nat} {p : Nat} (hp : p < n) (h : numOf ps p = -1) : (tabN n ps).set p (ps.length : Int) = tabN n (ps ++ [p]) := by
  refine List.ext_getElem (by simp [tabN]) fun i h1 h2 => ?_
  rw [tabN_at, numOf_snoc h]
  by_cases e : i = p
  · subst e; simp
  · rw [List.getElem_set_ne (Ne.symm e), tabN_at, if_neg (by omega)]

/-- two cells in a row -/
def two (x0 x1 : Value) : Nat → Value := fun i => if i = 0 then x0 else x1
theorem two_new (w : World) (t : TypeId) (x0 x1 : Value) : (w.alloc (.cells #[x0, x1] t)).rowIs w.heap.size t 2 (two x0 x1) :=
  ⟨_, Go.Deep.blk_alloc_new _ _, rfl, fun i hi => by match i, hi with | 0, _ => rfl | 1, _ => rfl⟩
theorem two_cells {w : World} {g : Nat} {t : TypeId} {x0 x1 : Value} (h : w.rowIs g t 2 (two x0 x1)) : (w.cell? ⟨g, 0, none⟩ = some x0 ∧ w.cell? ⟨g, 1, none⟩ = some x1) ∧ (w.frozen? ⟨g, 0, none⟩ = false ∧ w.frozen? ⟨g, 1, none⟩ = false) :=
  ⟨⟨h.cell (i := 0) (by decide), h.cell (i := 1) (by decide)⟩, h.frozen 0, h.frozen 1⟩
theorem two_set0 {w : World} {g : Nat} {t : TypeId} {x0 x1 : Value} (h : w.rowIs g t 2 (two x0 x1)) (v : Value) : (w.setCell ⟨g, 0, none⟩ v).rowIs g t 2 (two v x1) :=
  (h.set 0 v).congr fun i hi => by match i, hi with | 0, _ => rfl | 1, _ => rfl

/-- the order in memory of its own, from block B on: its box at block bo, its two rows in others; none of them a block of A -/
structure Ord (A : Nat → Prop) (B bo n : Nat) (ps : List Nat) (vp vn : Value) (w : World) : Prop where
  le : B ≤ bo
  box : w.rowIs bo 99 2 (two vp vn)
  p : IntRow B w vp (nums ps)
  n : IntRow B w vn (tabN n ps)
  pb : vp.ownBlock ≠ some bo
  nb : vn.ownBlock ≠ some bo
  pn : ∀ g, vp.ownBlock = some g → vn.ownBlock ≠ some g
  av : ∀ g, A g → g ≠ bo ∧ g < w.heap.size ∧ vp.ownBlock ≠ some g ∧ vn.ownBlock ≠ some g

/-- what was done to it -/
structure Came (A : Nat → Prop) (B : Nat) (w w' : World) : Prop where
  b : Below B w w'
  a : ∀ g, A g → w'.heap[g]? = w.heap[g]?

theorem Came.refl (A : Nat → Prop) (B : Nat) (w : World) : Came A B w w := ⟨Below.refl _ _, fun _ _ => rfl⟩
theorem Came.trans {A : Nat → Prop} {B : Nat} {a b c : World} (h : Came A B a b) (k : Came A B b c) : Came A B a c :=
  ⟨h.b.trans k.b, fun g hg => (k.a g hg).trans (h.a g hg)⟩

theorem Ord.drewN {A : Nat → Prop} {B bo n : Nat} {ps : List Nat} {vp vn : Value} {w : World} (h : Ord A B bo n ps vp vn w) (k : Nat) : Ord A B bo n ps vp vn (w.drewN k) := ⟨h.le, h.box, h.p, h.n, h.pb, h.nb, h.pn, h.av⟩
theorem Came.drewN {A : Nat → Prop} {B : Nat} {w w' : World} (h : Came A B w w') (k : Nat) : Came A B w (w'.drewN k) := ⟨below_drewN h.b k, h.a⟩

set_option maxRecDepth 100000 in
set_option maxHeartbeats 2000000 in
theorem come_any (A : Nat → Prop) (B bo n : Nat) (ps : List Nat) (vp vn : Value) (p : Int) (w : World) (h : Ord A B bo n ps vp vn w) (hps : PsOk n ps) (hn : n ≤ 1000) :
    Calls Try.prog 103 #[.pointer (some ⟨bo, 0, none⟩), .int .i64 p] w fun e w' => e = .returned (.tuple #[]) ∧ (∃ vp', Ord A B bo n (comeP n ps p) vp' vn w') ∧ Came A B w w' := by
  obtain ⟨ap, cp, hvp, _⟩ := h.p.slice
  obtain ⟨an, cn, hvn, _⟩ := h.n.slice
  rw [nums_len] at hvp
  rw [tabN_len] at hvn
  subst hvp hvn
  have hpl := hps.len
  obtain ⟨⟨x0, x1⟩, f0, f1⟩ := two_cells h.box
  by_cases hI : inR p 0 ((n : Int) - 1) = false
  · have hE : Hid (comeP n ps p = ps) := comeP_out (fun e => by have : inR p 0 ((n : Int) - 1) = true := inR_true.2 (by omega); rw [hI] at this; cases this)
    go_enter Try.func103, Try.ntmps103
    go_wp2_with (go_at_call 56; refine (isPlace_any _ _ _).mono ?_; rintro e w' ⟨rfl, hw⟩; obtain rfl := hw.symm; rw [hI])
    go_end0
    exact ⟨rfl, ⟨_, by rw [hE.out]; exact h⟩, Came.refl _ _ _⟩
  have hI' : inR p 0 ((n : Int) - 1) = true := by simpa using hI
  clear hI
  have hI2 := inR_true.1 hI'
  obtain ⟨k, rfl⟩ := Int.eq_ofNat_of_zero_le hI2.1
  have hk : k < n := by omega
  have hkz : (k : Int) < (n : Int) := by omega
  obtain ⟨gn, on, c1, e1, hgB, hgn⟩ := h.n.form (by rw [tabN_len]; omega)
  obtain rfl : an = some ⟨gn, on, none⟩ := by injection e1
  clear e1
  obtain ⟨d1, fd⟩ := h.n.cell (i := k) (by rw [tabN_len]; exact hk)
  rw [tabN_at] at d1
  by_cases hN : numOf ps k = -1
  · rw [hN] at d1
    have hE : Hid (comeP n ps k = ps ++ [k]) := comeP_yes hk hN
    have hset := h.n.set k (by rw [tabN_len]; exact hk) (ps.length : Int)
    rw [tabN_snoc hk hN] at hset
    have hpo := h.pn
    have hbn : bo ≠ gn := fun e => h.nb (by rw [e]; rfl)
    have HPB : Hid ((Value.slice ap ps.length cp).ownBlock ≠ some bo) := h.pb
    have hle := h.le
    have hp2 := h.p.set_other (p := ⟨gn, on + k, none⟩) (.int .i64 (ps.length : Int)) (fun e => hpo _ e rfl)
    have hbx2 : (w.setCell ⟨gn, on + k, none⟩ (.int .i64 (ps.length : Int))).rowIs bo 99 2 (two (.slice ap ps.length cp) (.slice (some ⟨gn, on, none⟩) n cn)) := h.box.of_block (Below.heap_setCell _ _ _ _ hbn)
    have HAV : Hid (∀ g, A g → g ≠ bo ∧ g < w.heap.size ∧ (Value.slice ap ps.length cp).ownBlock ≠ some g ∧ (Value.slice (some ⟨gn, on, none⟩) n cn).ownBlock ≠ some g) := h.av
    have C2 : Came A B w (w.setCell ⟨gn, on + k, none⟩ (.int .i64 (ps.length : Int))) := ⟨(Below.refl B w).setCell (p := ⟨gn, on + k, none⟩) hgB _, fun g hg => Below.heap_setCell _ _ _ _ (fun e => (h.av g hg).2.2.2 (by rw [e]; rfl))⟩
    have hz2 : (w.setCell ⟨gn, on + k, none⟩ (.int .i64 (ps.length : Int))).heap.size = w.heap.size := by simp [World.setCell]
    go_enter Try.func103, Try.ntmps103
    go_upto_region 1 with (go_at_call 56; refine (isPlace_any _ _ _).mono ?_; rintro e w' ⟨rfl, hw⟩; obtain rfl := hw.symm; rw [hI'])
    obtain ⟨⟨y0, y1⟩, g0, g1⟩ := two_cells hbx2
    go_region_held3 (fun w' => w'.cell? ⟨bo, 0, none⟩ = some (.slice ap ps.length cp) ∧ w'.cell? ⟨bo, 1, none⟩ = some (.slice (some ⟨gn, on, none⟩) n cn))
      (first | exact ⟨y0, y1⟩ | exact ⟨x0, x1⟩ | go_keep)
      (fail)
    have hset3 := hset.below (Below.refl _ _).drew
    have hp3 := hp2.below (Below.refl _ _).drew
    have hbx3 := row_below (Below.refl _ _).drew hbx2
    have C3 : Came A B w (w.setCell ⟨gn, on + k, none⟩ (.int .i64 (ps.length : Int))).drew := ⟨C2.b.drew, C2.a⟩
    have hz3 : (w.setCell ⟨gn, on + k, none⟩ (.int .i64 (ps.length : Int))).drew.heap.size ≥ w.heap.size := Nat.le_of_eq hz2.symm
    have HBO : Hid (bo < w.heap.size) := h.box.lt
    clear hset hp2 hbx2 C2 hz2 y0 y1 g0 g1 x0 x1 f0 f1 d1 fd h
    generalize (w.setCell ⟨gn, on + k, none⟩ (.int .i64 (ps.length : Int))).drew = w3 at *
    obtain ⟨⟨x0, x1⟩, f0, f1⟩ := two_cells hbx3
    have hbo := HBO.out
    go_wp2_with (at_builtin; refine append_i _ (by rfl) _ _ (by rfl) B _ (nums ps) (by rfl) hp3 (k : Int) _ _ rfl (by rfl) (by rw [nums_len]; omega) (by omega) ?_; intro g4 o4 c4 w4 hrow4 hg4 hb4 hlt4; have hbx4 := hbx3.of_block (hg4.block bo hbx3.lt (fun e => HPB.out e.symm)); obtain ⟨⟨q0, q1⟩, m0, m1⟩ := two_cells hbx4)
    have hz4 := hg4.size
    have hbg : g4 ≠ bo := fun e => by
      rcases hb4 with h4 | h4
      · exact HPB.out (by rw [h4, e])
      · omega
    rw [nums_snoc, ← hE.out] at hrow4
    have hset4 := hset3.kept hg4.size fun q e => hg4.block q (hset3.lt q e).2 (fun e2 => hpo q e2.symm e)
    refine bodyPost_end (results_none rfl _ _ _) rfl ⟨rfl, ⟨_, ⟨hle, two_set0 hbx4 _, hrow4.set_other _ (fun e => by simp [Value.ownBlock] at e; omega), ?_, fun e => by simp [Value.ownBlock] at e; omega, fun e => by simp [Value.ownBlock] at e; omega, fun q e e2 => ?_, fun q hq => ?_⟩⟩, ⟨?_, fun q hq => ?_⟩⟩
    · rw [← hE.out] at hset4
      exact hset4.set_other _ (fun e => by simp [Value.ownBlock] at e; omega)
    · simp [Value.ownBlock] at e e2
      subst e e2
      rcases hb4 with h4 | h4
      · exact hpo _ h4 rfl
      · omega
    · obtain ⟨a1, a2, a3, a4⟩ := HAV.out q hq
      refine ⟨a1, by simp [World.setCell]; omega, fun e => ?_, a4⟩
      simp [Value.ownBlock] at e
      subst e
      rcases hb4 with h4 | h4
      · exact a3 h4
      · omega
    · exact (C3.b.grown hg4 (by omega) (fun q e => (hp3.lt q e).1)).setCell (p := ⟨bo, 0, none⟩) hle _
    · obtain ⟨a1, a2, a3, a4⟩ := HAV.out q hq
      rw [Below.heap_setCell _ _ _ _ a1, hg4.block q (by omega) (fun e => a3 e.symm)]
      exact C3.a q hq
  · have hE : Hid (comeP n ps k = ps) := comeP_in hN
    go_enter Try.func103, Try.ntmps103
    go_wp2_with (go_at_call 56; refine (isPlace_any _ _ _).mono ?_; rintro e w' ⟨rfl, hw⟩; obtain rfl := hw.symm; rw [hI'])
    go_end0
    exact ⟨rfl, ⟨_, by rw [hE.out]; exact h⟩, Came.refl _ _ _⟩

end Go.Proofs.Ytldiccheboipeaa
