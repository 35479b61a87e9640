/-
  What is seen of a heap, by the model: l11Has, l11Refs, l11Found, l11Names, l11Copy.
-/
import Derived.Test.YtfpodljalccpnaaGreatDoorStepS
import Derived.Test.YtfpodljalccpnaaGreatDoorSMem
import Derived.Deep.RegionHeld3
import Derived.Test.YtfpodljalccpnaaGreatDoorSpecOk
import Derived.Deep.QuietTactic
import Derived.Lib.SliceRun
import Derived.Test.YtfpodljalccpnaaGreatDoorDeep

namespace Go.Proofs.YtfpodljalccpnaaGreatDoor
open Go.RowKit
end Go.Proofs.YtfpodljalccpnaaGreatDoor

/-
  What is seen of a heap, by the program: calls in the order in which they are come to (come, comeToVals, numberOf).
-/
namespace Go.Proofs.YtfpodljalccpnaaGreatDoor
open Go.RowKit
def tabN (n : Nat) (ps : List Nat) : List Int := (List.range n).map fun (p : Nat) => numOf ps p
def two (x0 x1 : Value) : Nat → Value := fun i => if i = 0 then x0 else x1
theorem two_new (w : World) (t : TypeId) (x0 x1 : Value) : (w.alloc (.cells #[x0, x1] t)).rowIs w.heap.size t 2 (two x0 x1) :=
  ⟨_, Go.Deep.blk_alloc_new _ _, rfl, fun i hi => by match i, hi with | 0, _ => rfl | 1, _ => rfl⟩
theorem two_cells {w : World} {g : Nat} {t : TypeId} {x0 x1 : Value} (h : w.rowIs g t 2 (two x0 x1)) : (w.cell? ⟨g, 0, none⟩ = some x0 ∧ w.cell? ⟨g, 1, none⟩ = some x1) ∧ (w.frozen? ⟨g, 0, none⟩ = false ∧ w.frozen? ⟨g, 1, none⟩ = false) :=
  ⟨⟨h.cell (i := 0) (by decide), h.cell (i := 1) (by decide)⟩, h.frozen 0, h.frozen 1⟩
theorem two_set0 {w : World} {g : Nat} {t : TypeId} {x0 x1 : Value} (h : w.rowIs g t 2 (two x0 x1)) (v : Value) : (w.setCell ⟨g, 0, none⟩ v).rowIs g t 2 (two v x1) :=
  (h.set 0 v).congr fun i hi => by match i, hi with | 0, _ => rfl | 1, _ => rfl
structure Ord (A : Nat → Prop) (B bo n : Nat) (ps : List Nat) (vp vn : Value) (w : World) : Prop where
  le : B ≤ bo
  box : w.rowIs bo 94 2 (two vp vn)
  p : IntRow B w vp (nums ps)
  n : IntRow B w vn (tabN n ps)
  pb : vp.ownBlock ≠ some bo
  nb : vn.ownBlock ≠ some bo
  pn : ∀ g, vp.ownBlock = some g → vn.ownBlock ≠ some g
  av : ∀ g, A g → g ≠ bo ∧ g < w.heap.size ∧ vp.ownBlock ≠ some g ∧ vn.ownBlock ≠ some g
structure Came (A : Nat → Prop) (B : Nat) (w w' : World) : Prop where
  b : Below B w w'
  a : ∀ g, A g → w'.heap[g]? = w.heap[g]?
theorem Came.refl (A : Nat → Prop) (B : Nat) (w : World) : Came A B w w := ⟨Below.refl _ _, fun _ _ => rfl⟩
theorem Came.trans {A : Nat → Prop} {B : Nat} {a b c : World} (h : Came A B a b) (k : Came A B b c) : Came A B a c :=
  ⟨h.b.trans k.b, fun g hg => (k.a g hg).trans (h.a g hg)⟩
end Go.Proofs.YtfpodljalccpnaaGreatDoor

/-
  What is seen of a heap, by the program: comeToVals, numberOf.
-/
namespace Go.Proofs.YtfpodljalccpnaaGreatDoor
open Go.RowKit
theorem Ord.alloc {A : Nat → Prop} {B bo n : Nat} {ps : List Nat} {vp vn : Value} {w : World} (h : Ord A B bo n ps vp vn w) (o : Obj) : Ord A B bo n ps vp vn (w.alloc o) :=
  have hb := (Below.refl w.heap.size w).alloc (Nat.le_refl _) o
  ⟨h.le, row_below hb h.box, h.p.below hb, h.n.below hb, h.pb, h.nb, h.pn, fun g hg => ⟨(h.av g hg).1, by have := (h.av g hg).2.1; simp; omega, (h.av g hg).2.2⟩⟩
theorem Came.alloc {A : Nat → Prop} {B : Nat} {w w' : World} (h : Came A B w w') (hb : B ≤ w'.heap.size) (hA : ∀ g, A g → g < w'.heap.size) (o : Obj) : Came A B w (w'.alloc o) :=
  ⟨h.b.alloc hb o, fun g hg => (Below.heap_alloc _ _ _ (hA g hg)).trans (h.a g hg)⟩
end Go.Proofs.YtfpodljalccpnaaGreatDoor

/-
  What is seen of a heap, by the model: l11Names, l11Copy.
-/
namespace Go.Proofs.YtfpodljalccpnaaGreatDoor
open Go.RowKit
end Go.Proofs.YtfpodljalccpnaaGreatDoor

/-
  What is seen of a heap, by the program: slices.Clone of values, renumberedVals, renumbered.
-/
namespace Go.Proofs.YtfpodljalccpnaaGreatDoor
open Go.RowKit
set_option maxRecDepth 100000 in
set_option maxHeartbeats 1000000 in
theorem clone_any (v : Value) (xs : List (Int × Int)) (w : World) (h : OpsAt w v xs) (hl : xs.length ≤ 1000) :
    Calls Tryz.prog 56 #[v] w fun e w' => ∃ v', e = .returned v' ∧ PairRow w.heap.size w' v' xs ∧ Below w.heap.size w w' := by
  obtain ⟨a, c, rfl, hlm, hc⟩ := id h
  have hnil : ∀ (W : World) (a : Option Addr) (n c : Nat), (binOp .eql 27 (.slice a n c) (.slice none 0 0)).run Tryz.prog W = .ok (.bool a.isNone) W := fun W a n c => Lib.run_eql_slice_nil W _ _ a n c 0 0 Tryz.underlying27
  cases a with
  | none =>
    have hx : xs = [] := by
      cases xs with
      | nil => rfl
      | cons y t => obtain ⟨b, o, e, _⟩ := hc 0 (by simp); cases e
    subst hx
    go_enter Tryz.func56, Tryz.ntmps56
    go_wp2
    go_ret
    exact ⟨_, rfl, PairRow.nil _ _, Below.refl _ _⟩
  | some ad =>
    have N1 := (Below.refl w.heap.size w).alloc (Nat.le_refl _) (.cells #[] 51)
    have mk := PairRow.made (B := w.heap.size) (w := w) (e := 51) (Nat.le_refl _)
    have h1 := h.below N1
    go_enter Tryz.func56, Tryz.ntmps56
    go_wp2_with (at_builtin; refine append_vals _ (by rfl) _ _ (by rfl) w.heap.size _ _ [] xs (by rfl) (by rfl) mk h1 (by simp; omega) N1.size ?_; intro v2 w2 hrow2 hg2 hb2; rw [List.nil_append] at hrow2)
    have B2 := N1.grown hg2 N1.size (fun q e => (mk.lt q e).1)
    clear hg2 hb2
    go_ret
    exact ⟨_, rfl, hrow2, B2⟩
theorem Ord.below {A : Nat → Prop} {B bo n : Nat} {ps : List Nat} {vp vn : Value} {w w' : World} (h : Ord A B bo n ps vp vn w) (hb : Below w.heap.size w w') : Ord A B bo n ps vp vn w' :=
  ⟨h.le, row_below hb h.box, h.p.below hb, h.n.below hb, h.pb, h.nb, h.pn, fun g hg => ⟨(h.av g hg).1, Nat.lt_of_lt_of_le (h.av g hg).2.1 hb.size, (h.av g hg).2.2⟩⟩
theorem Ord.set {A : Nat → Prop} {B bo n : Nat} {ps : List Nat} {vp vn : Value} {w : World} (h : Ord A B bo n ps vp vn w) {p : Addr} (u : Value) (h1 : bo ≠ p.block) (h2 : vp.ownBlock ≠ some p.block) (h3 : vn.ownBlock ≠ some p.block) : Ord A B bo n ps vp vn (w.setCell p u) :=
  ⟨h.le, h.box.of_block (Below.heap_setCell _ _ _ _ h1), h.p.set_other u h2, h.n.set_other u h3, h.pb, h.nb, h.pn, fun g hg => ⟨(h.av g hg).1, by simp [World.setCell]; exact (h.av g hg).2.1, (h.av g hg).2.2⟩⟩
end Go.Proofs.YtfpodljalccpnaaGreatDoor

/-
  A piece of a row of values; one operation of a heap, case by case.
-/
namespace Go.Proofs.YtfpodljalccpnaaGreatDoor
open Go.RowKit
theorem box_row (w : World) (t : TypeId) (x : Value) : (w.alloc (.cells #[x] t)).rowIs w.heap.size t 1 (fun _ => x) :=
  ⟨_, Go.Deep.blk_alloc_new _ _, rfl, fun i hi => by match i, hi with | 0, _ => rfl⟩
theorem setH_now {h : Hp} {j : Nat} (hn : h.now = j) (c : Cl) : setH h c = { h with calls := h.calls.set j c } := by
  unfold setH
  rw [hn, Int.toNat_natCast]
theorem val_from (w : World) (a : Option Addr) (n cap k : Nat) (hk : k ≤ n) : (Instr.slice 27 (.slice a n cap) (some (.int .i64 (k : Int))) none none).run Tryz.prog w = .ok (sliced a k n cap 2) w := by
  have hs : ∀ w, (sizeOf (Tryz.prog.elem 27)).run Tryz.prog w = .ok 2 w := fun w => by kernel_rfl
  rw [run_slice_l w 27 a n cap (by kernel_rfl) .i64 k (by omega) (by omega)]
  simp [hs, Result.andThen]
theorem val_to (w : World) (a : Option Addr) (n cap k : Nat) (hk : k ≤ cap) : (Instr.slice 27 (.slice a n cap) none (some (.int .i64 (k : Int))) none).run Tryz.prog w = .ok (sliced a 0 k cap 2) w := by
  have hs : ∀ w, (sizeOf (Tryz.prog.elem 27)).run Tryz.prog w = .ok 2 w := fun w => by kernel_rfl
  rw [run_slice_h w 27 a n cap (by kernel_rfl) .i64 k (by omega) (by omega)]
  simp [hs, Result.andThen]
theorem PairRow.piece {B : Nat} {w : World} {a : Option Addr} {n cap : Nat} {xs : List (Int × Int)} (h : PairRow B w (.slice a n cap) xs) {l k : Nat} (hl : l ≤ k) (hk : k ≤ xs.length) : OpsAt w (sliced a l k cap 2) ((xs.take k).drop l) ∧ k ≤ cap := by
  rcases h with ⟨h0, rfl⟩ | ⟨g, off, cp, hv, hB, hg, hlc, hc, hsp, hx⟩
  · injection h0 with e1 e2 e3
    subst e1 e2 e3
    obtain rfl : k = 0 := by simpa using hk
    obtain rfl : l = 0 := by omega
    exact ⟨⟨_, _, rfl, by simp, fun i hi => absurd hi (by simp)⟩, Nat.le_refl _⟩
  · injection hv with e1 e2 e3
    subst e1 e2 e3
    refine ⟨?_, by omega⟩
    have hlen : ((xs.take k).drop l).length = k - l := by simp; omega
    by_cases e : l = cap
    · have hkl : k - l = 0 := by omega
      have hn : (xs.take k).drop l = [] := List.eq_nil_of_length_eq_zero (by omega)
      rw [hn]
      unfold sliced
      exact ⟨_, _, by rw [List.length_nil, ← hkl], by simp, fun i hi => absurd hi (by simp)⟩
    · unfold sliced
      refine ⟨_, _, by rw [hlen], by rw [hlen]; unfold maxLen at *; omega, fun i hi => ?_⟩
      rw [hlen] at hi
      have hi2 : l + i < xs.length := by omega
      obtain ⟨y0, y1⟩ := hx (l + i) hi2
      refine ⟨g, off + l * 2, ?_, ?_, ?_⟩
      · rw [if_neg (by omega)]
        simp [Addr.add]
      · rw [show off + l * 2 + i * 2 = off + (l + i) * 2 by omega, y0]
        simp
      · rw [show off + l * 2 + i * 2 + 1 = off + (l + i) * 2 + 1 by omega, y1]
        simp
theorem PairRow.cutTo {B : Nat} {w : World} {a : Option Addr} {n cap : Nat} {xs : List (Int × Int)} (h : PairRow B w (.slice a n cap) xs) {k : Nat} (hk : k ≤ xs.length) : PairRow B w (.slice a k cap) (xs.take k) := by
  rcases h with ⟨h0, rfl⟩ | ⟨g, off, cp, hv, hB, hg, hlc, hc, hsp, hx⟩
  · injection h0 with e1 e2 e3
    subst e1 e2 e3
    obtain rfl : k = 0 := by simpa using hk
    exact .inl ⟨rfl, by simp⟩
  · injection hv with e1 e2 e3
    subst e1 e2 e3
    have hl : (xs.take k).length = k := by simp; omega
    refine .inr ⟨g, off, cap, by rw [hl], hB, hg, by omega, hc, hsp, fun i hi => ?_⟩
    have hi' : i < xs.length := by omega
    rw [List.getElem_take]
    exact hx i hi'
theorem takes_bound {ms : Ms} (hp : progOk ms = true) (kk a : Int) : (0 ≤ (takesOf ms kk a).1 ∧ (takesOf ms kk a).1 ≤ 2) ∧ 0 ≤ (takesOf ms kk a).2 ∧ (takesOf ms kk a).2 ≤ 1 := by
  unfold takesOf
  split
  · split
    · rename_i q
      rw [inR_true] at q
      have hq : a.toNat < ms.length := by omega
      rw [getD_at hq]
      have := (prog_meth hp hq).args
      simp only []
      omega
    · decide
  · simp only []
    unfold tk lv
    refine ⟨?_, ?_⟩
    · split
      · decide
      · split <;> decide
    · split <;> decide
theorem stepH_past {ms : Ms} {h : Hp} {j m pc : Nat} (hn : h.now = j) (hj : j < h.calls.length) (hm : h.calls[j].m = m) (hpc : h.calls[j].pc = pc) (hml : m < ms.length) (hl : ms[m].2.2.length ≤ pc) : stepH ms h = { h with code := 2 } := by
  unfold stepH
  simp only [cur_at hn hj, hm, hpc, Int.toNat_natCast, getD_at hml]
  rw [if_pos (by omega)]
  rfl
theorem opNext_at {ms : Ms} {h : Hp} {j m pc : Nat} (hj : j < h.calls.length) (hm : h.calls[j].m = m) (hpc : h.calls[j].pc = pc) (hml : m < ms.length) (hpl : pc < ms[m].2.2.length) : opNext ms h.calls[j] = ms[m].2.2[pc] := by
  unfold opNext
  rw [hm, hpc, Int.toNat_natCast, Int.toNat_natCast, getD_at hml, getD_at hpl]
theorem stepH_at {ms : Ms} {h : Hp} {j m pc : Nat} (hn : h.now = j) (hj : j < h.calls.length) (hm : h.calls[j].m = m) (hpc : h.calls[j].pc = pc) (hml : m < ms.length) (hpl : pc < ms[m].2.2.length) {kk a t l : Int} (ho : ms[m].2.2[pc] = (kk, a)) (ht : takesOf ms kk a = (t, l)) :
    stepH ms h = if (h.calls[j].stack.length : Int) - t < 0 ∨ 6 < (h.calls[j].stack.length : Int) - t + l then { h with code := 2 }
      else if kindsOk kk (h.calls[j].stack.drop ((h.calls[j].stack.length : Int) - t).toNat) = false then { h with code := 2 }
      else doH ms { h with calls := h.calls.set j { h.calls[j] with stack := h.calls[j].stack.take ((h.calls[j].stack.length : Int) - t).toNat, pc := (pc : Int) + 1 } } kk a (h.calls[j].stack.drop ((h.calls[j].stack.length : Int) - t).toNat) := by
  unfold stepH
  simp only [cur_at hn hj, opNext_at hj hm hpc hml hpl, ho, ht]
  rw [hm, Int.toNat_natCast, getD_at hml, if_neg (by rw [hpc]; omega), setH_now hn, hpc]
  rfl
theorem doing_at {ms : Ms} {h : Hp} {j m pc : Nat} (hg : Good ms h) (hc : h.code = 0) (hn : h.now = j) (hj : j < h.calls.length) (hm : h.calls[j].m = m) (hpc : h.calls[j].pc = pc) (hml : m < ms.length) (hpl : pc < ms[m].2.2.length) {kk a t l : Int} (ho : ms[m].2.2[pc] = (kk, a)) (ht : takesOf ms kk a = (t, l))
    (h2 : ¬ ((h.calls[j].stack.length : Int) - t < 0 ∨ 6 < (h.calls[j].stack.length : Int) - t + l)) (h3 : kindsOk kk (h.calls[j].stack.drop ((h.calls[j].stack.length : Int) - t).toNat) = true) :
    Doing ms { h with calls := h.calls.set j { h.calls[j] with stack := h.calls[j].stack.take ((h.calls[j].stack.length : Int) - t).toNat, pc := (pc : Int) + 1 } } j kk a (h.calls[j].stack.drop ((h.calls[j].stack.length : Int) - t).toNat) := by
  have h1 : ¬ ((ms.getD (curC h).m.toNat (0, 0, [])).2.2.length : Int) ≤ (curC h).pc := by
    rw [cur_at hn hj, hm, Int.toNat_natCast, getD_at hml, hpc]
    omega
  have e : opNext ms (curC h) = (kk, a) := by rw [cur_at hn hj, opNext_at hj hm hpc hml hpl, ho]
  obtain ⟨j', d⟩ := hg.doing hc h1 (by rw [e]; simp only []; rw [ht, cur_at hn hj]; exact h2) (by rw [e]; simp only []; rw [ht, cur_at hn hj]; exact h3)
  rw [e] at d
  simp only [] at d
  rw [ht, cur_at hn hj, setH_now hn, hpc] at d
  have hjj : j' = j := by have := d.now; simp only [] at this; omega
  subst hjj
  exact d
end Go.Proofs.YtfpodljalccpnaaGreatDoor
