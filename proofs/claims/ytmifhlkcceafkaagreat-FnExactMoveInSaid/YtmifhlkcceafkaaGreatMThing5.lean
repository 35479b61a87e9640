/-
  What the exact law of MachNew writes into its answer, and reads there again: markMach and heldMach, of a machine of which the first page has one frame, the others none, without twins.
-/
import Derived.Test.YtmifhlkcceafkaaGreatMNew
import Derived.Test.YtmifhlkcceafkaaGreatMarks
import Derived.Deep.DeepCutAuto
import Derived.Test.YtmifhlkcceafkaaGreatMNewS
import Derived.Test.YtmifhlkcceafkaaGreatMSame
import Derived.Test.YtmifhlkcceafkaaGreatMThing4
import Derived.Test.YtmifhlkcceafkaaGreatSize
import Derived.Test.YtmifhlkcceafkaaGreatCallRow
import Derived.Test.YtmifhlkcceafkaaGreatMRow
import Derived.Test.YtmifhlkcceafkaaGreatHImpl4
import Derived.Test.YtmifhlkcceafkaaGreatVImpl5

namespace Go.Proofs.YtmifhlkcceafkaaGreat
open Go.RowKit
def markI (k : Int) (n : Nat) : List Int := (List.range n).map fun i : Nat => k + (i : Int)
theorem markI_length (k : Int) (n : Nat) : (markI k n).length = n := by simp [markI]
theorem markI_at (k : Int) (n i : Nat) (h : i < (markI k n).length) : (markI k n)[i] = k + (i : Int) := by simp [markI]
set_option maxRecDepth 100000 in
set_option maxHeartbeats 1000000 in
theorem markIntS_any (B : Nat) (v : Value) (xs : List Int) (k : Int) (w : World) (h : IntRow B w v xs) (hx : xs.length ≤ 1049000) (hk0 : 0 ≤ k) (hk1 : k ≤ 1125899906842624) :
    Calls Tryz.prog 45 #[v, .int .i64 k] w fun e w' => e = .returned (.int .i64 (k + (xs.length : Int))) ∧ IntRow B w' v (markI k xs.length) ∧ Wr (fun g => v.ownBlock = some g) w w' := by
  obtain ⟨a, c, rfl, hl⟩ := h.slice
  unfold maxLen at hl
  go_enter Tryz.func45, Tryz.ntmps45
  go_wp2
  go_loopg [1, 5] xs.length (fun g kv i wr => ∃ (j : Nat) (ys : List Int), j ≤ xs.length ∧ g = xs.length - j ∧ i = .int .i64 j ∧ kv = .int .i64 (k + (j : Int)) ∧ ys.length = xs.length ∧ IntRow B wr (.slice a xs.length c) ys ∧ (∀ q, (hq : q < ys.length) → q < j → ys[q] = k + (q : Int)) ∧ Wr (fun g => (Value.slice a xs.length c).ownBlock = some g) w wr)
  case atStart => exact ⟨0, xs, Nat.zero_le _, rfl, rfl, by simp, rfl, h, fun q _ hq => absurd hq (Nat.not_lt_zero _), Wr.refl _ _⟩
  case round =>
    obtain ⟨j, ys, hj, rfl, rfl, rfl, hyl, hrow, hys, hg⟩ := hrel
    have HY : Hid (∀ q, (hq : q < ys.length) → q < j → ys[q] = k + (q : Int)) := hys
    clear hys
    by_cases hlt : j < xs.length
    · obtain ⟨g1, o1, c1, e1, _⟩ := hrow.form (by omega)
      obtain rfl : a = some ⟨g1, o1, none⟩ := by injection e1
      clear e1
      obtain ⟨d0, f0⟩ := hrow.cell (i := j) (by omega)
      have hset := hrow.set j (by omega) (k + (j : Int))
      have hjz : (j : Int) < (xs.length : Int) := by omega
      have hg2 : Wr (fun g => (Value.slice (some ⟨g1, o1, none⟩) xs.length c).ownBlock = some g) w (wr.setCell ⟨g1, o1 + j, none⟩ (.int .i64 (k + (j : Int)))) := hg.set (p := ⟨g1, o1 + j, none⟩) rfl _
      have hw1 : IntKind.i64.wrap (k + (j : Int) + 1) = k + (j : Int) + 1 := by rw [IntKind.wrap_i64]; omega
      clear hrow hg
      go_wp2
      go_roundg (xs.length - (j + 1))
      case measure => omega
      case rel => exact ⟨j + 1, ys.set j (k + (j : Int)), by omega, rfl, by go_num, by rw [show k + (j : Int) + 1 = k + ((j + 1 : Nat) : Int) by omega], by rw [List.length_set]; exact hyl, hset, fun q hq hqk => by
          rw [List.length_set] at hq
          by_cases e : q = j
          · subst e; simp
          · rw [List.getElem_set_ne (fun x => e x.symm)]; exact HY.out q hq (by omega), hg2⟩
    · obtain rfl : j = xs.length := by omega
      have hE : ys = markI k xs.length := List.ext_getElem (by rw [markI_length]; exact hyl) fun q h1 h2 => by rw [markI_at, HY.out q h1 (by omega)]
      subst hE
      go_wp2
      go_ret
      exact ⟨rfl, hrow, hg⟩
set_option maxRecDepth 100000 in
set_option maxHeartbeats 1000000 in
theorem heldIntS_any (v : Value) (n : Nat) (k : Int) (w : World) (h : IntsAt w v (markI k n)) (hx : n ≤ 1049000) (hk0 : 0 ≤ k) (hk1 : k ≤ 1125899906842624) :
    Calls Tryz.prog 48 #[v, .int .i64 k] w fun e w' => e = .returned (.int .i64 (k + (n : Int))) ∧ w' = w := by
  obtain ⟨a, c, rfl, hl, hc⟩ := h
  rw [markI_length] at hl ⊢
  go_enter Tryz.func48, Tryz.ntmps48
  go_wp2
  go_loopg [1, 5] n (fun g kv i wr => ∃ j : Nat, j ≤ n ∧ g = n - j ∧ i = .int .i64 j ∧ kv = .int .i64 (k + (j : Int)) ∧ wr = w)
  case atStart => exact ⟨0, Nat.zero_le _, rfl, rfl, by simp, rfl⟩
  case round =>
    obtain ⟨j, hj, rfl, rfl, rfl, hw⟩ := hrel
    subst hw
    by_cases hlt : j < n
    · obtain ⟨b, o, e1, d0⟩ := hc j (by rw [markI_length]; exact hlt)
      subst e1
      rw [markI_at] at d0
      have hjz : (j : Int) < (n : Int) := by omega
      have hw1 : IntKind.i64.wrap (k + (j : Int) + 1) = k + (j : Int) + 1 := by rw [IntKind.wrap_i64]; omega
      clear hc
      go_wp2
      go_roundg (n - (j + 1))
      case measure => omega
      case rel => exact ⟨j + 1, by omega, rfl, by go_num, by rw [show k + (j : Int) + 1 = k + ((j + 1 : Nat) : Int) by omega], rfl⟩
    · obtain rfl : j = n := by omega
      go_wp2
      go_ret
      exact ⟨rfl, rfl⟩
set_option maxRecDepth 100000 in
theorem markFrameS_nil (a : Option Addr) (c : Nat) (k : Int) (w : World) : Calls Tryz.prog 83 #[.slice a 0 c, .int .i64 k] w fun e w' => e = .returned (.int .i64 k) ∧ w' = w := by
  go_enter Tryz.func83, Tryz.ntmps83
  go_wp2
  go_loopg [1, 5] 0 (fun d kv i wr => kv = .int .i64 k ∧ i = .int .i64 0 ∧ wr = w)
  case atStart => exact ⟨rfl, rfl, rfl⟩
  case round =>
    obtain ⟨rfl, rfl, hw⟩ := hrel
    subst hw
    go_wp2
    go_ret
    exact ⟨rfl, rfl⟩
set_option maxRecDepth 100000 in
theorem heldFrameS_nil (a : Option Addr) (c : Nat) (k : Int) (w : World) : Calls Tryz.prog 84 #[.slice a 0 c, .int .i64 k] w fun e w' => e = .returned (.int .i64 k) ∧ w' = w := by
  go_enter Tryz.func84, Tryz.ntmps84
  go_wp2
  go_loopg [1, 5] 0 (fun d kv i wr => kv = .int .i64 k ∧ i = .int .i64 0 ∧ wr = w)
  case atStart => exact ⟨rfl, rfl, rfl⟩
  case round =>
    obtain ⟨rfl, rfl, hw⟩ := hrel
    subst hw
    go_wp2
    go_ret
    exact ⟨rfl, rfl⟩
set_option maxRecDepth 100000 in
theorem markTwinS_nil (a : Option Addr) (c : Nat) (k : Int) (w : World) : Calls Tryz.prog 46 #[.slice a 0 c, .int .i64 k] w fun e w' => e = .returned (.int .i64 k) ∧ w' = w := by
  go_enter Tryz.func46, Tryz.ntmps46
  go_wp2
  go_loopg [1, 5] 0 (fun d kv i wr => kv = .int .i64 k ∧ i = .int .i64 0 ∧ wr = w)
  case atStart => exact ⟨rfl, rfl, rfl⟩
  case round =>
    obtain ⟨rfl, rfl, hw⟩ := hrel
    subst hw
    go_wp2
    go_ret
    exact ⟨rfl, rfl⟩
set_option maxRecDepth 100000 in
theorem heldTwinS_nil (a : Option Addr) (c : Nat) (k : Int) (w : World) : Calls Tryz.prog 49 #[.slice a 0 c, .int .i64 k] w fun e w' => e = .returned (.int .i64 k) ∧ w' = w := by
  go_enter Tryz.func49, Tryz.ntmps49
  go_wp2
  go_loopg [1, 5] 0 (fun d kv i wr => kv = .int .i64 k ∧ i = .int .i64 0 ∧ wr = w)
  case atStart => exact ⟨rfl, rfl, rfl⟩
  case round =>
    obtain ⟨rfl, rfl, hw⟩ := hrel
    subst hw
    go_wp2
    go_ret
    exact ⟨rfl, rfl⟩
end Go.Proofs.YtmifhlkcceafkaaGreat

/-
  Pages in a row of cells: bases and frames, the first page alone with frames.
-/
namespace Go.Proofs.YtmifhlkcceafkaaGreat
open Go.RowKit
def rowF (f : Nat → Int) (vf : Value) (n : Nat) : List Value := (List.range n).flatMap fun i => [.int .i64 (f i), if i = 0 then vf else .slice none 0 0]
theorem rowF_succ (f : Nat → Int) (vf : Value) (n : Nat) : rowF f vf (n + 1) = rowF f vf n ++ [.int .i64 (f n), if n = 0 then vf else .slice none 0 0] := by simp [rowF, List.range_succ]
theorem rowF_length (f : Nat → Int) (vf : Value) : ∀ n, (rowF f vf n).length = n * 2
  | 0 => rfl
  | n + 1 => by rw [rowF_succ, List.length_append, rowF_length f vf n]; simp; omega
theorem rowF_at (f : Nat → Int) (vf : Value) : ∀ (n i : Nat), i < n → (rowF f vf n)[i * 2]? = some (.int .i64 (f i)) ∧ (rowF f vf n)[i * 2 + 1]? = some (if i = 0 then vf else .slice none 0 0)
  | 0, i, h => absurd h (Nat.not_lt_zero _)
  | n + 1, i, h => by
    rw [rowF_succ]
    by_cases e : i = n
    · subst e
      have hl := rowF_length f vf i
      refine ⟨?_, ?_⟩
      · rw [List.getElem?_append_right (by omega), hl]; simp
      · rw [List.getElem?_append_right (by omega), hl]; simp
    · have ih := rowF_at f vf n i (by omega)
      have hl := rowF_length f vf n
      rw [List.getElem?_append_left (by omega), List.getElem?_append_left (by omega)]
      exact ih
theorem two_ext {a b : List Value} {n : Nat} (ha : a.length = n * 2) (hb : b.length = n * 2) (h : ∀ i, i < n → a[i * 2]? = b[i * 2]? ∧ a[i * 2 + 1]? = b[i * 2 + 1]?) : a = b := by
  refine List.ext_getElem? fun j => ?_
  by_cases hj : j < n * 2
  · have e : j = (j / 2) * 2 ∨ j = (j / 2) * 2 + 1 := by omega
    rcases e with e | e
    · rw [e]; exact (h (j / 2) (by omega)).1
    · rw [e]; exact (h (j / 2) (by omega)).2
  · rw [List.getElem?_eq_none (by omega), List.getElem?_eq_none (by omega)]
theorem rowE_length (vf : Value) : ∀ n, (rowE vf n).length = n * 2
  | 0 => rfl
  | n + 1 => by rw [rowE_succ, List.length_append, rowE_length vf n]; simp; omega
theorem rowF_new (vf : Value) (n : Nat) (h : 1 ≤ n) : .int .i64 (-1) :: vf :: rowE (.slice none 0 0) (n - 1) = rowF (fun _ => -1) vf n := by
  refine two_ext (n := n) (by simp [rowE_length]; omega) (rowF_length _ _ _) fun j hj => ?_
  obtain ⟨b1, b2⟩ := rowF_at (fun _ => -1) vf n j hj
  cases j with
  | zero => exact ⟨b1.symm, b2.symm⟩
  | succ j =>
    have a := rowE_at (.slice none 0 0) (n - 1) j (by omega)
    rw [b1, b2, show (j + 1) * 2 = j * 2 + 1 + 1 by omega]
    exact ⟨a.1, a.2⟩
end Go.Proofs.YtmifhlkcceafkaaGreat

/-
  markMach and heldMach of what MachNew answers.
-/
namespace Go.Proofs.YtmifhlkcceafkaaGreat
open Go.RowKit
end Go.Proofs.YtmifhlkcceafkaaGreat

/-
  What MachNew answers, of the model and of the program: the machine that a program begins with, or nothing.
-/
namespace Go.Proofs.YtmifhlkcceafkaaGreat
open Go.RowKit
def zeroMc : Mc := ⟨0, [], [], 0, [], 0, [], 0⟩
theorem zero_at (w : World) : MachAt w (.slice none 0 0) (.slice none 0 0) (.slice none 0 0) (.slice none 0 0) zeroMc :=
  ⟨⟨none, 0, rfl, Nat.zero_le _, fun _ h => absurd h (Nat.not_lt_zero _)⟩, ⟨none, 0, rfl, Nat.zero_le _, fun _ h => absurd h (Nat.not_lt_zero _)⟩, TwinsAt.nil w, ops_nil w none 0⟩
theorem NewM.at {B : Nat} {w : World} {n t gp op cp gf : Nat} {vo vt : Value} {c : Int} (h : NewM B w n t (.slice (some ⟨gp, op, none⟩) n cp) vo gf vt (.slice none 0 0)) (hn1 : 1 ≤ n) (hn : n ≤ 4) : MachAt w (.slice (some ⟨gp, op, none⟩) n cp) vo (.slice none 0 0) (.slice none 0 0) (newMc n t c) := by
  have hpl : (newPages n t).length = n := by simp [newPages]
  refine ⟨⟨_, cp, by rw [show (newMc n t c).pages.length = n from hpl], by rw [show (newMc n t c).pages.length = n from hpl]; unfold maxLen; omega, fun i hi => ?_⟩, h.o.at, TwinsAt.nil w, ops_nil w none 0⟩
  have hin : i < n := by rw [← hpl]; exact hi
  have ev : (newMc n t c).pages[i] = ⟨-1, if i = 0 then [⟨0, 0, -1, List.replicate t (0, 0), []⟩] else []⟩ := by simp [newMc, newPages]
  rw [ev]
  have hp := h.p
  rw [rowF_new _ _ hn1] at hp
  obtain ⟨e0, e1⟩ := rowF_at (fun _ => -1) (.slice (some ⟨gf, 0, none⟩) 1 1) n i hin
  have c0 := (hp.cell e0).1
  have c1 := (hp.cell e1).1
  rw [← Nat.add_assoc] at c1
  refine ⟨gp, op, _, rfl, c0, c1, ?_⟩
  by_cases h0 : i = 0
  · simp only [if_pos h0]
    refine ⟨_, 1, rfl, by unfold maxLen; simp, fun j hj => ?_⟩
    obtain rfl : j = 0 := by simpa using hj
    exact ⟨gf, 0, vt, .slice none 0 0, rfl, h.f.cell 0 rfl, h.f.cell 1 rfl, h.f.cell 2 rfl, h.f.cell 3 rfl, h.f.cell 4 rfl, h.t.at, ops_nil w none 0⟩
  · simp only [if_neg h0]
    exact FramesAt.nil w
end Go.Proofs.YtmifhlkcceafkaaGreat

/-
  What the exact laws ask of an answer that is a machine: it is this one, it is marked in its own blocks alone, and what was marked is held.
-/
namespace Go.Proofs.YtmifhlkcceafkaaGreat
open Go.RowKit
structure IAns (B : Nat) (w : World) (M : Mc) (v1 v2 v3 v4 : Value) (Blk : Nat → Prop) (K : Int) (Mk : World → Prop) : Prop where
  lt : ∀ g, Blk g → B ≤ g ∧ g < w.heap.size
  stay : ∀ w', w.heap.size ≤ w'.heap.size → (∀ g, Blk g → w'.heap[g]? = w.heap[g]?) → MachAt w' v1 v2 v3 v4 M ∧
    Calls Tryz.prog 15 #[.agg (mcCells v1 v2 v3 v4 M).toArray, .int .i64 1] w' fun e w'' => e = .returned (.int .i64 K) ∧ Mk w'' ∧ Wr Blk w' w''
  go : ∀ w1 w2, Mk w1 → Below w1.heap.size w1 w2 → Mk w2
  held : ∀ w1, Mk w1 → Calls Tryz.prog 16 #[.agg (mcCells v1 v2 v3 v4 M).toArray, .int .i64 1] w1 fun e w'' => e = .returned (.int .i64 K) ∧ Below w1.heap.size w1 w''
  k0 : 0 ≤ K
set_option maxRecDepth 100000 in
theorem markPageS_nil (a : Option Addr) (c : Nat) (k : Int) (w : World) : Calls Tryz.prog 44 #[.slice a 0 c, .int .i64 k] w fun e w' => e = .returned (.int .i64 k) ∧ w' = w := by
  go_enter Tryz.func44, Tryz.ntmps44
  go_wp2
  go_loopg [1, 5] 0 (fun d kv i wr => kv = .int .i64 k ∧ i = .int .i64 0 ∧ wr = w)
  case atStart => exact ⟨rfl, rfl, rfl⟩
  case round =>
    obtain ⟨rfl, rfl, hw⟩ := hrel
    subst hw
    go_wp2
    go_ret
    exact ⟨rfl, rfl⟩
set_option maxRecDepth 100000 in
theorem heldPageS_nil (a : Option Addr) (c : Nat) (k : Int) (w : World) : Calls Tryz.prog 47 #[.slice a 0 c, .int .i64 k] w fun e w' => e = .returned (.int .i64 k) ∧ w' = w := by
  go_enter Tryz.func47, Tryz.ntmps47
  go_wp2
  go_loopg [1, 5] 0 (fun d kv i wr => kv = .int .i64 k ∧ i = .int .i64 0 ∧ wr = w)
  case atStart => exact ⟨rfl, rfl, rfl⟩
  case round =>
    obtain ⟨rfl, rfl, hw⟩ := hrel
    subst hw
    go_wp2
    go_ret
    exact ⟨rfl, rfl⟩
theorem Wr.no {w w' : World} {v : Value} (h : Wr (fun g => v.ownBlock = some g) w w') (hv : v.ownBlock = none) (T : Nat → Prop) : Wr T w w' := h.mono fun g e => by rw [hv] at e; cases e
set_option maxRecDepth 100000 in
set_option maxHeartbeats 2000000 in
theorem markMach_zero (w : World) : Calls Tryz.prog 15 #[.agg (mcCells (.slice none 0 0) (.slice none 0 0) (.slice none 0 0) (.slice none 0 0) zeroMc).toArray, .int .i64 1] w fun e w' => e = .returned (.int .i64 1) ∧ Wr (fun _ => False) w w' := by
  unfold mcCells zeroMc
  go_enter Tryz.func15, Tryz.ntmps15
  go_upto_region 1 with fail
  refine wp_gen (fun W => Below w.heap.size w W ∧ Bx W w.heap.size 36 [.int .i64 0, .slice none 0 0, .slice none 0 0, .int .i64 0, .slice none 0 0, .int .i64 0, .slice none 0 0, .int .i64 0]) ⟨(Below.refl _ _).alloc (Nat.le_refl _) _, Bx.new w _ _⟩ ?_
  rintro W0 ⟨B0, x0⟩
  obtain ⟨⟨_, p1, p2, _, p4, _, p6, _⟩, _⟩ := bx8 x0
  go_wp2_with fail
  refine (markPageS_nil _ _ _ _).mono ?_
  rintro e W1 ⟨rfl, hw⟩
  obtain rfl := hw.symm
  clear hw
  go_wp2_with fail
  refine (markIntS_any 0 _ [] _ _ (IntRow.nil _ _) (by simp) (by omega) (by omega)).mono ?_
  rintro e W2 ⟨rfl, _, w2⟩
  have HW2 : Hid (Wr (fun _ => False) w W2) := (Wr.of_below B0).trans (w2.no rfl _)
  have x2 := w2.bx x0 (fun e => by simp [Value.ownBlock] at e)
  clear w2 x0 B0 p1 p2 p4 p6
  obtain ⟨⟨_, p1, p2, _, p4, _, p6, _⟩, _⟩ := bx8 x2
  go_wp2_with fail
  refine (markTwinS_nil _ _ _ _).mono ?_
  rintro e W3 ⟨rfl, hw⟩
  obtain rfl := hw.symm
  clear hw
  go_wp2_with fail
  refine (markValS_any 0 _ [] _ _ (PairRow.nil _ _) (by simp) (by simp) (by simp)).mono ?_
  rintro e W4 ⟨rfl, _, w4⟩
  have HW4 : Hid (Wr (fun _ => False) w W4) := HW2.out.trans (w4.no rfl _)
  go_wp2
  go_ret
  exact ⟨by simp, HW4.out⟩
set_option maxRecDepth 100000 in
set_option maxHeartbeats 2000000 in
theorem heldMach_zero (w : World) : Calls Tryz.prog 16 #[.agg (mcCells (.slice none 0 0) (.slice none 0 0) (.slice none 0 0) (.slice none 0 0) zeroMc).toArray, .int .i64 1] w fun e w' => e = .returned (.int .i64 1) ∧ Below w.heap.size w w' := by
  unfold mcCells zeroMc
  go_enter Tryz.func16, Tryz.ntmps16
  go_upto_region 1 with fail
  refine wp_gen (fun W => Below w.heap.size w W ∧ Bx W w.heap.size 36 [.int .i64 0, .slice none 0 0, .slice none 0 0, .int .i64 0, .slice none 0 0, .int .i64 0, .slice none 0 0, .int .i64 0]) ⟨(Below.refl _ _).alloc (Nat.le_refl _) _, Bx.new w _ _⟩ ?_
  rintro W0 ⟨B0, x0⟩
  obtain ⟨⟨_, p1, p2, _, p4, _, p6, _⟩, _⟩ := bx8 x0
  go_wp2_with fail
  refine (heldPageS_nil _ _ _ _).mono ?_
  rintro e W1 ⟨rfl, hw⟩
  obtain rfl := hw.symm
  clear hw
  go_wp2_with fail
  refine (heldIntS_any _ 0 _ _ (IntRow.nil 0 _).at (by omega) (by omega) (by omega)).mono ?_
  rintro e W2 ⟨rfl, hw⟩
  obtain rfl := hw.symm
  clear hw
  go_wp2_with fail
  refine (heldTwinS_nil _ _ _ _).mono ?_
  rintro e W3 ⟨rfl, hw⟩
  obtain rfl := hw.symm
  clear hw
  go_wp2_with fail
  refine (heldValS_any _ 0 _ _ (PairRow.nil 0 _).at (by omega) (by simp) (by simp)).mono ?_
  rintro e W4 ⟨rfl, hw⟩
  obtain rfl := hw.symm
  clear hw
  go_wp2
  go_ret
  exact ⟨by simp, B0⟩
theorem zero_ans (B : Nat) (w : World) : IAns B w zeroMc (.slice none 0 0) (.slice none 0 0) (.slice none 0 0) (.slice none 0 0) (fun _ => False) 1 (fun _ => True) :=
  ⟨fun _ h => h.elim, fun w' _ _ => ⟨zero_at w', (markMach_zero w').mono fun _ _ h => ⟨h.1, trivial, h.2⟩⟩, fun _ _ _ _ => trivial, fun w1 _ => heldMach_zero w1, by omega⟩
end Go.Proofs.YtmifhlkcceafkaaGreat

/-
  Calls of a machine as things of their own: the row that grows, call by call.
-/
namespace Go.Proofs.YtmifhlkcceafkaaGreat
open Go.RowKit
end Go.Proofs.YtmifhlkcceafkaaGreat

/-
  Calls of a machine as things of their own: thingsOf. (Written by mkmt6.py.)
-/
namespace Go.Proofs.YtmifhlkcceafkaaGreat
open Go.RowKit
end Go.Proofs.YtmifhlkcceafkaaGreat

/-
  The program's MachOk, whole. (Written by mkmo6.py.)
-/
namespace Go.Proofs.YtmifhlkcceafkaaGreat
open Go.RowKit
theorem quiet_of_same {P : Program} {f : FuncId} {args : Array Value} {X : Value} {W : World} (h : ∀ w, Calls P f args w fun e w' => e = .returned X ∧ w' = w) : ∀ w, Gr W w → Calls P f args w fun e w'' => e = .returned X ∧ Gr W w'' :=
  fun w hw => (h w).mono fun _ _ ⟨he, hb⟩ => ⟨he, hb ▸ hw⟩
end Go.Proofs.YtmifhlkcceafkaaGreat

/-
  The program's MachView of a machine all of which tells of what is there: callsAreThere, pageToldIsThere, twinToldIsThere, toldIsThere answer true. (Written by mktd.py.)
-/
namespace Go.Proofs.YtmifhlkcceafkaaGreat
open Go.RowKit
end Go.Proofs.YtmifhlkcceafkaaGreat

/-
  Plain facts of the machine that a program begins with: it is ok, all that it tells of is there, and its calls as things of their own are the heap that the program begins with.
-/
namespace Go.Proofs.YtmifhlkcceafkaaGreat
open Go.RowKit
end Go.Proofs.YtmifhlkcceafkaaGreat

/-
  The program's MachView and MachTwins. (Written by mkmv.py.)
-/
namespace Go.Proofs.YtmifhlkcceafkaaGreat
open Go.RowKit
end Go.Proofs.YtmifhlkcceafkaaGreat
