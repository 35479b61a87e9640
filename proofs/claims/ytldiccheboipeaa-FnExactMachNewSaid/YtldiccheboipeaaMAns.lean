/-
  What the exact laws ask of an answer that is a machine: it is this one, it is marked in its own blocks alone, and what was marked is held.
-/
import Derived.Test.YtldiccheboipeaaMMark2
import Derived.Test.YtldiccheboipeaaMNewS
import Derived.Test.YtldiccheboipeaaMSame
namespace Go.Proofs.Ytldiccheboipeaa
open Go.RowKit

structure IAns (B : Nat) (w : World) (M : Mc) (v1 v2 v3 v4 : Value) (Blk : Nat → Prop) (K : Int) (Mk : World → Prop) : Prop where
  lt : ∀ g, Blk g → B ≤ g ∧ g < w.heap.size
  stay : ∀ w', w.heap.size ≤ w'.heap.size → (∀ g, Blk g → w'.heap[g]? = w.heap[g]?) → MachAt w' v1 v2 v3 v4 M ∧
    Calls Try.prog 25 #[.agg (mcCells v1 v2 v3 v4 M).toArray, .int .i64 1] w' fun e w'' => e = .returned (.int .i64 K) ∧ Mk w'' ∧ Wr Blk w' w''
  go : ∀ w1 w2, Mk w1 → Below w1.heap.size w1 w2 → Mk w2
  held : ∀ w1, Mk w1 → Calls Try.prog 26 #[.agg (mcCells v1 v2 v3 v4 M).toArray, .int .i64 1] w1 fun e w'' => e = .returned (.int .i64 K) ∧ Below w1.heap.size w1 w''
  k0 : 0 ≤ K

def zeroMc : Mc := ⟨0, [], [], 0, [], 0, [], 0⟩

theorem zero_at (w : World) : MachAt w (.slice none 0 0) (.slice none 0 0) (.slice none 0 0) (.slice none 0 0) zeroMc :=
  ⟨⟨none, 0, rfl, Nat.zero_le _, fun _ h => absurd h (Nat.not_lt_zero _)⟩, ⟨none, 0, rfl, Nat.zero_le _, fun _ h => absurd h (Nat.not_lt_zero _)⟩, TwinsAt.nil w, ops_nil w none 0⟩

set_option maxRecDepth 100000 in
theorem markPageS_nil (a : Option Addr) (c : Nat) (k : Int) (w : World) : Calls Try.prog 66 #[.slice a 0 c, .int .i64 k] w fun e w' => e = .returned (.int .i64 k) ∧ w' = w := by
  go_enter Try.func66, Try.ntmps66
  go_wp2
  go_loopg [1, 5] 0 (fun d kv i wr => kv = .int .i64 k ∧ i = .int .i64 0 ∧ wr = w)
  case atStart => exact ⟨rfl, rfl, rfl⟩
  case round =>
    obtain ⟨rfl, rfl, hw⟩ := hrel
    subst hw
    go_wp2
    go_ret
    exact ⟨rfl, rfl⟩
set_option maxRecDepth 100000 in
theorem heldPageS_nil (a : Option Addr) (c : Nat) (k : Int) (w : World) : Calls Try.prog 70 #[.slice a 0 c, .int .i64 k] w fun e w' => e = .returned (.int .i64 k) ∧ w' = w := by
  go_enter Try.func70, Try.ntmps70
  go_wp2
  go_loopg [1, 5] 0 (fun d kv i wr => kv = .int .i64 k ∧ i = .int .i64 0 ∧ wr = w)
  case atStart => exact ⟨rfl, rfl, rfl⟩
  case round =>
    obtain ⟨rfl, rfl, hw⟩ := hrel
    subst hw
    go_wp2
    go_ret
    exact ⟨rfl, rfl⟩

theorem Wr.no {w w' : World} {v : Value} (h : Wr (fun g => v.ownBlock = some g) w w') (hv : v.ownBlock = none) (T : Nat → Prop) : Wr T w w' := h.mono fun g e => by rw [hv] at e; cases e
theorem Wr.none_below {w w' : World} (h : Wr (fun _ => False) w w') : Below w.heap.size w w' := ⟨h.os, h.tape, h.output, h.size, fun k hk => h.block k hk id⟩

set_option maxRecDepth 100000 in
set_option maxHeartbeats 2000000 in
theorem markMach_zero (w : World) : Calls Try.prog 25 #[.agg (mcCells (.slice none 0 0) (.slice none 0 0) (.slice none 0 0) (.slice none 0 0) zeroMc).toArray, .int .i64 1] w fun e w' => e = .returned (.int .i64 1) ∧ Wr (fun _ => False) w w' := by
  unfold mcCells zeroMc
  go_enter Try.func25, Try.ntmps25
  go_upto_region 1 with fail
  refine wp_gen (fun W => Below w.heap.size w W ∧ Bx W w.heap.size 33 [.int .i64 0, .slice none 0 0, .slice none 0 0, .int .i64 0, .slice none 0 0, .int .i64 0, .slice none 0 0, .int .i64 0]) ⟨(Below.refl _ _).alloc (Nat.le_refl _) _, Bx.new w _ _⟩ ?_
  rintro W0 ⟨B0, x0⟩
  obtain ⟨⟨_, p1, p2, _, p4, _, p6, _⟩, _⟩ := bx8 x0
  go_wp2_with fail
  refine (markPageS_nil _ _ _ _).mono ?_
  rintro e W1 ⟨rfl, hw⟩
  obtain rfl := hw.symm
  clear hw
  go_wp2_with fail
  refine (markIntS_any 0 _ [] _ _ (IntRow.nil _ _) (by simp) (by omega) (by omega)).mono ?_
  rintro e W2 ⟨rfl, _, w2⟩
  have HW2 : Hid (Wr (fun _ => False) w W2) := (Wr.of_below B0).trans (w2.no rfl _)
  have x2 := w2.bx x0 (fun e => by simp [Value.ownBlock] at e)
  clear w2 x0 B0 p1 p2 p4 p6
  obtain ⟨⟨_, p1, p2, _, p4, _, p6, _⟩, _⟩ := bx8 x2
  go_wp2_with fail
  refine (markTwinS_nil _ _ _ _).mono ?_
  rintro e W3 ⟨rfl, hw⟩
  obtain rfl := hw.symm
  clear hw
  go_wp2_with fail
  refine (markValS_any 0 _ [] _ _ (PairRow.nil _ _) (by simp) (by simp) (by simp)).mono ?_
  rintro e W4 ⟨rfl, _, w4⟩
  have HW4 : Hid (Wr (fun _ => False) w W4) := HW2.out.trans (w4.no rfl _)
  go_wp2
  go_ret
  exact ⟨by simp, HW4.out⟩

set_option maxRecDepth 100000 in
set_option maxHeartbeats 2000000 in
theorem heldMach_zero (w : World) : Calls Try.prog 26 #[.agg (mcCells (.slice none 0 0) (.slice none 0 0) (.slice none 0 0) (.slice none 0 0) zeroMc).toArray, .int .i64 1] w fun e w' => e = .returned (.int .i64 1) ∧ Below w.heap.size w w' := by
  unfold mcCells zeroMc
  go_enter Try.func26, Try.ntmps26
  go_upto_region 1 with fail
  refine wp_gen (fun W => Below w.heap.size w W ∧ Bx W w.heap.size 33 [.int .i64 0, .slice none 0 0, .slice none 0 0, .int .i64 0, .slice none 0 0, .int .i64 0, .slice none 0 0, .int .i64 0]) ⟨(Below.refl _ _).alloc (Nat.le_refl _) _, Bx.new w _ _⟩ ?_
  rintro W0 ⟨B0, x0⟩
  obtain ⟨⟨_, p1, p2, _, p4, _, p6, _⟩, _⟩ := bx8 x0
  go_wp2_with fail
  refine (heldPageS_nil _ _ _ _).mono ?_
  rintro e W1 ⟨rfl, hw⟩
  obtain rfl := hw.symm
  clear hw
  go_wp2_with fail
  refine (heldIntS_any _ 0 _ _ (IntRow.nil 0 _).at (by omega) (by omega) (by omega)).mono ?_
  rintro e W2 ⟨rfl, hw⟩
  obtain rfl := hw.symm
  clear hw
  go_wp2_with fail
  refine (heldTwinS_nil _ _ _ _).mono ?_
  rintro e W3 ⟨rfl, hw⟩
  obtain rfl := hw.symm
  clear hw
  go_wp2_with fail
  refine (heldValS_any _ 0 _ _ (PairRow.nil 0 _).at (by omega) (by simp) (by simp)).mono ?_
  rintro e W4 ⟨rfl, hw⟩
  obtain rfl := hw.symm
  clear hw
  go_wp2
  go_ret
  exact ⟨by simp, B0⟩

theorem zero_ans (B : Nat) (w : World) : IAns B w zeroMc (.slice none 0 0) (.slice none 0 0) (.slice none 0 0) (.slice none 0 0) (fun _ => False) 1 (fun _ => True) :=
  ⟨fun _ h => h.elim, fun w' _ _ => ⟨zero_at w', (markMach_zero w').mono fun _ _ h => ⟨h.1, trivial, h.2⟩⟩, fun _ _ _ _ => trivial, fun w1 _ => heldMach_zero w1, by omega⟩

theorem NewM.kept {B : Nat} {w w' : World} {n t gp op cp gf : Nat} {vo vt : Value} (h : NewM B w n t (.slice (some ⟨gp, op, none⟩) n cp) vo gf vt (.slice none 0 0)) (hs : w.heap.size ≤ w'.heap.size) (hb : ∀ g, NewBlocks gp gf vt vo g → w'.heap[g]? = w.heap[g]?) :
    NewM B w' n t (.slice (some ⟨gp, op, none⟩) n cp) vo gf vt (.slice none 0 0) :=
  ⟨h.p.kept hs fun g e => hb g (.inl (by have h9 : gp = g := by { injection e }; exact h9.symm)), h.f.kept (hb gf (.inr (.inl rfl))), h.t.kept hs fun g e => hb g (.inr (.inr (.inl e))), PairRow.nil _ _, h.o.kept hs fun g e => hb g (.inr (.inr (.inr e))), h.low, h.a1, h.a2, h.a3, h.a4, h.a5, h.a6, rfl⟩

theorem NewM.at {B : Nat} {w : World} {n t gp op cp gf : Nat} {vo vt : Value} {c : Int} (h : NewM B w n t (.slice (some ⟨gp, op, none⟩) n cp) vo gf vt (.slice none 0 0)) (hn1 : 1 ≤ n) (hn : n ≤ 4) : MachAt w (.slice (some ⟨gp, op, none⟩) n cp) vo (.slice none 0 0) (.slice none 0 0) (newMc n t c) := by
  have hpl : (newPages n t).length = n := by simp [newPages]
  refine ⟨⟨_, cp, by rw [show (newMc n t c).pages.length = n from hpl], by rw [show (newMc n t c).pages.length = n from hpl]; unfold maxLen; omega, fun i hi => ?_⟩, h.o.at, TwinsAt.nil w, ops_nil w none 0⟩
  have hin : i < n := by rw [← hpl]; exact hi
  have ev : (newMc n t c).pages[i] = ⟨-1, if i = 0 then [⟨0, 0, -1, List.replicate t (0, 0), []⟩] else []⟩ := by simp [newMc, newPages]
  rw [ev]
  have hp := h.p
  rw [rowF_new _ _ hn1] at hp
  obtain ⟨e0, e1⟩ := rowF_at (fun _ => -1) (.slice (some ⟨gf, 0, none⟩) 1 1) n i hin
  have c0 := (hp.cell e0).1
  have c1 := (hp.cell e1).1
  rw [← Nat.add_assoc] at c1
  refine ⟨gp, op, _, rfl, c0, c1, ?_⟩
  by_cases h0 : i = 0
  · simp only [if_pos h0]
    refine ⟨_, 1, rfl, by unfold maxLen; simp, fun j hj => ?_⟩
    obtain rfl : j = 0 := by simpa using hj
    exact ⟨gf, 0, vt, .slice none 0 0, rfl, h.f.cell 0 rfl, h.f.cell 1 rfl, h.f.cell 2 rfl, h.f.cell 3 rfl, h.f.cell 4 rfl, h.t.at, ops_nil w none 0⟩
  · simp only [if_neg h0]
    exact FramesAt.nil w

theorem new_ans {B : Nat} {w : World} {n t gp op cp gf : Nat} {vo vt : Value} (c : Int) (h : NewM B w n t (.slice (some ⟨gp, op, none⟩) n cp) vo gf vt (.slice none 0 0)) (hn1 : 1 ≤ n) (hn : n ≤ 4) (ht : t ≤ 1000) :
    IAns B w (newMc n t c) (.slice (some ⟨gp, op, none⟩) n cp) vo (.slice none 0 0) (.slice none 0 0) (NewBlocks gp gf vt vo) (mkB t n + (n : Int)) (fun w1 => MkM w1 n t gp op cp gf vt (.slice none 0 0) vo) where
  lt g hg := by
    rcases hg with rfl | rfl | e | e
    · exact h.p.lt g rfl
    · exact ⟨h.low, h.f.lt⟩
    · exact h.t.lt g e
    · exact h.o.lt g e
  stay w' hs hb := ⟨(h.kept hs hb).at hn1 hn, markMach_new B n t gp op cp gf vt vo c w' (h.kept hs hb) hn1 hn ht⟩
  go _ _ hm hb := hm.below hb
  held w1 hm := heldMach_new n t gp op cp gf vt vo c w1 hm hn1 hn ht
  k0 := by have := (mkB_bound t n ht (by omega)).1; omega

/-- what MachNew answers -/
def newAns (ms : List (Int × Int × List (Int × Int))) (r c : Int) : Mc := if (progOk ms && roomsB r c) = true then newMc r.toNat (temps0 ms) c else zeroMc
def newK (ms : List (Int × Int × List (Int × Int))) (r c : Int) : Int := if (progOk ms && roomsB r c) = true then mkB (temps0 ms) r.toNat + (r.toNat : Int) else 1

theorem implMachNew_ans (vp : Value) (ms : List (Int × Int × List (Int × Int))) (r c : Int) (w : World) (h : MethsAt w vp ms) :
    Calls Try.prog 9 #[.agg #[vp], .int .i64 r, .int .i64 c] w fun e w' => ∃ v1 v2 v3 v4 Blk Mk, e = .returned (.tuple #[.agg (mcCells v1 v2 v3 v4 (newAns ms r c)).toArray, .bool (progOk ms && roomsB r c)]) ∧ IAns w.heap.size w' (newAns ms r c) v1 v2 v3 v4 Blk (newK ms r c) Mk ∧ Below w.heap.size w w' := by
  refine (implMachNew_any vp ms r c w h).mono ?_
  rintro e w' ⟨hb, ⟨h0, rfl⟩ | ⟨h1, v, vo, gf, vt, vs, rfl, hN⟩⟩
  · have e1 : newAns ms r c = zeroMc := by unfold newAns; rw [h0]; rfl
    have e2 : newK ms r c = 1 := by unfold newK; rw [h0]; rfl
    exact ⟨_, _, _, _, _, _, by rw [e1, h0]; rfl, by rw [e1, e2]; exact zero_ans _ _, hb⟩
  · obtain ⟨hp, hr⟩ := Bool.and_eq_true_iff.1 h1
    obtain ⟨hr1, hr4, _, _⟩ := roomsB_true hr
    obtain ⟨_, _, _, _, ht⟩ := first_ok hp
    have e1 : newAns ms r c = newMc r.toNat (temps0 ms) c := by unfold newAns; rw [if_pos h1]
    have e2 : newK ms r c = mkB (temps0 ms) r.toNat + (r.toNat : Int) := by unfold newK; rw [if_pos h1]
    obtain ⟨gp, op, cp, hv, _, _⟩ := hN.p.form (by omega)
    have hsn := hN.sn
    subst hv hsn
    refine ⟨_, _, _, _, _, _, by rw [e1, h1]; rfl, by rw [e1, e2]; exact new_ans c hN (by omega) (by omega) (by omega), hb⟩

theorem specMachNew_ans (vp : Value) (ms : List (Int × Int × List (Int × Int))) (r c : Int) (w : World) (h : MethsAt w vp ms) :
    Calls Try.prog 8 #[.agg #[vp], .int .i64 r, .int .i64 c] w fun e w' => ∃ v1 v2 v3 v4, e = .returned (.tuple #[.agg (mcCells v1 v2 v3 v4 (newAns ms r c)).toArray, .bool (progOk ms && roomsB r c)]) ∧ From w.heap.size w' (fun z => MachAt z v1 v2 v3 v4 (newAns ms r c)) ∧ Below w.heap.size w w' := by
  refine (specMachNew_any vp ms r c w h).mono ?_
  rintro e w' ⟨hb, ⟨h0, rfl⟩ | ⟨h1, v, vo, vt, vs, rfl, hN⟩⟩
  · have e1 : newAns ms r c = zeroMc := by unfold newAns; rw [h0]; rfl
    exact ⟨_, _, _, _, by rw [e1, h0]; rfl, by rw [e1]; exact fun z _ _ => zero_at z, hb⟩
  · have e1 : newAns ms r c = newMc r.toNat (temps0 ms) c := by unfold newAns; rw [if_pos h1]
    exact ⟨_, _, _, _, by rw [e1, h1]; rfl, by rw [e1]; exact hN, hb⟩

end Go.Proofs.Ytldiccheboipeaa
