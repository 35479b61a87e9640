/-
  The model's heap at work, walked: say.
-/
import Derived.Test.YtleodeffmfkfkaaSWalk1
import Derived.Test.YtleodeffmfkfkaaSMem4
import Derived.Deep.RegionLaw
namespace Go.Proofs.Ytleodeffmfkfkaa
open Go.RowKit

theorem PairRow.drewR {B : Nat} {w : World} {v : Value} {xs : List (Int × Int)} (h : PairRow B w v xs) : PairRow B w.drew v xs := h

theorem duo_set1 {w : World} {g : Nat} {t : TypeId} {x0 x1 : Value} (h : w.rowIs g t 2 (duo x0 x1)) (v : Value) : (w.setCell ⟨g, 1, none⟩ v).rowIs g t 2 (duo x0 v) :=
  (h.set 1 v).congr fun i hi => by match i, hi with | 0, _ => rfl | 1, _ => rfl

/-- what append needs where a value of a box of two cells is put behind others: the value just laid into a block -/
theorem one_drew (w : World) (k q : Int) (e : TypeId) (c : Nat) : OpsAt (w.alloc (.cells #[.int .i64 k, .int .i64 q] e)).drew (.slice (some ⟨w.heap.size, 0, none⟩) 1 c) [(k, q)] := one_at w k q e c

set_option maxRecDepth 100000 in
set_option maxHeartbeats 4000000 in
theorem say_any {A : Nat → Prop} {B : Nat} {w : World} {bo : Nat} {vp vs : Value} {g off cap : Nat} {ms : List (Int × Int × List (Int × Int))} {h : Hp} {V : Nat → Value × Value} (k : SM A B w bo vp (.slice (some ⟨g, off, none⟩) h.calls.length cap) vs ms h V) (hB : B ≤ w.heap.size) (a b : Int) (hv : a = 2 → 0 ≤ b ∧ b < (h.calls.length : Int)) (hsd : h.said.length ≤ 900000) :
    Calls Try.prog 95 #[.pointer (some ⟨bo, 0, none⟩), .agg #[.int .i64 a, .int .i64 b]] w fun e w' => e = .returned (.tuple #[]) ∧ (∃ vs' V', SM A B w' bo vp (.slice (some ⟨g, off, none⟩) h.calls.length cap) vs' ms (sayH h (a, b)) V') ∧ Cm A B w w' := by
  have hA : Below w.heap.size w (w.alloc (.cells #[.int .i64 a, .int .i64 b] 73)) := (Below.refl _ _).alloc (Nat.le_refl _) _
  have rx := duo_new w 73 (.int .i64 a) (.int .i64 b)
  have k1 := k.below hA
  have hbo : bo < w.heap.size := k.box.lt
  obtain ⟨sa, sc, hsv, _⟩ := k.own.s.slice
  subst hsv
  have tail : ∀ (W : World) (m : Int), Below w.heap.size w W → W.rowIs w.heap.size 73 2 (duo (.int .i64 a) (.int .i64 m)) → (a, m) = sayV h (a, b) →
      SM A B W bo vp (.slice (some ⟨g, off, none⟩) h.calls.length cap) (.slice sa h.said.length sc) ms h V ∧
      (W.cell? ⟨bo, 4, none⟩ = some (.slice sa h.said.length sc) ∧ W.cell? ⟨w.heap.size, 0, none⟩ = some (.int .i64 a) ∧ W.cell? ⟨w.heap.size, 1, none⟩ = some (.int .i64 m)) ∧
      PairRow B (W.alloc (.cells #[.int .i64 a, .int .i64 m] 73)).drew (.slice sa h.said.length sc) h.said ∧
      ∀ v' w', PairRow B w' v' (h.said ++ [(a, m)]) → (W.alloc (.cells #[.int .i64 a, .int .i64 m] 73)).drew.grownBy w' (Value.slice sa h.said.length sc).ownBlock → (v'.ownBlock = (Value.slice sa h.said.length sc).ownBlock ∨ v'.ownBlock = some (W.alloc (.cells #[.int .i64 a, .int .i64 m] 73)).drew.heap.size) →
        (w'.cell? ⟨bo, 4, none⟩ = some (.slice sa h.said.length sc) ∧ w'.frozen? ⟨bo, 4, none⟩ = false) ∧ (∃ vs' V', SM A B (w'.setCell ⟨bo, 4, none⟩ v') bo vp (.slice (some ⟨g, off, none⟩) h.calls.length cap) vs' ms (sayH h (a, b)) V') ∧ Cm A B w (w'.setCell ⟨bo, 4, none⟩ v') := fun W m hW rW hm => by
    have kW := k.below hW
    obtain ⟨⟨_, _, _, _, y4, _⟩, _⟩ := six_cells kW.box
    obtain ⟨⟨t0, t1⟩, _⟩ := duo_cells rW
    have N : Below W.heap.size W (W.alloc (.cells #[.int .i64 a, .int .i64 m] 73)).drew := ((Below.refl _ _).alloc (Nat.le_refl _) _).drew
    have zW := hW.size
    refine ⟨kW, ⟨y4, t0, t1⟩, kW.own.s.below N, fun v' w' hr hg hv' => ?_⟩
    have hzN := N.size
    have hzg := hg.size
    have hsb : (Value.slice sa h.said.length sc).ownBlock ≠ some bo := fun e => k.nb (.inl e)
    have hbl : ∀ q, q < W.heap.size → (Value.slice sa h.said.length sc).ownBlock ≠ some q → w'.heap[q]? = W.heap[q]? := fun q hq hn => (hg.block q (by omega) (fun e => hn e.symm)).trans (N.block q hq)
    have bx := kW.box.of_block (hbl bo (by omega) hsb)
    obtain ⟨⟨_, _, _, _, z4, _⟩, _, _, _, _, f4, _⟩ := six_cells bx
    have b' : Below B W w' := ⟨hg.os.trans N.os, hg.tape.trans N.tape, hg.output.trans N.output, by omega, fun q hq => hbl q (by omega) (fun e => by have := (k.own.s.lt q e).1; omega)⟩
    obtain ⟨ks, cs⟩ := kW.say v' (h.said ++ [(a, m)]) (by omega) hbl hr (fun q e => by
      rcases hv' with x | x
      · exact .inl (by rw [← x]; exact e)
      · rw [x] at e; cases e; exact .inr hzN) b'
    refine ⟨⟨z4, f4⟩, ⟨v', V, ?_⟩, (k.cm hW hB).trans cs⟩
    unfold sayH
    rw [← hm]
    exact ks
  by_cases ha : a = 2
  · subst ha
    obtain ⟨b0, b1⟩ := hv rfl
    obtain ⟨j, rfl⟩ := Int.eq_ofNat_of_zero_le b0
    have hj : j < h.calls.length := by omega
    obtain ⟨⟨x0, x1, x2, x3, x4, x5⟩, _⟩ := six_cells k1.box
    obtain ⟨⟨c0, c1, c2, c3, c4, c5⟩, _⟩ := k1.own.c.cells hj
    obtain ⟨⟨t0, t1⟩, tf0, tf1⟩ := duo_cells rx
    have hjz : (j : Int) < (h.calls.length : Int) := by omega
    have hsay : ((2 : Int), h.calls[j].m) = sayV h (2, (j : Int)) := by unfold sayV; simp [hj]
    have rW := duo_set1 rx (.int .i64 h.calls[j].m)
    have hW : Below w.heap.size w ((w.alloc (.cells #[.int .i64 2, .int .i64 (j : Int)] 73)).setCell ⟨w.heap.size, 1, none⟩ (.int .i64 h.calls[j].m)).drew := (hA.setCell (p := ⟨w.heap.size, 1, none⟩) (Nat.le_refl _) _).drew
    obtain ⟨kW, ⟨y4, y0, y1⟩, hown, hend⟩ := tail _ _ hW rW hsay
    have HE : Hid _ := hend
    have zW := hW.size
    have hBW : B ≤ ((w.alloc (.cells #[.int .i64 2, .int .i64 (j : Int)] 73)).setCell ⟨w.heap.size, 1, none⟩ (.int .i64 h.calls[j].m)).drew.heap.size := by omega
    have hbW : bo < ((w.alloc (.cells #[.int .i64 2, .int .i64 (j : Int)] 73)).setCell ⟨w.heap.size, 1, none⟩ (.int .i64 h.calls[j].m)).drew.heap.size := by omega
    have hwW := World.block_lt_of_cell? _ _ y0
    clear hend tail zW hsay
    go_enter Try.func95, Try.ntmps95
    go_upto_region 1 with fail
    generalize w.alloc (.cells #[.int .i64 2, .int .i64 (j : Int)] 73) = W1 at *
    go_wp2
    go_region
    go_upto_region 3 with fail
    generalize (W1.setCell ⟨w.heap.size, 1, none⟩ (.int .i64 h.calls[j].m)).drew = W at *
    clear x0 x1 x2 x3 x4 x5 c0 c1 c2 c3 c4 c5 t0 t1 tf0 tf1 rx k1 hA
    go_region_law (refine step_vals _ (by rfl) _ _ (by rfl) B _ _ h.said [(2, h.calls[j].m)] (by rfl) (by rfl) hown (one_drew W 2 h.calls[j].m _ _) (by simp; omega) (by simp; omega) ?_; intro v' w' hrow hg hbk; obtain ⟨a', c', hv', _⟩ := hrow.slice; rw [List.length_append] at hv'; subst hv'; obtain ⟨⟨z4, f4⟩, hSM⟩ := HE.out _ w' hrow hg hbk)
    all_goals exact bodyPost_end (results_none rfl _ _ _) rfl ⟨rfl, hSM⟩
  · have hae : (a == 2) = false := beq_eq_false_iff_ne.2 ha
    have hsay : (a, b) = sayV h (a, b) := by unfold sayV; rw [if_neg ha]
    obtain ⟨kW, ⟨y4, y0, y1⟩, hown, hend⟩ := tail _ _ hA rx hsay
    have HE : Hid _ := hend
    have zW := hA.size
    have hBW : B ≤ (w.alloc (.cells #[.int .i64 a, .int .i64 b] 73)).heap.size := by omega
    have hbW : bo < (w.alloc (.cells #[.int .i64 a, .int .i64 b] 73)).heap.size := by omega
    have hwW := World.block_lt_of_cell? _ _ y0
    clear hend tail zW k1 rx hsay
    go_enter Try.func95, Try.ntmps95
    go_upto_region 1 with fail
    generalize w.alloc (.cells #[.int .i64 a, .int .i64 b] 73) = W at *
    go_upto_region 3 with fail
    go_region_law (refine step_vals _ (by rfl) _ _ (by rfl) B _ _ h.said [(a, b)] (by rfl) (by rfl) hown (one_drew W a b _ _) (by simp; omega) (by simp; omega) ?_; intro v' w' hrow hg hbk; obtain ⟨a', c', hv', _⟩ := hrow.slice; rw [List.length_append] at hv'; subst hv'; obtain ⟨⟨z4, f4⟩, hSM⟩ := HE.out _ w' hrow hg hbk)
    all_goals exact bodyPost_end (results_none rfl _ _ _) rfl ⟨rfl, hSM⟩

end Go.Proofs.Ytleodeffmfkfkaa
