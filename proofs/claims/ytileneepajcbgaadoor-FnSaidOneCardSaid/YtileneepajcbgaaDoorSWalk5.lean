/-
  The model's heap at work, walked: say.
-/
import Derived.Test.YtileneepajcbgaaDoorSWalk3
import Derived.Test.YtileneepajcbgaaDoorVSpec4
import Derived.Deep.RegionLaw
import Derived.Deep.RegionWith

namespace Go.Proofs.YtileneepajcbgaaDoor
open Go.RowKit
theorem duo_set1 {w : World} {g : Nat} {t : TypeId} {x0 x1 : Value} (h : w.rowIs g t 2 (duo x0 x1)) (v : Value) : (w.setCell ⟨g, 1, none⟩ v).rowIs g t 2 (duo x0 v) :=
  (h.set 1 v).congr fun i hi => by match i, hi with | 0, _ => rfl | 1, _ => rfl
theorem one_drew (w : World) (k q : Int) (e : TypeId) (c : Nat) : OpsAt (w.alloc (.cells #[.int .i64 k, .int .i64 q] e)).drew (.slice (some ⟨w.heap.size, 0, none⟩) 1 c) [(k, q)] := one_at w k q e c
set_option maxRecDepth 100000 in
set_option maxHeartbeats 4000000 in
theorem say_any {A : Nat → Prop} {B : Nat} {w : World} {bo : Nat} {vp vs : Value} {g off cap : Nat} {ms : List (Int × Int × List (Int × Int))} {h : Hp} {V : Nat → Value × Value} (k : SM A B w bo vp (.slice (some ⟨g, off, none⟩) h.calls.length cap) vs ms h V) (hB : B ≤ w.heap.size) (a b : Int) (hv : a = 2 → 0 ≤ b ∧ b < (h.calls.length : Int)) (hsd : h.said.length ≤ 2900000) :
    Calls Tryd.prog 58 #[.pointer (some ⟨bo, 0, none⟩), .agg #[.int .i64 a, .int .i64 b]] w fun e w' => e = .returned (.tuple #[]) ∧ (∃ vs' V', SM A B w' bo vp (.slice (some ⟨g, off, none⟩) h.calls.length cap) vs' ms (sayH h (a, b)) V') ∧ Cm A B w w' := by
  have hA : Below w.heap.size w (w.alloc (.cells #[.int .i64 a, .int .i64 b] 42)) := (Below.refl _ _).alloc (Nat.le_refl _) _
  have rx := duo_new w 42 (.int .i64 a) (.int .i64 b)
  have k1 := k.below hA
  have hbo : bo < w.heap.size := k.box.lt
  obtain ⟨sa, sc, hsv, _⟩ := k.own.s.slice
  subst hsv
  have tail : ∀ (W : World) (m : Int), Below w.heap.size w W → W.rowIs w.heap.size 42 2 (duo (.int .i64 a) (.int .i64 m)) → (a, m) = sayV h (a, b) →
      SM A B W bo vp (.slice (some ⟨g, off, none⟩) h.calls.length cap) (.slice sa h.said.length sc) ms h V ∧
      (W.cell? ⟨bo, 4, none⟩ = some (.slice sa h.said.length sc) ∧ W.cell? ⟨w.heap.size, 0, none⟩ = some (.int .i64 a) ∧ W.cell? ⟨w.heap.size, 1, none⟩ = some (.int .i64 m)) ∧
      PairRow B (W.alloc (.cells #[.int .i64 a, .int .i64 m] 42)).drew (.slice sa h.said.length sc) h.said ∧
      ∀ v' w', PairRow B w' v' (h.said ++ [(a, m)]) → (W.alloc (.cells #[.int .i64 a, .int .i64 m] 42)).drew.grownBy w' (Value.slice sa h.said.length sc).ownBlock → (v'.ownBlock = (Value.slice sa h.said.length sc).ownBlock ∨ v'.ownBlock = some (W.alloc (.cells #[.int .i64 a, .int .i64 m] 42)).drew.heap.size) →
        (w'.cell? ⟨bo, 4, none⟩ = some (.slice sa h.said.length sc) ∧ w'.frozen? ⟨bo, 4, none⟩ = false) ∧ (∃ vs' V', SM A B (w'.setCell ⟨bo, 4, none⟩ v') bo vp (.slice (some ⟨g, off, none⟩) h.calls.length cap) vs' ms (sayH h (a, b)) V') ∧ Cm A B w (w'.setCell ⟨bo, 4, none⟩ v') := fun W m hW rW hm => by
    have kW := k.below hW
    obtain ⟨⟨_, _, _, _, y4, _⟩, _⟩ := six_cells kW.box
    obtain ⟨⟨t0, t1⟩, _⟩ := duo_cells rW
    have N : Below W.heap.size W (W.alloc (.cells #[.int .i64 a, .int .i64 m] 42)).drew := ((Below.refl _ _).alloc (Nat.le_refl _) _).drew
    have zW := hW.size
    refine ⟨kW, ⟨y4, t0, t1⟩, kW.own.s.below N, fun v' w' hr hg hv' => ?_⟩
    have hzN := N.size
    have hzg := hg.size
    have hsb : (Value.slice sa h.said.length sc).ownBlock ≠ some bo := fun e => k.nb (.inl e)
    have hbl : ∀ q, q < W.heap.size → (Value.slice sa h.said.length sc).ownBlock ≠ some q → w'.heap[q]? = W.heap[q]? := fun q hq hn => (hg.block q (by omega) (fun e => hn e.symm)).trans (N.block q hq)
    have bx := kW.box.of_block (hbl bo (by omega) hsb)
    obtain ⟨⟨_, _, _, _, z4, _⟩, _, _, _, _, f4, _⟩ := six_cells bx
    have b' : Below B W w' := ⟨hg.os.trans N.os, hg.tape.trans N.tape, hg.output.trans N.output, by omega, fun q hq => hbl q (by omega) (fun e => by have := (k.own.s.lt q e).1; omega)⟩
    obtain ⟨ks, cs⟩ := kW.say v' (h.said ++ [(a, m)]) (by omega) hbl hr (fun q e => by
      rcases hv' with x | x
      · exact .inl (by rw [← x]; exact e)
      · rw [x] at e; cases e; exact .inr hzN) b'
    refine ⟨⟨z4, f4⟩, ⟨v', V, ?_⟩, (k.cm hW hB).trans cs⟩
    unfold sayH
    rw [← hm]
    exact ks
  by_cases ha : a = 2
  · subst ha
    obtain ⟨b0, b1⟩ := hv rfl
    obtain ⟨j, rfl⟩ := Int.eq_ofNat_of_zero_le b0
    have hj : j < h.calls.length := by omega
    obtain ⟨⟨x0, x1, x2, x3, x4, x5⟩, _⟩ := six_cells k1.box
    obtain ⟨⟨c0, c1, c2, c3, c4, c5⟩, _⟩ := k1.own.c.cells hj
    obtain ⟨⟨t0, t1⟩, tf0, tf1⟩ := duo_cells rx
    have hjz : (j : Int) < (h.calls.length : Int) := by omega
    have hsay : ((2 : Int), h.calls[j].m) = sayV h (2, (j : Int)) := by unfold sayV; simp [hj]
    have rW := duo_set1 rx (.int .i64 h.calls[j].m)
    have hW : Below w.heap.size w ((w.alloc (.cells #[.int .i64 2, .int .i64 (j : Int)] 42)).setCell ⟨w.heap.size, 1, none⟩ (.int .i64 h.calls[j].m)).drew := (hA.setCell (p := ⟨w.heap.size, 1, none⟩) (Nat.le_refl _) _).drew
    obtain ⟨kW, ⟨y4, y0, y1⟩, hown, hend⟩ := tail _ _ hW rW hsay
    have HE : Hid _ := hend
    have zW := hW.size
    have hBW : B ≤ ((w.alloc (.cells #[.int .i64 2, .int .i64 (j : Int)] 42)).setCell ⟨w.heap.size, 1, none⟩ (.int .i64 h.calls[j].m)).drew.heap.size := by omega
    have hbW : bo < ((w.alloc (.cells #[.int .i64 2, .int .i64 (j : Int)] 42)).setCell ⟨w.heap.size, 1, none⟩ (.int .i64 h.calls[j].m)).drew.heap.size := by omega
    have hwW := World.block_lt_of_cell? _ _ y0
    clear hend tail zW hsay
    go_enter Tryd.func58, Tryd.ntmps58
    go_upto_region 1 with fail
    generalize w.alloc (.cells #[.int .i64 2, .int .i64 (j : Int)] 42) = W1 at *
    go_wp2
    go_region
    go_upto_region 3 with fail
    generalize (W1.setCell ⟨w.heap.size, 1, none⟩ (.int .i64 h.calls[j].m)).drew = W at *
    clear x0 x1 x2 x3 x4 x5 c0 c1 c2 c3 c4 c5 t0 t1 tf0 tf1 rx k1 hA
    go_region_law (refine step_vals _ (by rfl) _ _ (by rfl) B _ _ h.said [(2, h.calls[j].m)] (by rfl) (by rfl) hown (one_drew W 2 h.calls[j].m _ _) (by simp; omega) (by simp; omega) ?_; intro v' w' hrow hg hbk; obtain ⟨a', c', hv', _⟩ := hrow.slice; rw [List.length_append] at hv'; subst hv'; obtain ⟨⟨z4, f4⟩, hSM⟩ := HE.out _ w' hrow hg hbk)
    all_goals exact bodyPost_end (results_none rfl _ _ _) rfl ⟨rfl, hSM⟩
  · have hae : (a == 2) = false := beq_eq_false_iff_ne.2 ha
    have hsay : (a, b) = sayV h (a, b) := by unfold sayV; rw [if_neg ha]
    obtain ⟨kW, ⟨y4, y0, y1⟩, hown, hend⟩ := tail _ _ hA rx hsay
    have HE : Hid _ := hend
    have zW := hA.size
    have hBW : B ≤ (w.alloc (.cells #[.int .i64 a, .int .i64 b] 42)).heap.size := by omega
    have hbW : bo < (w.alloc (.cells #[.int .i64 a, .int .i64 b] 42)).heap.size := by omega
    have hwW := World.block_lt_of_cell? _ _ y0
    clear hend tail zW k1 rx hsay
    go_enter Tryd.func58, Tryd.ntmps58
    go_upto_region 1 with fail
    generalize w.alloc (.cells #[.int .i64 a, .int .i64 b] 42) = W at *
    go_upto_region 3 with fail
    go_region_law (refine step_vals _ (by rfl) _ _ (by rfl) B _ _ h.said [(a, b)] (by rfl) (by rfl) hown (one_drew W a b _ _) (by simp; omega) (by simp; omega) ?_; intro v' w' hrow hg hbk; obtain ⟨a', c', hv', _⟩ := hrow.slice; rw [List.length_append] at hv'; subst hv'; obtain ⟨⟨z4, f4⟩, hSM⟩ := HE.out _ w' hrow hg hbk)
    all_goals exact bodyPost_end (results_none rfl _ _ _) rfl ⟨rfl, hSM⟩
end Go.Proofs.YtileneepajcbgaaDoor

/-
  The model's heap at work, walked: a value is put to the call that runs; ret.
-/
namespace Go.Proofs.YtileneepajcbgaaDoor
open Go.RowKit
set_option maxRecDepth 100000 in
set_option maxHeartbeats 2000000 in
theorem now_drew {A : Nat → Prop} {B : Nat} {w : World} {bo : Nat} {vp vs : Value} {g off cap : Nat} {ms : List (Int × Int × List (Int × Int))} {h : Hp} {V : Nat → Value × Value} (k : SM A B w bo vp (.slice (some ⟨g, off, none⟩) h.calls.length cap) vs ms h V) {j : Nat} (hn : h.now = j) (hj : j < h.calls.length) :
    Calls Tryd.prog 43 #[.pointer (some ⟨bo, 0, none⟩)] w fun e w' => e = .returned (.pointer (some ⟨g, off + j * 6, none⟩)) ∧ w' = w.drew := by
  obtain ⟨⟨x0, x1, x2, x3, x4, x5⟩, _⟩ := six_cells k.box
  rw [hn] at x2
  have hjz : (j : Int) < (h.calls.length : Int) := by omega
  go_enter Tryd.func43, Tryd.ntmps43
  go_wp2
  go_region
  go_wp2
  go_ret
  exact ⟨rfl, rfl⟩
theorem SM.drew {A : Nat → Prop} {B : Nat} {w : World} {bo : Nat} {vp vc vs : Value} {ms : List (Int × Int × List (Int × Int))} {h : Hp} {V : Nat → Value × Value} (k : SM A B w bo vp vc vs ms h V) : SM A B w.drew bo vp vc vs ms h V := k.below (Below.refl _ _).drew
theorem push_tail {A : Nat → Prop} {B : Nat} {w : World} {bo : Nat} {vp vs : Value} {g off cap : Nat} {ms : List (Int × Int × List (Int × Int))} {h : Hp} {V : Nat → Value × Value} (k : SM A B w bo vp (.slice (some ⟨g, off, none⟩) h.calls.length cap) vs ms h V) (hB : B ≤ w.heap.size) {j : Nat} (hj : j < h.calls.length) {sa : Option Addr} {sc : Nat} (hV : (V j).2 = .slice sa h.calls[j].stack.length sc) (X : World) (hX : Below w.heap.size w X) (x : Int × Int) :
    PairRow B X (.slice sa h.calls[j].stack.length sc) h.calls[j].stack ∧ ∀ v' w', PairRow B w' v' (h.calls[j].stack ++ [x]) → X.grownBy w' (Value.slice sa h.calls[j].stack.length sc).ownBlock → (v'.ownBlock = (Value.slice sa h.calls[j].stack.length sc).ownBlock ∨ v'.ownBlock = some X.heap.size) →
      (w'.cell? ⟨g, off + j * 6 + 3, none⟩ = some (.slice sa h.calls[j].stack.length sc) ∧ w'.frozen? ⟨g, off + j * 6 + 3, none⟩ = false) ∧
      (∃ V', SM A B (w'.setCell ⟨g, off + j * 6 + 3, none⟩ v') bo vp (.slice (some ⟨g, off, none⟩) h.calls.length cap) vs ms { h with calls := h.calls.set j { h.calls[j] with stack := h.calls[j].stack ++ [x] } } V') ∧ Cm A B w (w'.setCell ⟨g, off + j * 6 + 3, none⟩ v') := by
  have hs := (k.own.c.lists j hj).2
  rw [hV] at hs
  have hgl := (k.own.c.lt (g := g) (.inl rfl)).2
  have hzX := hX.size
  have hng : (Value.slice sa h.calls[j].stack.length sc).ownBlock ≠ some g := fun e => by
    have := (k.own.c.apart (j * 2 + 1) (by omega) g (by rw [lst_1, hV]; exact e)).1
    exact this rfl
  refine ⟨hs.below hX, fun v' w' hr hg hv' => ?_⟩
  have hbg : w'.heap[g]? = w.heap[g]? := (hg.block g (by omega) (fun e => hng e.symm)).trans (hX.block g hgl)
  obtain ⟨⟨_, _, _, c3, _, _⟩, fz⟩ := k.own.c.cells hj
  rw [hV] at c3
  refine ⟨⟨by rw [World.cell?_of_block (a := ⟨g, off + j * 6 + 3, none⟩) hbg]; exact c3, by rw [World.frozen?_of_block (a := ⟨g, off + j * 6 + 3, none⟩) hbg]; exact fz 3 (by decide)⟩, ?_⟩
  exact k.push hj hB hX (by rw [hV]; exact hg) hr (by rw [hV]; exact hv')
theorem six_now (x0 x1 x2 x3 x4 x5 v : Value) : ∀ q, q < 6 → six x0 x1 v x3 x4 x5 q = if q = 2 then v else six x0 x1 x2 x3 x4 x5 q := fun q hq => by
  have h6 : q = 0 ∨ q = 1 ∨ q = 2 ∨ q = 3 ∨ q = 4 ∨ q = 5 := by omega
  rcases h6 with rfl | rfl | rfl | rfl | rfl | rfl <;> rfl
theorem six_born (x0 x1 x2 x3 x4 x5 v : Value) : ∀ q, q < 6 → six x0 x1 x2 v x4 x5 q = if q = 3 then v else six x0 x1 x2 x3 x4 x5 q := fun q hq => by
  have h6 : q = 0 ∨ q = 1 ∨ q = 2 ∨ q = 3 ∨ q = 4 ∨ q = 5 := by omega
  rcases h6 with rfl | rfl | rfl | rfl | rfl | rfl <;> rfl
theorem six_code (x0 x1 x2 x3 x4 x5 v : Value) : ∀ q, q < 6 → six x0 x1 x2 x3 x4 v q = if q = 5 then v else six x0 x1 x2 x3 x4 x5 q := fun q hq => by
  have h6 : q = 0 ∨ q = 1 ∨ q = 2 ∨ q = 3 ∨ q = 4 ∨ q = 5 := by omega
  rcases h6 with rfl | rfl | rfl | rfl | rfl | rfl <;> rfl
theorem SM.setNow {A : Nat → Prop} {B : Nat} {w : World} {bo : Nat} {vp vc vs : Value} {ms : List (Int × Int × List (Int × Int))} {h : Hp} {V : Nat → Value × Value} (k : SM A B w bo vp vc vs ms h V) (x : Int) : SM A B (w.setCell ⟨bo, 2, none⟩ (.int .i64 x)) bo vp vc vs ms { h with now := x } V ∧ Cm A B w (w.setCell ⟨bo, 2, none⟩ (.int .i64 x)) := k.num 2 x rfl rfl (six_now _ _ _ _ _ _ _)
theorem SM.setBorn {A : Nat → Prop} {B : Nat} {w : World} {bo : Nat} {vp vc vs : Value} {ms : List (Int × Int × List (Int × Int))} {h : Hp} {V : Nat → Value × Value} (k : SM A B w bo vp vc vs ms h V) (x : Int) : SM A B (w.setCell ⟨bo, 3, none⟩ (.int .i64 x)) bo vp vc vs ms { h with born := x } V ∧ Cm A B w (w.setCell ⟨bo, 3, none⟩ (.int .i64 x)) := k.num 3 x rfl rfl (six_born _ _ _ _ _ _ _)
theorem SM.setCode {A : Nat → Prop} {B : Nat} {w : World} {bo : Nat} {vp vc vs : Value} {ms : List (Int × Int × List (Int × Int))} {h : Hp} {V : Nat → Value × Value} (k : SM A B w bo vp vc vs ms h V) (x : Int) : SM A B (w.setCell ⟨bo, 5, none⟩ (.int .i64 x)) bo vp vc vs ms { h with code := x } V ∧ Cm A B w (w.setCell ⟨bo, 5, none⟩ (.int .i64 x)) := k.num 5 x rfl rfl (six_code _ _ _ _ _ _ _)
theorem leaveH_eq {h : Hp} {j : Nat} (hn : h.now = j) (hj : j < h.calls.length) : leaveH h = { h with calls := h.calls.set j { h.calls[j] with stack := [], sender := -1, dead := true }, now := h.calls[j].sender } := by
  have e : h.now.toNat = j := by omega
  unfold leaveH setH
  rw [cur_at hn hj, e]
  rfl
set_option maxRecDepth 100000 in
set_option maxHeartbeats 8000000 in
theorem ret_any {A : Nat → Prop} {B : Nat} {w : World} {bo : Nat} {vp vs : Value} {g off cap : Nat} {ms : List (Int × Int × List (Int × Int))} {h : Hp} {V : Nat → Value × Value} (k : SM A B w bo vp (.slice (some ⟨g, off, none⟩) h.calls.length cap) vs ms h V) (hB : B ≤ w.heap.size) {j : Nat} (hn : h.now = j) (hj : j < h.calls.length) (hs : -1 ≤ h.calls[j].sender ∧ h.calls[j].sender < (h.calls.length : Int)) (a b : Int) (hv : a = 2 → 0 ≤ b ∧ b < (h.calls.length : Int)) (hsd : h.said.length ≤ 2900000)
    (hst : ∀ s : Nat, h.calls[j].sender = s → ∀ hs : s < h.calls.length, h.calls[s].stack.length ≤ 1000) :
    Calls Tryd.prog 55 #[.pointer (some ⟨bo, 0, none⟩), .agg #[.int .i64 a, .int .i64 b]] w fun e w' => e = .returned (.tuple #[]) ∧ (∃ vc' vs' V', SM A B w' bo vp vc' vs' ms (retH h (a, b)) V') ∧ Cm A B w w' := by
  obtain ⟨⟨c0, c1, c2, c3, c4, c5⟩, fz⟩ := k.own.c.cells hj
  have hbo : bo < w.heap.size := k.box.lt
  have hgl := (k.own.c.lt (g := g) (.inl rfl)).2
  go_enter Tryd.func55, Tryd.ntmps55
  have hA : Below w.heap.size w (w.alloc (.cells #[.int .i64 a, .int .i64 b] 42)) := (Below.refl _ _).alloc (Nat.le_refl _) _
  have rx := duo_new w 42 (.int .i64 a) (.int .i64 b)
  have k1 := k.made hA (by simp)
  have cm1 := k.cm hA hB
  go_upto_region 1 with fail
  generalize w.alloc (.cells #[.int .i64 a, .int .i64 b] 42) = W1 at *
  have z1 := hA.size
  obtain ⟨⟨d0, d1, d2, d3, d4, d5⟩, _⟩ := k1.own.c.cells hj
  go_upto_region 2 with (go_at_call 43; refine (now_drew k1 hn hj).mono ?_; rintro e w' ⟨rfl, hw⟩; obtain rfl := hw)
  have k2 := k1.drew
  obtain ⟨⟨x0, x1, x2, x3, x4, x5⟩, _⟩ := six_cells k2.box
  rw [hn] at x2
  go_upto_region 3 with (go_at_call 64; refine (die_any k2 hj).mono ?_; rintro e w3 ⟨rfl, ⟨V3, k3⟩, cm3⟩)
  obtain ⟨k4, cm4⟩ := k3.setNow h.calls[j].sender
  have hlv : leaveH h = { h with calls := h.calls.set j { h.calls[j] with stack := [], sender := -1, dead := true }, now := h.calls[j].sender } := leaveH_eq hn hj
  have hcl : (leaveH h).calls.length = h.calls.length := by rw [hlv]; simp
  have k4' : SM (fun q => A q ∨ q = w.heap.size) B (w3.setCell ⟨bo, 2, none⟩ (.int .i64 h.calls[j].sender)) bo vp (.slice (some ⟨g, off, none⟩) (leaveH h).calls.length cap) vs ms (leaveH h) V3 := by rw [hcl, hlv]; exact k4
  have rx4 := cm4.row (cm3.row (show W1.drew.rowIs w.heap.size _ 2 _ from rx) (.inr rfl)) (.inr rfl)
  have cmA : Cm A B w (w3.setCell ⟨bo, 2, none⟩ (.int .i64 h.calls[j].sender)) := cm1.trans (((k1.cm (Below.refl _ _).drew (by omega)).trans (cm3.trans cm4)).less (fun q hq => .inl hq))
  have hB3 : B ≤ (w3.setCell ⟨bo, 2, none⟩ (.int .i64 h.calls[j].sender)).heap.size := by have := cmA.b.size; omega
  obtain ⟨⟨y0, y1, y2, y3, y4, y5⟩, _, _, f2, _, _, _⟩ := six_cells k3.box
  by_cases hneg : h.calls[j].sender < 0
  · have hneg' : decide (h.calls[j].sender < 0) = true := decide_eq_true hneg
    have HR : Hid (retH h (a, b) = codeH (sayH (leaveH h) (a, b)) 1) := by show _ = _; unfold retH; rw [cur_at hn hj, if_pos hneg]
    have hsl : (leaveH h).said = h.said := by rw [hlv]
    have hS := say_any k4' hB3 a b (fun e => by rw [hcl]; exact hv e) (by rw [hsl]; exact hsd)
    clear x0 x1 x2 x3 x4 x5 d0 d1 d2 d3 d4 d5 c0 c1 c2 c3 c4 c5 fz k2 k1 k
    go_upto_region 5 with fail
    generalize w3.setCell ⟨bo, 2, none⟩ (.int .i64 h.calls[j].sender) = W4 at *
    obtain ⟨⟨t0, t1⟩, _⟩ := duo_cells rx4
    go_upto_region 6 with (go_at_call 58; refine hS.mono ?_; rintro e w5 ⟨rfl, ⟨vs5, V5, k5⟩, cm5⟩)
    obtain ⟨⟨u0, u1, u2, u3, u4, u5⟩, _, _, _, _, _, g5⟩ := six_cells k5.box
    obtain ⟨k6, cm6⟩ := k5.setCode 1
    go_wp2
    refine bodyPost_ret (results_none rfl _ _ _) rfl ?_
    refine ⟨rfl, ⟨.slice (some ⟨g, off, none⟩) (leaveH h).calls.length cap, vs5, V5, ?_⟩, cmA.trans ((cm5.trans cm6).less (fun q hq => .inl hq))⟩
    · rw [HR.out]
      exact k6.less (fun q hq => .inl hq)
  · obtain ⟨s, hse⟩ : ∃ s : Nat, h.calls[j].sender = s := ⟨h.calls[j].sender.toNat, by omega⟩
    have hsn : s < h.calls.length := by omega
    have hsn4 : s < (leaveH h).calls.length := by omega
    have hneg' : ¬ (h.calls[j].sender < 0) := hneg
    have hnow4 : (leaveH h).now = s := by rw [hlv]; exact hse
    have HR : Hid (retH h (a, b) = { leaveH h with calls := (leaveH h).calls.set s { (leaveH h).calls[s] with stack := (leaveH h).calls[s].stack ++ [(a, b)] } }) := by
      show _ = _
      unfold retH
      rw [cur_at hn hj, if_neg hneg, pushH_eq hnow4 hsn4]
    have hst4 : (leaveH h).calls[s].stack.length ≤ 1000 := by
      have hq : (leaveH h).calls = h.calls.set j { h.calls[j] with stack := [], sender := -1, dead := true } := by rw [hlv]
      simp only [hq]
      by_cases e : j = s
      · subst e; simp
      · rw [List.getElem_set_ne e]; exact hst s hse hsn
    obtain ⟨sa, sc, hVs, _⟩ := (k4'.own.c.lists s hsn4).2.slice
    obtain ⟨⟨e0, e1, e2, e3, e4, e5⟩, _⟩ := k4'.own.c.cells hsn4
    rw [hVs] at e3
    have hN := now_drew k4' hnow4 hsn4
    have hgl4 := (k4'.own.c.lt (g := g) (.inl rfl)).2
    clear x0 x1 x2 x3 x4 x5 d0 d1 d2 d3 d4 d5 c0 c1 c2 c3 c4 c5 fz k2 k1 k hneg hlv k4 cm4 hst
    generalize h.calls[j].sender = S at *
    subst hse
    go_upto_region 7 with fail
    have HPT := push_tail k4' hB3 hsn4 hVs
    have hwl := rx4.lt
    generalize w3.setCell ⟨bo, 2, none⟩ (.int .i64 (s : Int)) = W4 at *
    generalize hLH : leaveH h = LH at *
    obtain ⟨⟨t0, t1⟩, _⟩ := duo_cells rx4
    obtain ⟨hown, hend⟩ := HPT ((W4.alloc (.cells #[.int .i64 a, .int .i64 b] 42)).drew.drew.drew) ((((Below.refl _ _).alloc (Nat.le_refl _) _).drew.drew.drew)) (a, b)
    have HE : Hid _ := hend
    clear hend HPT
    go_region_law (first
      | (refine step_vals _ (by rfl) _ _ (by rfl) B _ _ LH.calls[s].stack [(a, b)] (by rfl) (by rfl) hown (one_at W4 a b _ _) (by simp; omega) (by simp; omega) ?_; intro v' w' hrow hg hbk; obtain ⟨a', c', hv', _⟩ := hrow.slice; rw [List.length_append] at hv'; subst hv'; obtain ⟨⟨z4, f4⟩, hSM⟩ := HE.out _ w' hrow hg hbk)
      | (go_simp; go_at_call 43; refine (now_drew (k4'.below (by first | exact (Below.refl _ _).drew | exact (Below.refl _ _).drew.drew | exact ((Below.refl _ _).alloc (Nat.le_refl _) _).drew | exact ((Below.refl _ _).alloc (Nat.le_refl _) _).drew.drew)) hnow4 hsn4).mono ?_; rintro e w' ⟨rfl, hw⟩; obtain rfl := hw))
    all_goals
      obtain ⟨⟨V', kV⟩, cV⟩ := hSM
      refine bodyPost_end (results_none rfl _ _ _) rfl ⟨rfl, ⟨.slice (some ⟨g, off, none⟩) LH.calls.length cap, vs, V', ?_⟩, cmA.trans (cV.less (fun q hq => .inl hq))⟩
      rw [HR.out]
      exact kV.less (fun q hq => .inl hq)
end Go.Proofs.YtileneepajcbgaaDoor
