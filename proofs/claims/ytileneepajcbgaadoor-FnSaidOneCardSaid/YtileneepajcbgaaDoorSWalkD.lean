/-
  The model's heap at work, walked: do, operation by operation.
-/
import Derived.Test.YtileneepajcbgaaDoorSWalk9
import Derived.Test.YtileneepajcbgaaDoorSWalk11
import Derived.Test.YtileneepajcbgaaDoorSWalkL12

namespace Go.Proofs.YtileneepajcbgaaDoor
open Go.RowKit
set_option maxRecDepth 100000 in
set_option maxHeartbeats 8000000 in
theorem do_here {A : Nat → Prop} {B : Nat} {w : World} {bo : Nat} {vp vs : Value} {g off cap : Nat} {ms : List (Int × Int × List (Int × Int))} {h : Hp} {V : Nat → Value × Value} (k : SM A B w bo vp (.slice (some ⟨g, off, none⟩) h.calls.length cap) vs ms h V) (hB : B ≤ w.heap.size) {j : Nat} (a : Int) (va : Value) (args : List (Int × Int)) (ha : OpsAt w va args) (d : Doing ms h j 11 a args) :
    Calls Tryd.prog 46 #[.pointer (some ⟨bo, 0, none⟩), .agg #[.int .i64 11, .int .i64 a], va] w fun e w' => e = .returned (.tuple #[]) ∧ (∃ vc' vs' V', SM A B w' bo vp vc' vs' ms (doH ms h 11 a args) V') ∧ Cm A B w w' := by
  have hn := d.now
  have hj := d.lt
  have hst := (d.g.cl j hj).s
  obtain ⟨aa, ca, hva⟩ := ha.shape
  subst hva
  have hA : Below w.heap.size w (w.alloc (.cells #[.int .i64 11, .int .i64 a] 85)) := (Below.refl _ _).alloc (Nat.le_refl _) _
  have rx := duo_new w 85 (.int .i64 11) (.int .i64 a)
  have k1 := k.made hA (by simp)
  have cm1 := k.cm hA hB
  have hM := fun W => l11Made_no 11 a (.slice aa args.length ca) W (by decide) (by decide) (by decide)
  go_enter Tryd.func46, Tryd.ntmps46
  go_upto_region 1 with fail
  generalize w.alloc (.cells #[.int .i64 11, .int .i64 a] 85) = W1 at *
  have z1 := hA.size
  obtain ⟨⟨t0, t1⟩, _⟩ := duo_cells rx
  go_upto_region 5 with (first
    | (go_at_call 43; refine (now_drew k1 hn hj).mono ?_; rintro e w' ⟨rfl, hw⟩; obtain rfl := hw)
    | (go_at_call 52; refine (hM _).mono ?_; rintro e w3 ⟨rfl, hb3⟩))
  have N4 := (Below.refl w3.heap.size w3).alloc (Nat.le_refl _) (.cells #[.int .i64 0, .int .i64 0] 42)
  have b14 : Below W1.heap.size W1 (w3.alloc (.cells #[.int .i64 0, .int .i64 0] 42)) := ((Below.refl W1.heap.size W1).drew.trans hb3).trans (N4.mono hb3.size)
  have k4 := k1.below b14
  have r1 := row_below b14 rx
  have bw4 : Below w.heap.size w (w3.alloc (.cells #[.int .i64 0, .int .i64 0] 42)) := hA.trans (b14.mono z1)
  have ha4 := ha.below bw4
  have cmA : Cm A B w (w3.alloc (.cells #[.int .i64 0, .int .i64 0] 42)) := cm1.trans ((k1.cm b14 (by omega)).less (fun q hq => .inl hq))
  have hB4 : B ≤ (w3.alloc (.cells #[.int .i64 0, .int .i64 0] 42)).heap.size := by have := cmA.b.size; omega
  clear k1 k cm1 N4 b14 hb3 hM t0 t1 rx ha bw4
  generalize w3.alloc (.cells #[.int .i64 0, .int .i64 0] 42) = W4 at *
  generalize w3.heap.size = bv at *
  obtain ⟨⟨t0, t1⟩, _⟩ := duo_cells r1
  have hgl4 := (k4.own.c.lt (g := g) (.inl rfl)).2
  have hbo4 : bo < W4.heap.size := k4.box.lt
  have how4 : w.heap.size < W4.heap.size := r1.lt
  have HR : Hid (doH ms h 11 a args = { h with calls := h.calls.set j { h.calls[j] with stack := h.calls[j].stack ++ [(2, (j : Int))] } }) := by
    show _ = _
    show pushH h (2, h.now) = _
    rw [pushH_eq hn hj, hn]
  obtain ⟨sa, sc, hVs, _⟩ := (k4.own.c.lists j hj).2.slice
  obtain ⟨⟨e0, e1, e2, e3, e4, e5⟩, _⟩ := k4.own.c.cells hj
  rw [hVs] at e3
  have HPT := push_tail k4 hB4 hj hVs
  obtain ⟨⟨_, _, y2, _, _, _⟩, _⟩ := six_cells k4.box
  rw [hn] at y2
  obtain ⟨hown, hend⟩ := HPT ((W4.alloc (.cells #[.int .i64 2, .int .i64 (j : Int)] 42)).drew) (((Below.refl _ _).alloc (Nat.le_refl _) _).drew) (2, (j : Int))
  have HE : Hid _ := hend
  clear hend HPT
  go_wp2_with fail
  go_region_law (refine step_vals _ (by rfl) _ _ (by rfl) B _ _ h.calls[j].stack [(2, (j : Int))] (by rfl) (by rfl) hown (one_at W4 2 (j : Int) _ _) (by simp; omega) (by simp; omega) ?_; intro v' w' hrow hg hbk; obtain ⟨a', c', hv', _⟩ := hrow.slice; rw [List.length_append] at hv'; subst hv'; obtain ⟨⟨z4, f4⟩, hSM⟩ := HE.out _ w' hrow hg hbk)
  all_goals
    obtain ⟨⟨V5, kV⟩, cV⟩ := hSM
    go_wp2
    refine bodyPost_end (results_none rfl _ _ _) rfl ⟨rfl, ⟨.slice (some ⟨g, off, none⟩) h.calls.length cap, vs, V5, ?_⟩, cmA.trans (cV.less (fun q hq => .inl hq))⟩
    rw [HR.out]
    exact kV.less (fun q hq => .inl hq)
set_option maxRecDepth 100000 in
set_option maxHeartbeats 8000000 in
theorem do_temp {A : Nat → Prop} {B : Nat} {w : World} {bo : Nat} {vp vs : Value} {g off cap : Nat} {ms : List (Int × Int × List (Int × Int))} {h : Hp} {V : Nat → Value × Value} (k : SM A B w bo vp (.slice (some ⟨g, off, none⟩) h.calls.length cap) vs ms h V) (hB : B ≤ w.heap.size) {j : Nat} (a : Int) (va : Value) (args : List (Int × Int)) (ha : OpsAt w va args) (d : Doing ms h j 2 a args) :
    Calls Tryd.prog 46 #[.pointer (some ⟨bo, 0, none⟩), .agg #[.int .i64 2, .int .i64 a], va] w fun e w' => e = .returned (.tuple #[]) ∧ (∃ vc' vs' V', SM A B w' bo vp vc' vs' ms (doH ms h 2 a args) V') ∧ Cm A B w w' := by
  have hn := d.now
  have hj := d.lt
  have hst := (d.g.cl j hj).s
  obtain ⟨m0, hm0, hmc, hop⟩ := d.op
  unfold opOk at hop
  rw [if_neg (by decide), if_pos (by decide), inR_true] at hop
  obtain ⟨i, rfl⟩ := Int.eq_ofNat_of_zero_le hop.1
  have hit : i < h.calls[j].temps.length := by
    have := (d.g.cl j hj).t
    rw [hmc, Int.toNat_natCast, getD_at hm0] at this
    omega
  clear hop hmc
  obtain ⟨aa, ca, hva⟩ := ha.shape
  subst hva
  have hA : Below w.heap.size w (w.alloc (.cells #[.int .i64 2, .int .i64 (i : Int)] 85)) := (Below.refl _ _).alloc (Nat.le_refl _) _
  have rx := duo_new w 85 (.int .i64 2) (.int .i64 (i : Int))
  have k1 := k.made hA (by simp)
  have cm1 := k.cm hA hB
  have hM := fun W => l11Made_no 2 (i : Int) (.slice aa args.length ca) W (by decide) (by decide) (by decide)
  go_enter Tryd.func46, Tryd.ntmps46
  go_upto_region 1 with fail
  generalize w.alloc (.cells #[.int .i64 2, .int .i64 (i : Int)] 85) = W1 at *
  have z1 := hA.size
  obtain ⟨⟨t0, t1⟩, _⟩ := duo_cells rx
  go_upto_region 5 with (first
    | (go_at_call 43; refine (now_drew k1 hn hj).mono ?_; rintro e w' ⟨rfl, hw⟩; obtain rfl := hw)
    | (go_at_call 52; refine (hM _).mono ?_; rintro e w3 ⟨rfl, hb3⟩))
  have N4 := (Below.refl w3.heap.size w3).alloc (Nat.le_refl _) (.cells #[.int .i64 0, .int .i64 0] 42)
  have b14 : Below W1.heap.size W1 (w3.alloc (.cells #[.int .i64 0, .int .i64 0] 42)) := ((Below.refl W1.heap.size W1).drew.trans hb3).trans (N4.mono hb3.size)
  have k4 := k1.below b14
  have r1 := row_below b14 rx
  have bw4 : Below w.heap.size w (w3.alloc (.cells #[.int .i64 0, .int .i64 0] 42)) := hA.trans (b14.mono z1)
  have ha4 := ha.below bw4
  have cmA : Cm A B w (w3.alloc (.cells #[.int .i64 0, .int .i64 0] 42)) := cm1.trans ((k1.cm b14 (by omega)).less (fun q hq => .inl hq))
  have hB4 : B ≤ (w3.alloc (.cells #[.int .i64 0, .int .i64 0] 42)).heap.size := by have := cmA.b.size; omega
  clear k1 k cm1 N4 b14 hb3 hM t0 t1 rx ha bw4
  generalize w3.alloc (.cells #[.int .i64 0, .int .i64 0] 42) = W4 at *
  generalize w3.heap.size = bv at *
  obtain ⟨⟨t0, t1⟩, _⟩ := duo_cells r1
  have hgl4 := (k4.own.c.lt (g := g) (.inl rfl)).2
  have hbo4 : bo < W4.heap.size := k4.box.lt
  have how4 : w.heap.size < W4.heap.size := r1.lt
  have HR : Hid (doH ms h 2 ((i : Nat) : Int) args = { h with calls := h.calls.set j { h.calls[j] with stack := h.calls[j].stack ++ [(h.calls[j].temps[i].1, h.calls[j].temps[i].2)] } }) := by
    show _ = _
    show pushH h ((curC h).temps.getD ((i : Nat) : Int).toNat (0, 0)) = _
    rw [pushH_eq hn hj, cur_at hn hj, Int.toNat_natCast, getD_at hit]
  obtain ⟨sa, sc, hVs, _⟩ := (k4.own.c.lists j hj).2.slice
  obtain ⟨⟨e0, e1, e2, e3, e4, e5⟩, _⟩ := k4.own.c.cells hj
  rw [hVs] at e3
  have HPT := push_tail k4 hB4 hj hVs
  have htp := (k4.own.c.lists j hj).1
  obtain ⟨gt, ot, ct, hVt, _, hgt⟩ := htp.form (by omega)
  rw [hVt] at htp e2
  obtain ⟨⟨q0, q1⟩, _⟩ := htp.cell hit
  have hiz : (i : Int) < (h.calls[j].temps.length : Int) := by omega
  clear htp
  generalize h.calls[j].temps[i].1 = X at *
  generalize h.calls[j].temps[i].2 = Y at *
  obtain ⟨hown, hend⟩ := HPT ((W4.alloc (.cells #[.int .i64 X, .int .i64 Y] 42)).drew) (((Below.refl _ _).alloc (Nat.le_refl _) _).drew) (X, Y)
  have HE : Hid _ := hend
  clear hend HPT
  go_wp2_with fail
  go_region_law (refine step_vals _ (by rfl) _ _ (by rfl) B _ _ h.calls[j].stack [(X, Y)] (by rfl) (by rfl) hown (one_at W4 X Y _ _) (by simp; omega) (by simp; omega) ?_; intro v' w' hrow hg hbk; obtain ⟨a', c', hv', _⟩ := hrow.slice; rw [List.length_append] at hv'; subst hv'; obtain ⟨⟨z4, f4⟩, hSM⟩ := HE.out _ w' hrow hg hbk)
  all_goals
    obtain ⟨⟨V5, kV⟩, cV⟩ := hSM
    go_wp2
    refine bodyPost_end (results_none rfl _ _ _) rfl ⟨rfl, ⟨.slice (some ⟨g, off, none⟩) h.calls.length cap, vs, V5, ?_⟩, cmA.trans (cV.less (fun q hq => .inl hq))⟩
    rw [HR.out]
    exact kV.less (fun q hq => .inl hq)
end Go.Proofs.YtileneepajcbgaaDoor

/-
  The model's heap at work, walked: do, operation by operation.
-/
namespace Go.Proofs.YtileneepajcbgaaDoor
open Go.RowKit
set_option maxRecDepth 100000 in
set_option maxHeartbeats 8000000 in
theorem do_peek {A : Nat → Prop} {B : Nat} {w : World} {bo : Nat} {vp vs : Value} {g off cap : Nat} {ms : List (Int × Int × List (Int × Int))} {h : Hp} {V : Nat → Value × Value} (k : SM A B w bo vp (.slice (some ⟨g, off, none⟩) h.calls.length cap) vs ms h V) (hB : B ≤ w.heap.size) {j : Nat} (a : Int) (va : Value) (args : List (Int × Int)) (ha : OpsAt w va args) (d : Doing ms h j 13 a args) :
    Calls Tryd.prog 46 #[.pointer (some ⟨bo, 0, none⟩), .agg #[.int .i64 13, .int .i64 a], va] w fun e w' => e = .returned (.tuple #[]) ∧ (∃ vc' vs' V', SM A B w' bo vp vc' vs' ms (doH ms h 13 a args) V') ∧ Cm A B w w' := by
  have hn := d.now
  have hj := d.lt
  have hst := (d.g.cl j hj).s
  have hl0 : 0 < args.length := by have := d.takes; rw [takes_num (by decide)] at this; simp [tk] at this; omega
  obtain ⟨hr0, hr1, hr2⟩ := d.ref (by decide)
  rw [getD_at hl0] at hr0 hr1 hr2
  obtain ⟨i, hi⟩ := Int.eq_ofNat_of_zero_le hr1
  have hin : i < h.calls.length := by omega
  have ha0 : 0 ≤ a := by
    obtain ⟨m0, hm0, _, hop⟩ := d.op
    simp [opOk, inR] at hop
    omega
  obtain ⟨aa, ca, hva⟩ := ha.shape
  subst hva
  have hA : Below w.heap.size w (w.alloc (.cells #[.int .i64 13, .int .i64 a] 85)) := (Below.refl _ _).alloc (Nat.le_refl _) _
  have rx := duo_new w 85 (.int .i64 13) (.int .i64 a)
  have k1 := k.made hA (by simp)
  have cm1 := k.cm hA hB
  have hM := fun W => l11Made_no 13 a (.slice aa args.length ca) W (by decide) (by decide) (by decide)
  go_enter Tryd.func46, Tryd.ntmps46
  go_upto_region 1 with fail
  generalize w.alloc (.cells #[.int .i64 13, .int .i64 a] 85) = W1 at *
  have z1 := hA.size
  obtain ⟨⟨t0, t1⟩, _⟩ := duo_cells rx
  go_upto_region 5 with (first
    | (go_at_call 43; refine (now_drew k1 hn hj).mono ?_; rintro e w' ⟨rfl, hw⟩; obtain rfl := hw)
    | (go_at_call 52; refine (hM _).mono ?_; rintro e w3 ⟨rfl, hb3⟩))
  have N4 := (Below.refl w3.heap.size w3).alloc (Nat.le_refl _) (.cells #[.int .i64 0, .int .i64 0] 42)
  have b14 : Below W1.heap.size W1 (w3.alloc (.cells #[.int .i64 0, .int .i64 0] 42)) := ((Below.refl W1.heap.size W1).drew.trans hb3).trans (N4.mono hb3.size)
  have k4 := k1.below b14
  have r1 := row_below b14 rx
  have bw4 : Below w.heap.size w (w3.alloc (.cells #[.int .i64 0, .int .i64 0] 42)) := hA.trans (b14.mono z1)
  have ha4 := ha.below bw4
  have cmA : Cm A B w (w3.alloc (.cells #[.int .i64 0, .int .i64 0] 42)) := cm1.trans ((k1.cm b14 (by omega)).less (fun q hq => .inl hq))
  have hB4 : B ≤ (w3.alloc (.cells #[.int .i64 0, .int .i64 0] 42)).heap.size := by have := cmA.b.size; omega
  clear k1 k cm1 N4 b14 hb3 hM t0 t1 rx ha bw4
  generalize w3.alloc (.cells #[.int .i64 0, .int .i64 0] 42) = W4 at *
  generalize w3.heap.size = bv at *
  obtain ⟨⟨t0, t1⟩, _⟩ := duo_cells r1
  have hgl4 := (k4.own.c.lt (g := g) (.inl rfl)).2
  have hbo4 : bo < W4.heap.size := k4.box.lt
  have how4 : w.heap.size < W4.heap.size := r1.lt
  obtain ⟨_, _, hve, _, hc⟩ := ha4
  cases hve
  obtain ⟨b, o, hb, p0, p1⟩ := hc 0 hl0
  subst hb
  simp only [Nat.zero_mul, Nat.add_zero] at p0 p1
  rw [hi] at p1
  have hz0 : (0 : Int) < (args.length : Int) := by omega
  clear hc
  have HR : Hid (doH ms h 13 a args = { h with calls := h.calls.set j { h.calls[j] with stack := h.calls[j].stack ++ [((lookV h 13 a i).1, (lookV h 13 a i).2)] } }) := by
    show pushH h (lookV h 13 a (args.getD 0 (0, 0)).2.toNat) = _
    rw [pushH_eq hn hj, getD_at hl0, hi]
    rfl
  obtain ⟨sa, sc, hVs, _⟩ := (k4.own.c.lists j hj).2.slice
  obtain ⟨⟨e0, e1, e2, e3, e4, e5⟩, _⟩ := k4.own.c.cells hj
  rw [hVs] at e3
  have HPT := push_tail k4 hB4 hj hVs
  have hL := look_any k4.drew 13 a i hin (by decide) ha0
  generalize (lookV h 13 a i).1 = X at *
  generalize (lookV h 13 a i).2 = Y at *
  have H5 : Hid (∀ w5 : World, Below W4.drew.heap.size W4.drew w5 → (w5.cell? ⟨g, off + j * 6 + 3, none⟩ = some (.slice sa h.calls[j].stack.length sc) ∧ g < w5.heap.size ∧ B ≤ w5.heap.size) ∧ PairRow B (w5.alloc (.cells #[.int .i64 X, .int .i64 Y] 42)) (.slice sa h.calls[j].stack.length sc) h.calls[j].stack ∧ (∀ v' w', PairRow B w' v' (h.calls[j].stack ++ [(X, Y)]) → (w5.alloc (.cells #[.int .i64 X, .int .i64 Y] 42)).grownBy w' (Value.slice sa h.calls[j].stack.length sc).ownBlock → (v'.ownBlock = (Value.slice sa h.calls[j].stack.length sc).ownBlock ∨ v'.ownBlock = some (w5.alloc (.cells #[.int .i64 X, .int .i64 Y] 42)).heap.size) →
      (w'.cell? ⟨g, off + j * 6 + 3, none⟩ = some (.slice sa h.calls[j].stack.length sc) ∧ w'.frozen? ⟨g, off + j * 6 + 3, none⟩ = false) ∧
      (∃ V', SM (fun q => A q ∨ q = w.heap.size) B (w'.setCell ⟨g, off + j * 6 + 3, none⟩ v') bo vp (.slice (some ⟨g, off, none⟩) h.calls.length cap) vs ms { h with calls := h.calls.set j { h.calls[j] with stack := h.calls[j].stack ++ [(X, Y)] } } V') ∧ Cm (fun q => A q ∨ q = w.heap.size) B W4 (w'.setCell ⟨g, off + j * 6 + 3, none⟩ v'))) := fun w5 hb5 => by
    have hb5' : Below W4.heap.size W4 w5 := (Below.refl W4.heap.size W4).drew.trans hb5
    have hz5 := hb5'.size
    have hX : Below W4.heap.size W4 (w5.alloc (.cells #[.int .i64 X, .int .i64 Y] 42)) := hb5'.alloc hz5 _
    obtain ⟨hown, hend⟩ := HPT _ hX (X, Y)
    exact ⟨⟨cell_below hb5' e3, by omega, by omega⟩, hown, hend⟩
  clear HPT
  go_wp2_with fail
  go_region_law (first
    | (refine step_vals _ (by rfl) _ _ (by rfl) B _ _ h.calls[j].stack [(X, Y)] (by rfl) (by rfl) hown5 (one_at w5 X Y _ _) (by simp; omega) (by simp; omega) ?_; intro v' w' hrow hg hbk; obtain ⟨a', c', hv', _⟩ := hrow.slice; rw [List.length_append] at hv'; subst hv'; obtain ⟨⟨z4, f4⟩, hSM⟩ := HE.out _ w' hrow hg hbk)
    | (go_simp; go_at_call 56; refine hL.mono ?_; rintro e w5 ⟨rfl, hb5⟩; obtain ⟨⟨w53, w5g, w5B⟩, hown5, hE5⟩ := H5.out w5 hb5; have HE : Hid _ := hE5; clear hE5 hb5))
  all_goals
    obtain ⟨⟨V5, kV⟩, cV⟩ := hSM
    go_wp2
    refine bodyPost_end (results_none rfl _ _ _) rfl ⟨rfl, ⟨.slice (some ⟨g, off, none⟩) h.calls.length cap, vs, V5, ?_⟩, cmA.trans (cV.less (fun q hq => .inl hq))⟩
    rw [HR.out]
    exact kV.less (fun q hq => .inl hq)
end Go.Proofs.YtileneepajcbgaaDoor

/-
  The model's heap at work, walked: do, whatever the operation.
-/
namespace Go.Proofs.YtileneepajcbgaaDoor
open Go.RowKit
theorem kinds18 {k : Int} (h : 1 ≤ k ∧ k ≤ 18) : k = 1 ∨ k = 2 ∨ k = 3 ∨ k = 4 ∨ k = 5 ∨ k = 6 ∨ k = 7 ∨ k = 8 ∨ k = 9 ∨ k = 10 ∨ k = 11 ∨ k = 12 ∨ k = 13 ∨ k = 14 ∨ k = 15 ∨ k = 16 ∨ k = 17 ∨ k = 18 := by omega
theorem valOk_isnum {n a : Int} (h : valOk n 1 a = true) : 0 ≤ a ∧ a ≤ 999 := by
  unfold valOk at h
  rw [if_neg (by decide), if_pos rfl, inR_true] at h
  exact h
set_option maxHeartbeats 1000000 in
theorem do_any {A : Nat → Prop} {B : Nat} {w : World} {bo : Nat} {vp vs : Value} {g off cap : Nat} {ms : List (Int × Int × List (Int × Int))} {h : Hp} {V : Nat → Value × Value} (k : SM A B w bo vp (.slice (some ⟨g, off, none⟩) h.calls.length cap) vs ms h V) (hB : B ≤ w.heap.size) {j : Nat} (kk a : Int) (va : Value) (args : List (Int × Int)) (ha : OpsAt w va args) (d : Doing ms h j kk a args) (hsd : h.said.length ≤ 2900000) :
    Calls Tryd.prog 46 #[.pointer (some ⟨bo, 0, none⟩), .agg #[.int .i64 kk, .int .i64 a], va] w fun e w' => e = .returned (.tuple #[]) ∧ (∃ vc' vs' V', SM A B w' bo vp vc' vs' ms (doH ms h kk a args) V') ∧ Cm A B w w' := by
  have hst : (h.calls[j]'d.lt).stack.length ≤ 1000 := by have := (d.g.cl j d.lt).s; omega
  rcases kinds18 d.kind with e | e | e | e | e | e | e | e | e | e | e | e | e | e | e | e | e | e
  · subst e
    exact do_made k hB d.now d.lt hst 1 a a va args ha (fun W _ => l11Made_num a va W)
  · subst e; exact do_temp k hB a va args ha d
  · subst e; exact do_set k hB a va args ha d
  · subst e; exact do_drop k hB a va args ha d
  · subst e
    have hl : args.length = 2 := by have := d.takes; rw [takes_num (by decide)] at this; simp [tk] at this; omega
    have h0 : 0 < args.length := by omega
    have h1 : 1 < args.length := by omega
    have hk := d.kinds
    simp only [kindsOk, if_true, Bool.and_eq_true, beq_iff_eq] at hk
    rw [getD_at h0, getD_at h1] at hk
    have hx := d.first 0
    have hy := d.first 1
    rw [getD_at h0, hk.1] at hx
    rw [getD_at h1, hk.2] at hy
    have HR : doH ms h 5 a args = pushH h (1, (args[0].2 + args[1].2) % 1000) := by
      show pushH h (1, ((args.getD 0 (0, 0)).2 + (args.getD 1 (0, 0)).2) % 1000) = _
      rw [getD_at h0, getD_at h1]
    rw [HR]
    exact do_made k hB d.now d.lt hst 5 a _ va args ha (fun W hW => l11Made_add a va args W (ha.below hW) hl (valOk_isnum hx) (valOk_isnum hy))
  · subst e
    have hl : args.length = 2 := by have := d.takes; rw [takes_num (by decide)] at this; simp [tk] at this; omega
    have h0 : 0 < args.length := by omega
    have h1 : 1 < args.length := by omega
    have HR : doH ms h 6 a args = pushH h (1, (bitV (decide (args[0] = args[1]))).2) := by
      show pushH h (bitV (decide (args.getD 0 (0, 0) = args.getD 1 (0, 0)))) = _
      rw [getD_at h0, getD_at h1]
      rfl
    rw [HR]
    exact do_made k hB d.now d.lt hst 6 a _ va args ha (fun W hW => l11Made_same a va args W (ha.below hW) hl)
  · subst e; exact do_jump k hB a va args ha d
  · subst e; exact do_zero k hB a va args ha d
  · subst e; exact do_call k hB a va args ha d
  · subst e; exact do_ret k hB a va args ha d hsd
  · subst e; exact do_here k hB a va args ha d
  · subst e; exact do_sender k hB a va args ha d
  · subst e; exact do_peek k hB a va args ha d
  · subst e; exact do_poke k hB a va args ha d
  · subst e; exact do_back k hB a va args ha d
  · subst e; exact do_say k hB a va args ha d hsd
  · subst e; exact do_dead k hB a va args ha d
  · subst e; exact do_where k hB a va args ha d
end Go.Proofs.YtileneepajcbgaaDoor
