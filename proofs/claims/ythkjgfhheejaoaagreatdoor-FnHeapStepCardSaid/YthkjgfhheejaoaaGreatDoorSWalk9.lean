import Derived.Test.YthkjgfhheejaoaaGreatDoorSWalk1
import Derived.Test.YthkjgfhheejaoaaGreatDoorSMem4
import Derived.Test.YthkjgfhheejaoaaGreatDoorSWalk8
import Derived.Test.YthkjgfhheejaoaaGreatDoorSWalk7

/-
  The model's heap at work, walked: look, l11Kinds.
-/
namespace Go.Proofs.YthkjgfhheejaoaaGreatDoor
open Go.RowKit

set_option maxRecDepth 100000 in
set_option maxHeartbeats 4000000 in
theorem look_any {A : Nat → Prop} {B : Nat} {w : World} {bo : Nat} {vp vs : Value} {g off cap : Nat} {ms : List (Int × Int × List (Int × Int))} {h : Hp} {V : Nat → Value × Value} (k : SM A B w bo vp (.slice (some ⟨g, off, none⟩) h.calls.length cap) vs ms h V) (kk a : Int) (j : Nat) (hj : j < h.calls.length) (hk : kk = 12 ∨ kk = 13 ∨ kk = 17 ∨ kk = 18) (ha : 0 ≤ a) :
    Calls Tryz.prog 87 #[.pointer (some ⟨bo, 0, none⟩), .agg #[.int .i64 kk, .int .i64 a], .int .i64 (j : Int)] w fun e w' => e = .returned (.agg #[.int .i64 (lookV h kk a j).1, .int .i64 (lookV h kk a j).2]) ∧ Below w.heap.size w w' := by
  obtain ⟨⟨x0, x1, x2, x3, x4, x5⟩, _⟩ := six_cells k.box
  obtain ⟨⟨c0, c1, c2, c3, c4, c5⟩, _⟩ := k.own.c.cells hj
  have hjz : (j : Int) < (h.calls.length : Int) := by omega
  have hbo : bo < w.heap.size := k.box.lt
  have hgl := (k.own.c.lt (g := g) (.inl rfl)).2
  obtain ⟨ta, tc, hVt, _⟩ := (k.own.c.lists j hj).1.slice
  obtain ⟨sa, sc, hVs, _⟩ := (k.own.c.lists j hj).2.slice
  rw [hVt] at c2
  rw [hVs] at c3
  have hA : Below w.heap.size w (((w.alloc (.cells #[.int .i64 kk, .int .i64 a] 41)).alloc (.cells #[.int .i64 0, .int .i64 0] 43)).alloc (.cells #[.int .i64 h.calls[j].m, .int .i64 h.calls[j].pc, .slice ta h.calls[j].temps.length tc, .slice sa h.calls[j].stack.length sc, .int .i64 h.calls[j].sender, .bool h.calls[j].dead] 48)) := (((Below.refl _ _).alloc (Nat.le_refl _) _).alloc (by simp) _).alloc (by simp; omega) _
  have ro : (((w.alloc (.cells #[.int .i64 kk, .int .i64 a] 41)).alloc (.cells #[.int .i64 0, .int .i64 0] 43)).alloc (.cells #[.int .i64 h.calls[j].m, .int .i64 h.calls[j].pc, .slice ta h.calls[j].temps.length tc, .slice sa h.calls[j].stack.length sc, .int .i64 h.calls[j].sender, .bool h.calls[j].dead] 48)).rowIs w.heap.size 41 2 (duo (.int .i64 kk) (.int .i64 a)) := ((duo_new w _ _ _).alloc _).alloc _
  have rr := (duo_new (w.alloc (.cells #[.int .i64 kk, .int .i64 a] 41)) 43 (.int .i64 0) (.int .i64 0)).alloc (.cells #[.int .i64 h.calls[j].m, .int .i64 h.calls[j].pc, .slice ta h.calls[j].temps.length tc, .slice sa h.calls[j].stack.length sc, .int .i64 h.calls[j].sender, .bool h.calls[j].dead] 48)
  have rc := six_new ((w.alloc (.cells #[.int .i64 kk, .int .i64 a] 41)).alloc (.cells #[.int .i64 0, .int .i64 0] 43)) 48 (.int .i64 h.calls[j].m) (.int .i64 h.calls[j].pc) (.slice ta h.calls[j].temps.length tc) (.slice sa h.calls[j].stack.length sc) (.int .i64 h.calls[j].sender) (.bool h.calls[j].dead)
  simp only [World.size_alloc] at rr rc
  have ht := (k.own.c.lists j hj).1
  rw [hVt] at ht
  have htA := ht.below hA
  have hlook : lookV h kk a j = if kk = 12 then (if 0 ≤ h.calls[j].sender then (2, h.calls[j].sender) else (0, 0)) else if kk = 13 then h.calls[j].temps.getD a.toNat (0, 0) else if kk = 17 then bitV h.calls[j].dead else (1, h.calls[j].pc) := by
    unfold lookV
    simp only [getD_at hj]
  have HL : Hid (lookV h kk a j = if kk = 12 then (if 0 ≤ h.calls[j].sender then (2, h.calls[j].sender) else (0, 0)) else if kk = 13 then h.calls[j].temps.getD a.toNat (0, 0) else if kk = 17 then bitV h.calls[j].dead else (1, h.calls[j].pc)) := hlook
  clear hlook ht
  generalize hT : h.calls[j].temps = TS at *
  generalize hS : h.calls[j].stack = SS at *
  clear hT hS
  rcases hk with e | e | e | e
  · subst e
    by_cases hs : 0 ≤ h.calls[j].sender
    · have HR : Hid (lookV h 12 a j = (2, h.calls[j].sender)) := by show _ = _; rw [HL.out]; rw [if_pos rfl, if_pos hs]
      go_enter Tryz.func87, Tryz.ntmps87
      go_upto_region 3 with fail
      generalize ((w.alloc (.cells #[.int .i64 12, .int .i64 a] 41)).alloc (.cells #[.int .i64 0, .int .i64 0] 43)).alloc (.cells #[.int .i64 h.calls[j].m, .int .i64 h.calls[j].pc, .slice ta TS.length tc, .slice sa SS.length sc, .int .i64 h.calls[j].sender, .bool h.calls[j].dead] 48) = W at *
      obtain ⟨⟨d0, d1, d2, d3, d4, d5⟩, _⟩ := six_cells rc
      obtain ⟨⟨o0, o1⟩, _⟩ := duo_cells ro
      obtain ⟨⟨r0, r1⟩, f0, f1⟩ := duo_cells rr
      go_wp2
      obtain ⟨⟨s0, s1⟩, _⟩ := duo_cells (duo_set rr (.int .i64 2) (.int .i64 h.calls[j].sender))
      refine bodyPost_ret (v := .agg #[.int .i64 2, .int .i64 h.calls[j].sender]) (by simp [results, Tryz.results87, go_sem, s0, s1]) rfl ?_
      exact ⟨by rw [HR.out], (hA.setCell (p := ⟨w.heap.size + 1, 0, none⟩) (Nat.le_succ _) _).setCell (p := ⟨w.heap.size + 1, 1, none⟩) (Nat.le_succ _) _⟩
    · have hs' : h.calls[j].sender < 0 := by omega
      have HR : Hid (lookV h 12 a j = (0, 0)) := by show _ = _; rw [HL.out]; rw [if_pos rfl, if_neg hs]
      go_enter Tryz.func87, Tryz.ntmps87
      go_upto_region 3 with fail
      generalize ((w.alloc (.cells #[.int .i64 12, .int .i64 a] 41)).alloc (.cells #[.int .i64 0, .int .i64 0] 43)).alloc (.cells #[.int .i64 h.calls[j].m, .int .i64 h.calls[j].pc, .slice ta TS.length tc, .slice sa SS.length sc, .int .i64 h.calls[j].sender, .bool h.calls[j].dead] 48) = W at *
      obtain ⟨⟨d0, d1, d2, d3, d4, d5⟩, _⟩ := six_cells rc
      obtain ⟨⟨o0, o1⟩, _⟩ := duo_cells ro
      obtain ⟨⟨r0, r1⟩, f0, f1⟩ := duo_cells rr
      go_wp2
      obtain ⟨⟨s0, s1⟩, _⟩ := duo_cells (duo_set rr (.int .i64 0) (.int .i64 0))
      refine bodyPost_ret (v := .agg #[.int .i64 0, .int .i64 0]) (by simp [results, Tryz.results87, go_sem, s0, s1]) rfl ?_
      exact ⟨by rw [HR.out], (hA.setCell (p := ⟨w.heap.size + 1, 0, none⟩) (Nat.le_succ _) _).setCell (p := ⟨w.heap.size + 1, 1, none⟩) (Nat.le_succ _) _⟩
  · subst e
    obtain ⟨i, rfl⟩ := Int.eq_ofNat_of_zero_le ha
    by_cases hi : i < TS.length
    · have hiz : (i : Int) < (TS.length : Int) := by omega
      obtain ⟨gt, ot, ct, hte, _, hgt⟩ := htA.form (by omega)
      obtain ⟨rfl, rfl⟩ : ta = some ⟨gt, ot, none⟩ ∧ tc = ct := by injection hte with e1 _ e3; exact ⟨e1, e3⟩
      clear hte
      obtain ⟨⟨q0, q1⟩, _⟩ := htA.cell hi
      have HR : Hid (lookV h 13 (i : Int) j = (TS[i].1, TS[i].2)) := by show _ = _; rw [HL.out]; simp [hi]
      go_enter Tryz.func87, Tryz.ntmps87
      go_upto_region 3 with fail
      generalize ((w.alloc (.cells #[.int .i64 13, .int .i64 (i : Int)] 41)).alloc (.cells #[.int .i64 0, .int .i64 0] 43)).alloc (.cells #[.int .i64 h.calls[j].m, .int .i64 h.calls[j].pc, .slice (some ⟨gt, ot, none⟩) TS.length tc, .slice sa SS.length sc, .int .i64 h.calls[j].sender, .bool h.calls[j].dead] 48) = W at *
      obtain ⟨⟨d0, d1, d2, d3, d4, d5⟩, _⟩ := six_cells rc
      obtain ⟨⟨o0, o1⟩, _⟩ := duo_cells ro
      obtain ⟨⟨r0, r1⟩, f0, f1⟩ := duo_cells rr
      go_wp2
      obtain ⟨⟨s0, s1⟩, _⟩ := duo_cells (duo_set rr (.int .i64 TS[i].1) (.int .i64 TS[i].2))
      refine bodyPost_ret (v := .agg #[.int .i64 TS[i].1, .int .i64 TS[i].2]) (by simp [results, Tryz.results87, go_sem, s0, s1]) rfl ?_
      exact ⟨by rw [HR.out], (hA.setCell (p := ⟨w.heap.size + 1, 0, none⟩) (Nat.le_succ _) _).setCell (p := ⟨w.heap.size + 1, 1, none⟩) (Nat.le_succ _) _⟩
    · have hiz : ¬ (i : Int) < (TS.length : Int) := by omega
      have HR : Hid (lookV h 13 (i : Int) j = (0, 0)) := by show _ = _; rw [HL.out]; simp [hi]
      go_enter Tryz.func87, Tryz.ntmps87
      go_upto_region 3 with fail
      generalize ((w.alloc (.cells #[.int .i64 13, .int .i64 (i : Int)] 41)).alloc (.cells #[.int .i64 0, .int .i64 0] 43)).alloc (.cells #[.int .i64 h.calls[j].m, .int .i64 h.calls[j].pc, .slice ta TS.length tc, .slice sa SS.length sc, .int .i64 h.calls[j].sender, .bool h.calls[j].dead] 48) = W at *
      obtain ⟨⟨d0, d1, d2, d3, d4, d5⟩, _⟩ := six_cells rc
      obtain ⟨⟨o0, o1⟩, _⟩ := duo_cells ro
      obtain ⟨⟨r0, r1⟩, f0, f1⟩ := duo_cells rr
      go_wp2
      obtain ⟨⟨s0, s1⟩, _⟩ := duo_cells (duo_set rr (.int .i64 0) (.int .i64 0))
      refine bodyPost_ret (v := .agg #[.int .i64 0, .int .i64 0]) (by simp [results, Tryz.results87, go_sem, s0, s1]) rfl ?_
      exact ⟨by rw [HR.out], (hA.setCell (p := ⟨w.heap.size + 1, 0, none⟩) (Nat.le_succ _) _).setCell (p := ⟨w.heap.size + 1, 1, none⟩) (Nat.le_succ _) _⟩
  · subst e
    generalize h.calls[j].dead = D at *
    cases D
    · have HR : Hid (lookV h 17 a j = (1, 0)) := by show _ = _; rw [HL.out]; rfl
      go_enter Tryz.func87, Tryz.ntmps87
      go_upto_region 3 with fail
      generalize ((w.alloc (.cells #[.int .i64 17, .int .i64 a] 41)).alloc (.cells #[.int .i64 0, .int .i64 0] 43)).alloc (.cells #[.int .i64 h.calls[j].m, .int .i64 h.calls[j].pc, .slice ta TS.length tc, .slice sa SS.length sc, .int .i64 h.calls[j].sender, .bool false] 48) = W at *
      obtain ⟨⟨d0, d1, d2, d3, d4, d5⟩, _⟩ := six_cells rc
      obtain ⟨⟨o0, o1⟩, _⟩ := duo_cells ro
      obtain ⟨⟨r0, r1⟩, f0, f1⟩ := duo_cells rr
      go_wp2_with (go_at_call 114; refine (l11Bit_any _ _).mono ?_; rintro e w' ⟨rfl, hw⟩; have rr' := row_below hw rr; have hA' := hA.trans (hw.mono hA.size); clear r0 r1 f0 f1; obtain ⟨⟨r0, r1⟩, f0, f1⟩ := duo_cells rr')
      obtain ⟨⟨s0, s1⟩, _⟩ := duo_cells (duo_set rr' (.int .i64 1) (.int .i64 0))
      refine bodyPost_ret (v := .agg #[.int .i64 1, .int .i64 0]) (by simp [results, Tryz.results87, go_sem, s0, s1]) rfl ?_
      exact ⟨by rw [HR.out], (hA'.setCell (p := ⟨w.heap.size + 1, 0, none⟩) (Nat.le_succ _) _).setCell (p := ⟨w.heap.size + 1, 1, none⟩) (Nat.le_succ _) _⟩
    · have HR : Hid (lookV h 17 a j = (1, 1)) := by show _ = _; rw [HL.out]; rfl
      go_enter Tryz.func87, Tryz.ntmps87
      go_upto_region 3 with fail
      generalize ((w.alloc (.cells #[.int .i64 17, .int .i64 a] 41)).alloc (.cells #[.int .i64 0, .int .i64 0] 43)).alloc (.cells #[.int .i64 h.calls[j].m, .int .i64 h.calls[j].pc, .slice ta TS.length tc, .slice sa SS.length sc, .int .i64 h.calls[j].sender, .bool true] 48) = W at *
      obtain ⟨⟨d0, d1, d2, d3, d4, d5⟩, _⟩ := six_cells rc
      obtain ⟨⟨o0, o1⟩, _⟩ := duo_cells ro
      obtain ⟨⟨r0, r1⟩, f0, f1⟩ := duo_cells rr
      go_wp2_with (go_at_call 114; refine (l11Bit_any _ _).mono ?_; rintro e w' ⟨rfl, hw⟩; have rr' := row_below hw rr; have hA' := hA.trans (hw.mono hA.size); clear r0 r1 f0 f1; obtain ⟨⟨r0, r1⟩, f0, f1⟩ := duo_cells rr')
      obtain ⟨⟨s0, s1⟩, _⟩ := duo_cells (duo_set rr' (.int .i64 1) (.int .i64 1))
      refine bodyPost_ret (v := .agg #[.int .i64 1, .int .i64 1]) (by simp [results, Tryz.results87, go_sem, s0, s1]) rfl ?_
      exact ⟨by rw [HR.out], (hA'.setCell (p := ⟨w.heap.size + 1, 0, none⟩) (Nat.le_succ _) _).setCell (p := ⟨w.heap.size + 1, 1, none⟩) (Nat.le_succ _) _⟩
  · subst e
    have HR : Hid (lookV h 18 a j = (1, h.calls[j].pc)) := by show _ = _; rw [HL.out]; rfl
    go_enter Tryz.func87, Tryz.ntmps87
    go_upto_region 3 with fail
    generalize ((w.alloc (.cells #[.int .i64 18, .int .i64 a] 41)).alloc (.cells #[.int .i64 0, .int .i64 0] 43)).alloc (.cells #[.int .i64 h.calls[j].m, .int .i64 h.calls[j].pc, .slice ta TS.length tc, .slice sa SS.length sc, .int .i64 h.calls[j].sender, .bool h.calls[j].dead] 48) = W at *
    obtain ⟨⟨d0, d1, d2, d3, d4, d5⟩, _⟩ := six_cells rc
    obtain ⟨⟨o0, o1⟩, _⟩ := duo_cells ro
    obtain ⟨⟨r0, r1⟩, f0, f1⟩ := duo_cells rr
    go_wp2_with (go_at_call 84; refine (l11Num_any _ _).mono ?_; rintro e w' ⟨rfl, hw⟩; have rr' := row_below hw rr; have hA' := hA.trans (hw.mono hA.size); clear r0 r1 f0 f1; obtain ⟨⟨r0, r1⟩, f0, f1⟩ := duo_cells rr')
    obtain ⟨⟨s0, s1⟩, _⟩ := duo_cells (duo_set rr' (.int .i64 1) (.int .i64 h.calls[j].pc))
    refine bodyPost_ret (v := .agg #[.int .i64 1, .int .i64 h.calls[j].pc]) (by simp [results, Tryz.results87, go_sem, s0, s1]) rfl ?_
    exact ⟨by rw [HR.out], (hA'.setCell (p := ⟨w.heap.size + 1, 0, none⟩) (Nat.le_succ _) _).setCell (p := ⟨w.heap.size + 1, 1, none⟩) (Nat.le_succ _) _⟩

end Go.Proofs.YthkjgfhheejaoaaGreatDoor

/-
  The model's heap at work, walked: do, operation by operation.
-/
namespace Go.Proofs.YthkjgfhheejaoaaGreatDoor
open Go.RowKit

set_option maxRecDepth 100000 in
set_option maxHeartbeats 8000000 in
theorem do_drop {A : Nat → Prop} {B : Nat} {w : World} {bo : Nat} {vp vs : Value} {g off cap : Nat} {ms : List (Int × Int × List (Int × Int))} {h : Hp} {V : Nat → Value × Value} (k : SM A B w bo vp (.slice (some ⟨g, off, none⟩) h.calls.length cap) vs ms h V) (hB : B ≤ w.heap.size) {j : Nat} (a : Int) (va : Value) (args : List (Int × Int)) (ha : OpsAt w va args) (d : Doing ms h j 4 a args) :
    Calls Tryz.prog 73 #[.pointer (some ⟨bo, 0, none⟩), .agg #[.int .i64 4, .int .i64 a], va] w fun e w' => e = .returned (.tuple #[]) ∧ (∃ vc' vs' V', SM A B w' bo vp vc' vs' ms (doH ms h 4 a args) V') ∧ Cm A B w w' := by
  have hn := d.now
  have hj := d.lt
  have hst := (d.g.cl j hj).s
  obtain ⟨aa, ca, hva⟩ := ha.shape
  subst hva
  have hA : Below w.heap.size w (w.alloc (.cells #[.int .i64 4, .int .i64 a] 41)) := (Below.refl _ _).alloc (Nat.le_refl _) _
  have rx := duo_new w 41 (.int .i64 4) (.int .i64 a)
  have k1 := k.made hA (by simp)
  have cm1 := k.cm hA hB
  have hM := fun W => l11Made_no 4 a (.slice aa args.length ca) W (by decide) (by decide) (by decide)
  go_enter Tryz.func73, Tryz.ntmps73
  go_upto_region 1 with fail
  generalize w.alloc (.cells #[.int .i64 4, .int .i64 a] 41) = W1 at *
  have z1 := hA.size
  obtain ⟨⟨t0, t1⟩, _⟩ := duo_cells rx
  go_upto_region 5 with (first
    | (go_at_call 70; refine (now_drew k1 hn hj).mono ?_; rintro e w' ⟨rfl, hw⟩; obtain rfl := hw)
    | (go_at_call 83; refine (hM _).mono ?_; rintro e w3 ⟨rfl, hb3⟩))
  have N4 := (Below.refl w3.heap.size w3).alloc (Nat.le_refl _) (.cells #[.int .i64 0, .int .i64 0] 43)
  have b14 : Below W1.heap.size W1 (w3.alloc (.cells #[.int .i64 0, .int .i64 0] 43)) := ((Below.refl W1.heap.size W1).drew.trans hb3).trans (N4.mono hb3.size)
  have k4 := k1.below b14
  have r1 := row_below b14 rx
  have bw4 : Below w.heap.size w (w3.alloc (.cells #[.int .i64 0, .int .i64 0] 43)) := hA.trans (b14.mono z1)
  have ha4 := ha.below bw4
  have cmA : Cm A B w (w3.alloc (.cells #[.int .i64 0, .int .i64 0] 43)) := cm1.trans ((k1.cm b14 (by omega)).less (fun q hq => .inl hq))
  have hB4 : B ≤ (w3.alloc (.cells #[.int .i64 0, .int .i64 0] 43)).heap.size := by have := cmA.b.size; omega
  clear k1 k cm1 N4 b14 hb3 hM t0 t1 rx ha bw4
  generalize w3.alloc (.cells #[.int .i64 0, .int .i64 0] 43) = W4 at *
  generalize w3.heap.size = bv at *
  obtain ⟨⟨t0, t1⟩, _⟩ := duo_cells r1
  have hgl4 := (k4.own.c.lt (g := g) (.inl rfl)).2
  have hbo4 : bo < W4.heap.size := k4.box.lt
  have how4 : w.heap.size < W4.heap.size := r1.lt
  go_wp2
  refine bodyPost_end (results_none rfl _ _ _) rfl ⟨rfl, ⟨.slice (some ⟨g, off, none⟩) h.calls.length cap, vs, V, ?_⟩, cmA⟩
  exact k4.less (fun q hq => .inl hq)

set_option maxRecDepth 100000 in
set_option maxHeartbeats 8000000 in
theorem do_jump {A : Nat → Prop} {B : Nat} {w : World} {bo : Nat} {vp vs : Value} {g off cap : Nat} {ms : List (Int × Int × List (Int × Int))} {h : Hp} {V : Nat → Value × Value} (k : SM A B w bo vp (.slice (some ⟨g, off, none⟩) h.calls.length cap) vs ms h V) (hB : B ≤ w.heap.size) {j : Nat} (a : Int) (va : Value) (args : List (Int × Int)) (ha : OpsAt w va args) (d : Doing ms h j 7 a args) :
    Calls Tryz.prog 73 #[.pointer (some ⟨bo, 0, none⟩), .agg #[.int .i64 7, .int .i64 a], va] w fun e w' => e = .returned (.tuple #[]) ∧ (∃ vc' vs' V', SM A B w' bo vp vc' vs' ms (doH ms h 7 a args) V') ∧ Cm A B w w' := by
  have hn := d.now
  have hj := d.lt
  have hst := (d.g.cl j hj).s
  obtain ⟨aa, ca, hva⟩ := ha.shape
  subst hva
  have hA : Below w.heap.size w (w.alloc (.cells #[.int .i64 7, .int .i64 a] 41)) := (Below.refl _ _).alloc (Nat.le_refl _) _
  have rx := duo_new w 41 (.int .i64 7) (.int .i64 a)
  have k1 := k.made hA (by simp)
  have cm1 := k.cm hA hB
  have hM := fun W => l11Made_no 7 a (.slice aa args.length ca) W (by decide) (by decide) (by decide)
  go_enter Tryz.func73, Tryz.ntmps73
  go_upto_region 1 with fail
  generalize w.alloc (.cells #[.int .i64 7, .int .i64 a] 41) = W1 at *
  have z1 := hA.size
  obtain ⟨⟨t0, t1⟩, _⟩ := duo_cells rx
  go_upto_region 5 with (first
    | (go_at_call 70; refine (now_drew k1 hn hj).mono ?_; rintro e w' ⟨rfl, hw⟩; obtain rfl := hw)
    | (go_at_call 83; refine (hM _).mono ?_; rintro e w3 ⟨rfl, hb3⟩))
  have N4 := (Below.refl w3.heap.size w3).alloc (Nat.le_refl _) (.cells #[.int .i64 0, .int .i64 0] 43)
  have b14 : Below W1.heap.size W1 (w3.alloc (.cells #[.int .i64 0, .int .i64 0] 43)) := ((Below.refl W1.heap.size W1).drew.trans hb3).trans (N4.mono hb3.size)
  have k4 := k1.below b14
  have r1 := row_below b14 rx
  have bw4 : Below w.heap.size w (w3.alloc (.cells #[.int .i64 0, .int .i64 0] 43)) := hA.trans (b14.mono z1)
  have ha4 := ha.below bw4
  have cmA : Cm A B w (w3.alloc (.cells #[.int .i64 0, .int .i64 0] 43)) := cm1.trans ((k1.cm b14 (by omega)).less (fun q hq => .inl hq))
  have hB4 : B ≤ (w3.alloc (.cells #[.int .i64 0, .int .i64 0] 43)).heap.size := by have := cmA.b.size; omega
  clear k1 k cm1 N4 b14 hb3 hM t0 t1 rx ha bw4
  generalize w3.alloc (.cells #[.int .i64 0, .int .i64 0] 43) = W4 at *
  generalize w3.heap.size = bv at *
  obtain ⟨⟨t0, t1⟩, _⟩ := duo_cells r1
  have hgl4 := (k4.own.c.lt (g := g) (.inl rfl)).2
  have hbo4 : bo < W4.heap.size := k4.box.lt
  have how4 : w.heap.size < W4.heap.size := r1.lt
  have HR : Hid (doH ms h 7 a args = { h with calls := h.calls.set j { h.calls[j] with pc := a } }) := by
    show _ = _
    show setH h { curC h with pc := a } = _
    rw [setH_eq hn, cur_at hn hj]
  obtain ⟨⟨e0, e1, e2, e3, e4, e5⟩, fz⟩ := k4.own.c.cells hj
  have f1 := fz 1 (by decide)
  have hgB := (k4.own.c.lt (g := g) (.inl rfl)).1
  obtain ⟨k5, cm5⟩ := k4.put hj (put_cell k4.own.c hj 1 (.int .i64 a) { h.calls[j] with pc := a } (by decide) rfl rfl rfl rfl rfl rfl) ((Below.refl B W4).setCell (p := ⟨g, off + j * 6 + 1, none⟩) hgB _)
  clear fz
  go_wp2
  refine bodyPost_end (results_none rfl _ _ _) rfl ⟨rfl, ⟨.slice (some ⟨g, off, none⟩) h.calls.length cap, vs, putV V j ((V j).1, (V j).2), ?_⟩, cmA.trans (cm5.less (fun q hq => .inl hq))⟩
  rw [HR.out]
  exact k5.less (fun q hq => .inl hq)

set_option maxRecDepth 100000 in
set_option maxHeartbeats 8000000 in
theorem do_say {A : Nat → Prop} {B : Nat} {w : World} {bo : Nat} {vp vs : Value} {g off cap : Nat} {ms : List (Int × Int × List (Int × Int))} {h : Hp} {V : Nat → Value × Value} (k : SM A B w bo vp (.slice (some ⟨g, off, none⟩) h.calls.length cap) vs ms h V) (hB : B ≤ w.heap.size) {j : Nat} (a : Int) (va : Value) (args : List (Int × Int)) (ha : OpsAt w va args) (d : Doing ms h j 16 a args) (hsd : h.said.length ≤ 900000) :
    Calls Tryz.prog 73 #[.pointer (some ⟨bo, 0, none⟩), .agg #[.int .i64 16, .int .i64 a], va] w fun e w' => e = .returned (.tuple #[]) ∧ (∃ vc' vs' V', SM A B w' bo vp vc' vs' ms (doH ms h 16 a args) V') ∧ Cm A B w w' := by
  have hn := d.now
  have hj := d.lt
  have hst := (d.g.cl j hj).s
  have hl0 : 1 ≤ args.length := by have := d.takes; rw [takes_num (by decide)] at this; simp [tk] at this; omega
  have hx := d.first 0
  rw [getD_at hl0] at hx
  obtain ⟨aa, ca, hva⟩ := ha.shape
  subst hva
  have hA : Below w.heap.size w (w.alloc (.cells #[.int .i64 16, .int .i64 a] 41)) := (Below.refl _ _).alloc (Nat.le_refl _) _
  have rx := duo_new w 41 (.int .i64 16) (.int .i64 a)
  have k1 := k.made hA (by simp)
  have cm1 := k.cm hA hB
  have hM := fun W => l11Made_no 16 a (.slice aa args.length ca) W (by decide) (by decide) (by decide)
  go_enter Tryz.func73, Tryz.ntmps73
  go_upto_region 1 with fail
  generalize w.alloc (.cells #[.int .i64 16, .int .i64 a] 41) = W1 at *
  have z1 := hA.size
  obtain ⟨⟨t0, t1⟩, _⟩ := duo_cells rx
  go_upto_region 5 with (first
    | (go_at_call 70; refine (now_drew k1 hn hj).mono ?_; rintro e w' ⟨rfl, hw⟩; obtain rfl := hw)
    | (go_at_call 83; refine (hM _).mono ?_; rintro e w3 ⟨rfl, hb3⟩))
  have N4 := (Below.refl w3.heap.size w3).alloc (Nat.le_refl _) (.cells #[.int .i64 0, .int .i64 0] 43)
  have b14 : Below W1.heap.size W1 (w3.alloc (.cells #[.int .i64 0, .int .i64 0] 43)) := ((Below.refl W1.heap.size W1).drew.trans hb3).trans (N4.mono hb3.size)
  have k4 := k1.below b14
  have r1 := row_below b14 rx
  have bw4 : Below w.heap.size w (w3.alloc (.cells #[.int .i64 0, .int .i64 0] 43)) := hA.trans (b14.mono z1)
  have ha4 := ha.below bw4
  have cmA : Cm A B w (w3.alloc (.cells #[.int .i64 0, .int .i64 0] 43)) := cm1.trans ((k1.cm b14 (by omega)).less (fun q hq => .inl hq))
  have hB4 : B ≤ (w3.alloc (.cells #[.int .i64 0, .int .i64 0] 43)).heap.size := by have := cmA.b.size; omega
  clear k1 k cm1 N4 b14 hb3 hM t0 t1 rx ha bw4
  generalize w3.alloc (.cells #[.int .i64 0, .int .i64 0] 43) = W4 at *
  generalize w3.heap.size = bv at *
  obtain ⟨⟨t0, t1⟩, _⟩ := duo_cells r1
  have hgl4 := (k4.own.c.lt (g := g) (.inl rfl)).2
  have hbo4 : bo < W4.heap.size := k4.box.lt
  have how4 : w.heap.size < W4.heap.size := r1.lt
  obtain ⟨_, _, hve, _, hc⟩ := ha4
  cases hve
  obtain ⟨b, o, hb, p0, p1⟩ := hc 0 hl0
  subst hb
  simp only [Nat.zero_mul, Nat.add_zero] at p0 p1
  have hz0 : (0 : Int) < (args.length : Int) := by omega
  clear hc
  have hS := say_any k4 hB4 args[0].1 args[0].2 (fun e => by rw [e] at hx; exact valOk_ref' hx) hsd
  have HR : Hid (doH ms h 16 a args = sayH h args[0]) := by
    show sayH h (args.getD 0 (0, 0)) = _
    rw [getD_at hl0]
  go_wp2_with (go_at_call 89; refine hS.mono ?_; rintro e w5 ⟨rfl, ⟨vs5, V5, k5⟩, cm5⟩)
  refine bodyPost_end (results_none rfl _ _ _) rfl ⟨rfl, ⟨.slice (some ⟨g, off, none⟩) h.calls.length cap, vs5, V5, ?_⟩, cmA.trans (cm5.less (fun q hq => .inl hq))⟩
  rw [HR.out]
  exact k5.less (fun q hq => .inl hq)

set_option maxRecDepth 100000 in
set_option maxHeartbeats 8000000 in
theorem do_ret {A : Nat → Prop} {B : Nat} {w : World} {bo : Nat} {vp vs : Value} {g off cap : Nat} {ms : List (Int × Int × List (Int × Int))} {h : Hp} {V : Nat → Value × Value} (k : SM A B w bo vp (.slice (some ⟨g, off, none⟩) h.calls.length cap) vs ms h V) (hB : B ≤ w.heap.size) {j : Nat} (a : Int) (va : Value) (args : List (Int × Int)) (ha : OpsAt w va args) (d : Doing ms h j 10 a args) (hsd : h.said.length ≤ 900000) :
    Calls Tryz.prog 73 #[.pointer (some ⟨bo, 0, none⟩), .agg #[.int .i64 10, .int .i64 a], va] w fun e w' => e = .returned (.tuple #[]) ∧ (∃ vc' vs' V', SM A B w' bo vp vc' vs' ms (doH ms h 10 a args) V') ∧ Cm A B w w' := by
  have hn := d.now
  have hj := d.lt
  have hst := (d.g.cl j hj).s
  have hl0 : 1 ≤ args.length := by have := d.takes; rw [takes_num (by decide)] at this; simp [tk] at this; omega
  have hx := d.first 0
  rw [getD_at hl0] at hx
  obtain ⟨aa, ca, hva⟩ := ha.shape
  subst hva
  have hA : Below w.heap.size w (w.alloc (.cells #[.int .i64 10, .int .i64 a] 41)) := (Below.refl _ _).alloc (Nat.le_refl _) _
  have rx := duo_new w 41 (.int .i64 10) (.int .i64 a)
  have k1 := k.made hA (by simp)
  have cm1 := k.cm hA hB
  have hM := fun W => l11Made_no 10 a (.slice aa args.length ca) W (by decide) (by decide) (by decide)
  go_enter Tryz.func73, Tryz.ntmps73
  go_upto_region 1 with fail
  generalize w.alloc (.cells #[.int .i64 10, .int .i64 a] 41) = W1 at *
  have z1 := hA.size
  obtain ⟨⟨t0, t1⟩, _⟩ := duo_cells rx
  go_upto_region 5 with (first
    | (go_at_call 70; refine (now_drew k1 hn hj).mono ?_; rintro e w' ⟨rfl, hw⟩; obtain rfl := hw)
    | (go_at_call 83; refine (hM _).mono ?_; rintro e w3 ⟨rfl, hb3⟩))
  have N4 := (Below.refl w3.heap.size w3).alloc (Nat.le_refl _) (.cells #[.int .i64 0, .int .i64 0] 43)
  have b14 : Below W1.heap.size W1 (w3.alloc (.cells #[.int .i64 0, .int .i64 0] 43)) := ((Below.refl W1.heap.size W1).drew.trans hb3).trans (N4.mono hb3.size)
  have k4 := k1.below b14
  have r1 := row_below b14 rx
  have bw4 : Below w.heap.size w (w3.alloc (.cells #[.int .i64 0, .int .i64 0] 43)) := hA.trans (b14.mono z1)
  have ha4 := ha.below bw4
  have cmA : Cm A B w (w3.alloc (.cells #[.int .i64 0, .int .i64 0] 43)) := cm1.trans ((k1.cm b14 (by omega)).less (fun q hq => .inl hq))
  have hB4 : B ≤ (w3.alloc (.cells #[.int .i64 0, .int .i64 0] 43)).heap.size := by have := cmA.b.size; omega
  clear k1 k cm1 N4 b14 hb3 hM t0 t1 rx ha bw4
  generalize w3.alloc (.cells #[.int .i64 0, .int .i64 0] 43) = W4 at *
  generalize w3.heap.size = bv at *
  obtain ⟨⟨t0, t1⟩, _⟩ := duo_cells r1
  have hgl4 := (k4.own.c.lt (g := g) (.inl rfl)).2
  have hbo4 : bo < W4.heap.size := k4.box.lt
  have how4 : w.heap.size < W4.heap.size := r1.lt
  obtain ⟨_, _, hve, _, hc⟩ := ha4
  cases hve
  obtain ⟨b, o, hb, p0, p1⟩ := hc 0 hl0
  subst hb
  simp only [Nat.zero_mul, Nat.add_zero] at p0 p1
  have hz0 : (0 : Int) < (args.length : Int) := by omega
  clear hc
  have hS := ret_any k4 hB4 hn hj (d.g.cl j hj).sd args[0].1 args[0].2 (fun e => by rw [e] at hx; exact valOk_ref' hx) hsd (fun s _ hs => by have := (d.g.cl s hs).s; omega)
  have HR : Hid (doH ms h 10 a args = retH h args[0]) := by
    show retH h (args.getD 0 (0, 0)) = _
    rw [getD_at hl0]
  go_wp2_with (go_at_call 86; refine hS.mono ?_; rintro e w5 ⟨rfl, ⟨vc5, vs5, V5, k5⟩, cm5⟩)
  refine bodyPost_end (results_none rfl _ _ _) rfl ⟨rfl, ⟨vc5, vs5, V5, ?_⟩, cmA.trans (cm5.less (fun q hq => .inl hq))⟩
  rw [HR.out]
  exact k5.less (fun q hq => .inl hq)

set_option maxRecDepth 100000 in
set_option maxHeartbeats 8000000 in
theorem do_call {A : Nat → Prop} {B : Nat} {w : World} {bo : Nat} {vp vs : Value} {g off cap : Nat} {ms : List (Int × Int × List (Int × Int))} {h : Hp} {V : Nat → Value × Value} (k : SM A B w bo vp (.slice (some ⟨g, off, none⟩) h.calls.length cap) vs ms h V) (hB : B ≤ w.heap.size) {j : Nat} (a : Int) (va : Value) (args : List (Int × Int)) (ha : OpsAt w va args) (d : Doing ms h j 9 a args) :
    Calls Tryz.prog 73 #[.pointer (some ⟨bo, 0, none⟩), .agg #[.int .i64 9, .int .i64 a], va] w fun e w' => e = .returned (.tuple #[]) ∧ (∃ vc' vs' V', SM A B w' bo vp vc' vs' ms (doH ms h 9 a args) V') ∧ Cm A B w w' := by
  have hn := d.now
  have hj := d.lt
  have hst := (d.g.cl j hj).s
  obtain ⟨m0, hm0, _, hop⟩ := d.op
  unfold opOk at hop
  rw [if_neg (by decide), if_neg (by decide), if_neg (by decide), if_pos rfl, inR_true] at hop
  obtain ⟨m, rfl⟩ := Int.eq_ofNat_of_zero_le hop.1
  have hm : m < ms.length := by omega
  have hMP := prog_meth d.g.head.p hm
  have htk := d.takes
  rw [takesOf_call hm] at htk
  simp only [] at htk
  obtain ⟨T, hT⟩ : ∃ T : Nat, ms[m].2.1 = (T : Int) := ⟨ms[m].2.1.toNat, by have := hMP.args; have := hMP.temps; omega⟩
  have hT4 : T ≤ 1000 := by have := hMP.temps; omega
  have hat : args.length ≤ T := by have := hMP.temps; omega
  clear hop htk hMP
  obtain ⟨aa, ca, hva⟩ := ha.shape
  subst hva
  have hA : Below w.heap.size w (w.alloc (.cells #[.int .i64 9, .int .i64 (m : Int)] 41)) := (Below.refl _ _).alloc (Nat.le_refl _) _
  have rx := duo_new w 41 (.int .i64 9) (.int .i64 (m : Int))
  have k1 := k.made hA (by simp)
  have cm1 := k.cm hA hB
  have hM := fun W => l11Made_no 9 (m : Int) (.slice aa args.length ca) W (by decide) (by decide) (by decide)
  go_enter Tryz.func73, Tryz.ntmps73
  go_upto_region 1 with fail
  generalize w.alloc (.cells #[.int .i64 9, .int .i64 (m : Int)] 41) = W1 at *
  have z1 := hA.size
  obtain ⟨⟨t0, t1⟩, _⟩ := duo_cells rx
  go_upto_region 5 with (first
    | (go_at_call 70; refine (now_drew k1 hn hj).mono ?_; rintro e w' ⟨rfl, hw⟩; obtain rfl := hw)
    | (go_at_call 83; refine (hM _).mono ?_; rintro e w3 ⟨rfl, hb3⟩))
  have N4 := (Below.refl w3.heap.size w3).alloc (Nat.le_refl _) (.cells #[.int .i64 0, .int .i64 0] 43)
  have b14 : Below W1.heap.size W1 (w3.alloc (.cells #[.int .i64 0, .int .i64 0] 43)) := ((Below.refl W1.heap.size W1).drew.trans hb3).trans (N4.mono hb3.size)
  have k4 := k1.below b14
  have r1 := row_below b14 rx
  have bw4 : Below w.heap.size w (w3.alloc (.cells #[.int .i64 0, .int .i64 0] 43)) := hA.trans (b14.mono z1)
  have ha4 := ha.below bw4
  have cmA : Cm A B w (w3.alloc (.cells #[.int .i64 0, .int .i64 0] 43)) := cm1.trans ((k1.cm b14 (by omega)).less (fun q hq => .inl hq))
  have hB4 : B ≤ (w3.alloc (.cells #[.int .i64 0, .int .i64 0] 43)).heap.size := by have := cmA.b.size; omega
  clear k1 k cm1 N4 b14 hb3 hM t0 t1 rx ha bw4
  generalize w3.alloc (.cells #[.int .i64 0, .int .i64 0] 43) = W4 at *
  generalize w3.heap.size = bv at *
  obtain ⟨⟨t0, t1⟩, _⟩ := duo_cells r1
  have hgl4 := (k4.own.c.lt (g := g) (.inl rfl)).2
  have hbo4 : bo < W4.heap.size := k4.box.lt
  have how4 : w.heap.size < W4.heap.size := r1.lt
  have HR : Hid (doH ms h 9 ((m : Nat) : Int) args = callH ms h m args) := rfl
  have hC := call_any k4 hB4 m hm T hT hT4 (.slice aa args.length ca) args ha4 hat (by have := d.g.head.few; have := d.g.head.born; omega) (by have := d.g.head.born; omega)
  go_wp2_with (go_at_call 85; refine hC.mono ?_; rintro e w5 ⟨rfl, ⟨vc5, vs5, V5, k5⟩, cm5⟩)
  refine bodyPost_end (results_none rfl _ _ _) rfl ⟨rfl, ⟨vc5, vs5, V5, ?_⟩, cmA.trans (cm5.less (fun q hq => .inl hq))⟩
  rw [HR.out]
  exact k5.less (fun q hq => .inl hq)

set_option maxRecDepth 100000 in
set_option maxHeartbeats 8000000 in
theorem do_back {A : Nat → Prop} {B : Nat} {w : World} {bo : Nat} {vp vs : Value} {g off cap : Nat} {ms : List (Int × Int × List (Int × Int))} {h : Hp} {V : Nat → Value × Value} (k : SM A B w bo vp (.slice (some ⟨g, off, none⟩) h.calls.length cap) vs ms h V) (hB : B ≤ w.heap.size) {j : Nat} (a : Int) (va : Value) (args : List (Int × Int)) (ha : OpsAt w va args) (d : Doing ms h j 15 a args) :
    Calls Tryz.prog 73 #[.pointer (some ⟨bo, 0, none⟩), .agg #[.int .i64 15, .int .i64 a], va] w fun e w' => e = .returned (.tuple #[]) ∧ (∃ vc' vs' V', SM A B w' bo vp vc' vs' ms (doH ms h 15 a args) V') ∧ Cm A B w w' := by
  have hn := d.now
  have hj := d.lt
  have hst := (d.g.cl j hj).s
  have hl2 : 2 ≤ args.length := by have := d.takes; rw [takes_num (by decide)] at this; simp [tk] at this; omega
  have hl0 : 0 < args.length := by omega
  have hl1 : 1 < args.length := by omega
  obtain ⟨hr0, hr1, hr2⟩ := d.ref (by decide)
  rw [getD_at hl0] at hr0 hr1 hr2
  obtain ⟨i, hi⟩ := Int.eq_ofNat_of_zero_le hr1
  have hin : i < h.calls.length := by omega
  obtain ⟨aa, ca, hva⟩ := ha.shape
  subst hva
  have hA : Below w.heap.size w (w.alloc (.cells #[.int .i64 15, .int .i64 a] 41)) := (Below.refl _ _).alloc (Nat.le_refl _) _
  have rx := duo_new w 41 (.int .i64 15) (.int .i64 a)
  have k1 := k.made hA (by simp)
  have cm1 := k.cm hA hB
  have hM := fun W => l11Made_no 15 a (.slice aa args.length ca) W (by decide) (by decide) (by decide)
  go_enter Tryz.func73, Tryz.ntmps73
  go_upto_region 1 with fail
  generalize w.alloc (.cells #[.int .i64 15, .int .i64 a] 41) = W1 at *
  have z1 := hA.size
  obtain ⟨⟨t0, t1⟩, _⟩ := duo_cells rx
  go_upto_region 5 with (first
    | (go_at_call 70; refine (now_drew k1 hn hj).mono ?_; rintro e w' ⟨rfl, hw⟩; obtain rfl := hw)
    | (go_at_call 83; refine (hM _).mono ?_; rintro e w3 ⟨rfl, hb3⟩))
  have N4 := (Below.refl w3.heap.size w3).alloc (Nat.le_refl _) (.cells #[.int .i64 0, .int .i64 0] 43)
  have b14 : Below W1.heap.size W1 (w3.alloc (.cells #[.int .i64 0, .int .i64 0] 43)) := ((Below.refl W1.heap.size W1).drew.trans hb3).trans (N4.mono hb3.size)
  have k4 := k1.below b14
  have r1 := row_below b14 rx
  have bw4 : Below w.heap.size w (w3.alloc (.cells #[.int .i64 0, .int .i64 0] 43)) := hA.trans (b14.mono z1)
  have ha4 := ha.below bw4
  have cmA : Cm A B w (w3.alloc (.cells #[.int .i64 0, .int .i64 0] 43)) := cm1.trans ((k1.cm b14 (by omega)).less (fun q hq => .inl hq))
  have hB4 : B ≤ (w3.alloc (.cells #[.int .i64 0, .int .i64 0] 43)).heap.size := by have := cmA.b.size; omega
  clear k1 k cm1 N4 b14 hb3 hM t0 t1 rx ha bw4
  generalize w3.alloc (.cells #[.int .i64 0, .int .i64 0] 43) = W4 at *
  generalize w3.heap.size = bv at *
  obtain ⟨⟨t0, t1⟩, _⟩ := duo_cells r1
  have hgl4 := (k4.own.c.lt (g := g) (.inl rfl)).2
  have hbo4 : bo < W4.heap.size := k4.box.lt
  have how4 : w.heap.size < W4.heap.size := r1.lt
  obtain ⟨_, _, hve, _, hc⟩ := ha4
  cases hve
  obtain ⟨b, o, hb, p0, p1⟩ := hc 0 hl0
  subst hb
  obtain ⟨b', o', hb, q0, q1⟩ := hc 1 hl1
  obtain ⟨rfl, rfl⟩ : b = b' ∧ o = o' := by injection hb with e; injection e with e1 e2; exact ⟨e1, e2⟩
  simp only [Nat.zero_mul, Nat.add_zero, Nat.one_mul] at p0 p1 q0 q1
  rw [hi] at p1
  have hz0 : (0 : Int) < (args.length : Int) := by omega
  have hz1 : (1 : Int) < (args.length : Int) := by omega
  clear hc hb
  obtain ⟨l, hw⟩ := d.g.w
  have hS := fun (W : World) (hW : Below W4.heap.size W4 W) => back_any (k4.below hW) (by have := hW.size; omega) i hin args[1].1 args[1].2 l hw (fun s hs => by have := (d.g.cl s hs).s; omega)
  have HR : Hid (doH ms h 15 a args = backH h i args[1]) := by
    show backH h (args.getD 0 (0, 0)).2.toNat (args.getD 1 (0, 0)) = _
    rw [getD_at hl0, getD_at hl1, hi]
    rfl
  go_wp2_with fail
  go_region_with (go_at_call 88; refine (hS _ ((Below.refl _ _).drew)).mono ?_; rintro e w5 ⟨rfl, ⟨vc5, vs5, V5, k5⟩, cm5⟩)
  all_goals
    go_wp2
    refine bodyPost_end (results_none rfl _ _ _) rfl ⟨rfl, ⟨vc5, vs5, V5, ?_⟩, cmA.trans (((k4.cm (Below.refl _ _).drew hB4).trans cm5).less (fun q hq => .inl hq))⟩
    rw [HR.out]
    exact k5.less (fun q hq => .inl hq)


end Go.Proofs.YthkjgfhheejaoaaGreatDoor
