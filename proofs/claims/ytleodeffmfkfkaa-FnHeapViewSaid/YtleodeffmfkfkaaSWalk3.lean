/-
  The model's heap at work, walked: look, l11Kinds.
-/
import Derived.Test.YtleodeffmfkfkaaSWalk1
import Derived.Test.YtleodeffmfkfkaaSMem4
namespace Go.Proofs.Ytleodeffmfkfkaa
open Go.RowKit

set_option maxRecDepth 100000 in
set_option maxHeartbeats 4000000 in
theorem look_any {A : Nat → Prop} {B : Nat} {w : World} {bo : Nat} {vp vs : Value} {g off cap : Nat} {ms : List (Int × Int × List (Int × Int))} {h : Hp} {V : Nat → Value × Value} (k : SM A B w bo vp (.slice (some ⟨g, off, none⟩) h.calls.length cap) vs ms h V) (kk a : Int) (j : Nat) (hj : j < h.calls.length) (hk : kk = 12 ∨ kk = 13 ∨ kk = 17 ∨ kk = 18) (ha : 0 ≤ a) :
    Calls Try.prog 93 #[.pointer (some ⟨bo, 0, none⟩), .agg #[.int .i64 kk, .int .i64 a], .int .i64 (j : Int)] w fun e w' => e = .returned (.agg #[.int .i64 (lookV h kk a j).1, .int .i64 (lookV h kk a j).2]) ∧ Below w.heap.size w w' := by
  obtain ⟨⟨x0, x1, x2, x3, x4, x5⟩, _⟩ := six_cells k.box
  obtain ⟨⟨c0, c1, c2, c3, c4, c5⟩, _⟩ := k.own.c.cells hj
  have hjz : (j : Int) < (h.calls.length : Int) := by omega
  have hbo : bo < w.heap.size := k.box.lt
  have hgl := (k.own.c.lt (g := g) (.inl rfl)).2
  obtain ⟨ta, tc, hVt, _⟩ := (k.own.c.lists j hj).1.slice
  obtain ⟨sa, sc, hVs, _⟩ := (k.own.c.lists j hj).2.slice
  rw [hVt] at c2
  rw [hVs] at c3
  have hA : Below w.heap.size w (((w.alloc (.cells #[.int .i64 kk, .int .i64 a] 95)).alloc (.cells #[.int .i64 0, .int .i64 0] 73)).alloc (.cells #[.int .i64 h.calls[j].m, .int .i64 h.calls[j].pc, .slice ta h.calls[j].temps.length tc, .slice sa h.calls[j].stack.length sc, .int .i64 h.calls[j].sender, .bool h.calls[j].dead] 34)) := (((Below.refl _ _).alloc (Nat.le_refl _) _).alloc (by simp) _).alloc (by simp; omega) _
  have ro : (((w.alloc (.cells #[.int .i64 kk, .int .i64 a] 95)).alloc (.cells #[.int .i64 0, .int .i64 0] 73)).alloc (.cells #[.int .i64 h.calls[j].m, .int .i64 h.calls[j].pc, .slice ta h.calls[j].temps.length tc, .slice sa h.calls[j].stack.length sc, .int .i64 h.calls[j].sender, .bool h.calls[j].dead] 34)).rowIs w.heap.size 95 2 (duo (.int .i64 kk) (.int .i64 a)) := ((duo_new w _ _ _).alloc _).alloc _
  have rr := (duo_new (w.alloc (.cells #[.int .i64 kk, .int .i64 a] 95)) 73 (.int .i64 0) (.int .i64 0)).alloc (.cells #[.int .i64 h.calls[j].m, .int .i64 h.calls[j].pc, .slice ta h.calls[j].temps.length tc, .slice sa h.calls[j].stack.length sc, .int .i64 h.calls[j].sender, .bool h.calls[j].dead] 34)
  have rc := six_new ((w.alloc (.cells #[.int .i64 kk, .int .i64 a] 95)).alloc (.cells #[.int .i64 0, .int .i64 0] 73)) 34 (.int .i64 h.calls[j].m) (.int .i64 h.calls[j].pc) (.slice ta h.calls[j].temps.length tc) (.slice sa h.calls[j].stack.length sc) (.int .i64 h.calls[j].sender) (.bool h.calls[j].dead)
  simp only [World.size_alloc] at rr rc
  have ht := (k.own.c.lists j hj).1
  rw [hVt] at ht
  have htA := ht.below hA
  have hlook : lookV h kk a j = if kk = 12 then (if 0 ≤ h.calls[j].sender then (2, h.calls[j].sender) else (0, 0)) else if kk = 13 then h.calls[j].temps.getD a.toNat (0, 0) else if kk = 17 then bitV h.calls[j].dead else (1, h.calls[j].pc) := by
    unfold lookV
    simp only [getD_at hj]
  have HL : Hid (lookV h kk a j = if kk = 12 then (if 0 ≤ h.calls[j].sender then (2, h.calls[j].sender) else (0, 0)) else if kk = 13 then h.calls[j].temps.getD a.toNat (0, 0) else if kk = 17 then bitV h.calls[j].dead else (1, h.calls[j].pc)) := hlook
  clear hlook ht
  generalize hT : h.calls[j].temps = TS at *
  generalize hS : h.calls[j].stack = SS at *
  clear hT hS
  rcases hk with e | e | e | e
  · subst e
    by_cases hs : 0 ≤ h.calls[j].sender
    · have HR : Hid (lookV h 12 a j = (2, h.calls[j].sender)) := by show _ = _; rw [HL.out]; rw [if_pos rfl, if_pos hs]
      go_enter Try.func93, Try.ntmps93
      go_upto_region 3 with fail
      generalize ((w.alloc (.cells #[.int .i64 12, .int .i64 a] 95)).alloc (.cells #[.int .i64 0, .int .i64 0] 73)).alloc (.cells #[.int .i64 h.calls[j].m, .int .i64 h.calls[j].pc, .slice ta TS.length tc, .slice sa SS.length sc, .int .i64 h.calls[j].sender, .bool h.calls[j].dead] 34) = W at *
      obtain ⟨⟨d0, d1, d2, d3, d4, d5⟩, _⟩ := six_cells rc
      obtain ⟨⟨o0, o1⟩, _⟩ := duo_cells ro
      obtain ⟨⟨r0, r1⟩, f0, f1⟩ := duo_cells rr
      go_wp2
      obtain ⟨⟨s0, s1⟩, _⟩ := duo_cells (duo_set rr (.int .i64 2) (.int .i64 h.calls[j].sender))
      refine bodyPost_ret (v := .agg #[.int .i64 2, .int .i64 h.calls[j].sender]) (by simp [results, Try.results93, go_sem, s0, s1]) rfl ?_
      exact ⟨by rw [HR.out], (hA.setCell (p := ⟨w.heap.size + 1, 0, none⟩) (Nat.le_succ _) _).setCell (p := ⟨w.heap.size + 1, 1, none⟩) (Nat.le_succ _) _⟩
    · have hs' : h.calls[j].sender < 0 := by omega
      have HR : Hid (lookV h 12 a j = (0, 0)) := by show _ = _; rw [HL.out]; rw [if_pos rfl, if_neg hs]
      go_enter Try.func93, Try.ntmps93
      go_upto_region 3 with fail
      generalize ((w.alloc (.cells #[.int .i64 12, .int .i64 a] 95)).alloc (.cells #[.int .i64 0, .int .i64 0] 73)).alloc (.cells #[.int .i64 h.calls[j].m, .int .i64 h.calls[j].pc, .slice ta TS.length tc, .slice sa SS.length sc, .int .i64 h.calls[j].sender, .bool h.calls[j].dead] 34) = W at *
      obtain ⟨⟨d0, d1, d2, d3, d4, d5⟩, _⟩ := six_cells rc
      obtain ⟨⟨o0, o1⟩, _⟩ := duo_cells ro
      obtain ⟨⟨r0, r1⟩, f0, f1⟩ := duo_cells rr
      go_wp2
      obtain ⟨⟨s0, s1⟩, _⟩ := duo_cells (duo_set rr (.int .i64 0) (.int .i64 0))
      refine bodyPost_ret (v := .agg #[.int .i64 0, .int .i64 0]) (by simp [results, Try.results93, go_sem, s0, s1]) rfl ?_
      exact ⟨by rw [HR.out], (hA.setCell (p := ⟨w.heap.size + 1, 0, none⟩) (Nat.le_succ _) _).setCell (p := ⟨w.heap.size + 1, 1, none⟩) (Nat.le_succ _) _⟩
  · subst e
    obtain ⟨i, rfl⟩ := Int.eq_ofNat_of_zero_le ha
    by_cases hi : i < TS.length
    · have hiz : (i : Int) < (TS.length : Int) := by omega
      obtain ⟨gt, ot, ct, hte, _, hgt⟩ := htA.form (by omega)
      obtain ⟨rfl, rfl⟩ : ta = some ⟨gt, ot, none⟩ ∧ tc = ct := by injection hte with e1 _ e3; exact ⟨e1, e3⟩
      clear hte
      obtain ⟨⟨q0, q1⟩, _⟩ := htA.cell hi
      have HR : Hid (lookV h 13 (i : Int) j = (TS[i].1, TS[i].2)) := by show _ = _; rw [HL.out]; simp [hi]
      go_enter Try.func93, Try.ntmps93
      go_upto_region 3 with fail
      generalize ((w.alloc (.cells #[.int .i64 13, .int .i64 (i : Int)] 95)).alloc (.cells #[.int .i64 0, .int .i64 0] 73)).alloc (.cells #[.int .i64 h.calls[j].m, .int .i64 h.calls[j].pc, .slice (some ⟨gt, ot, none⟩) TS.length tc, .slice sa SS.length sc, .int .i64 h.calls[j].sender, .bool h.calls[j].dead] 34) = W at *
      obtain ⟨⟨d0, d1, d2, d3, d4, d5⟩, _⟩ := six_cells rc
      obtain ⟨⟨o0, o1⟩, _⟩ := duo_cells ro
      obtain ⟨⟨r0, r1⟩, f0, f1⟩ := duo_cells rr
      go_wp2
      obtain ⟨⟨s0, s1⟩, _⟩ := duo_cells (duo_set rr (.int .i64 TS[i].1) (.int .i64 TS[i].2))
      refine bodyPost_ret (v := .agg #[.int .i64 TS[i].1, .int .i64 TS[i].2]) (by simp [results, Try.results93, go_sem, s0, s1]) rfl ?_
      exact ⟨by rw [HR.out], (hA.setCell (p := ⟨w.heap.size + 1, 0, none⟩) (Nat.le_succ _) _).setCell (p := ⟨w.heap.size + 1, 1, none⟩) (Nat.le_succ _) _⟩
    · have hiz : ¬ (i : Int) < (TS.length : Int) := by omega
      have HR : Hid (lookV h 13 (i : Int) j = (0, 0)) := by show _ = _; rw [HL.out]; simp [hi]
      go_enter Try.func93, Try.ntmps93
      go_upto_region 3 with fail
      generalize ((w.alloc (.cells #[.int .i64 13, .int .i64 (i : Int)] 95)).alloc (.cells #[.int .i64 0, .int .i64 0] 73)).alloc (.cells #[.int .i64 h.calls[j].m, .int .i64 h.calls[j].pc, .slice ta TS.length tc, .slice sa SS.length sc, .int .i64 h.calls[j].sender, .bool h.calls[j].dead] 34) = W at *
      obtain ⟨⟨d0, d1, d2, d3, d4, d5⟩, _⟩ := six_cells rc
      obtain ⟨⟨o0, o1⟩, _⟩ := duo_cells ro
      obtain ⟨⟨r0, r1⟩, f0, f1⟩ := duo_cells rr
      go_wp2
      obtain ⟨⟨s0, s1⟩, _⟩ := duo_cells (duo_set rr (.int .i64 0) (.int .i64 0))
      refine bodyPost_ret (v := .agg #[.int .i64 0, .int .i64 0]) (by simp [results, Try.results93, go_sem, s0, s1]) rfl ?_
      exact ⟨by rw [HR.out], (hA.setCell (p := ⟨w.heap.size + 1, 0, none⟩) (Nat.le_succ _) _).setCell (p := ⟨w.heap.size + 1, 1, none⟩) (Nat.le_succ _) _⟩
  · subst e
    generalize h.calls[j].dead = D at *
    cases D
    · have HR : Hid (lookV h 17 a j = (1, 0)) := by show _ = _; rw [HL.out]; rfl
      go_enter Try.func93, Try.ntmps93
      go_upto_region 3 with fail
      generalize ((w.alloc (.cells #[.int .i64 17, .int .i64 a] 95)).alloc (.cells #[.int .i64 0, .int .i64 0] 73)).alloc (.cells #[.int .i64 h.calls[j].m, .int .i64 h.calls[j].pc, .slice ta TS.length tc, .slice sa SS.length sc, .int .i64 h.calls[j].sender, .bool false] 34) = W at *
      obtain ⟨⟨d0, d1, d2, d3, d4, d5⟩, _⟩ := six_cells rc
      obtain ⟨⟨o0, o1⟩, _⟩ := duo_cells ro
      obtain ⟨⟨r0, r1⟩, f0, f1⟩ := duo_cells rr
      go_wp2_with (go_at_call 96; refine (l11Bit_any _ _).mono ?_; rintro e w' ⟨rfl, hw⟩; have rr' := row_below hw rr; have hA' := hA.trans (hw.mono hA.size); clear r0 r1 f0 f1; obtain ⟨⟨r0, r1⟩, f0, f1⟩ := duo_cells rr')
      obtain ⟨⟨s0, s1⟩, _⟩ := duo_cells (duo_set rr' (.int .i64 1) (.int .i64 0))
      refine bodyPost_ret (v := .agg #[.int .i64 1, .int .i64 0]) (by simp [results, Try.results93, go_sem, s0, s1]) rfl ?_
      exact ⟨by rw [HR.out], (hA'.setCell (p := ⟨w.heap.size + 1, 0, none⟩) (Nat.le_succ _) _).setCell (p := ⟨w.heap.size + 1, 1, none⟩) (Nat.le_succ _) _⟩
    · have HR : Hid (lookV h 17 a j = (1, 1)) := by show _ = _; rw [HL.out]; rfl
      go_enter Try.func93, Try.ntmps93
      go_upto_region 3 with fail
      generalize ((w.alloc (.cells #[.int .i64 17, .int .i64 a] 95)).alloc (.cells #[.int .i64 0, .int .i64 0] 73)).alloc (.cells #[.int .i64 h.calls[j].m, .int .i64 h.calls[j].pc, .slice ta TS.length tc, .slice sa SS.length sc, .int .i64 h.calls[j].sender, .bool true] 34) = W at *
      obtain ⟨⟨d0, d1, d2, d3, d4, d5⟩, _⟩ := six_cells rc
      obtain ⟨⟨o0, o1⟩, _⟩ := duo_cells ro
      obtain ⟨⟨r0, r1⟩, f0, f1⟩ := duo_cells rr
      go_wp2_with (go_at_call 96; refine (l11Bit_any _ _).mono ?_; rintro e w' ⟨rfl, hw⟩; have rr' := row_below hw rr; have hA' := hA.trans (hw.mono hA.size); clear r0 r1 f0 f1; obtain ⟨⟨r0, r1⟩, f0, f1⟩ := duo_cells rr')
      obtain ⟨⟨s0, s1⟩, _⟩ := duo_cells (duo_set rr' (.int .i64 1) (.int .i64 1))
      refine bodyPost_ret (v := .agg #[.int .i64 1, .int .i64 1]) (by simp [results, Try.results93, go_sem, s0, s1]) rfl ?_
      exact ⟨by rw [HR.out], (hA'.setCell (p := ⟨w.heap.size + 1, 0, none⟩) (Nat.le_succ _) _).setCell (p := ⟨w.heap.size + 1, 1, none⟩) (Nat.le_succ _) _⟩
  · subst e
    have HR : Hid (lookV h 18 a j = (1, h.calls[j].pc)) := by show _ = _; rw [HL.out]; rfl
    go_enter Try.func93, Try.ntmps93
    go_upto_region 3 with fail
    generalize ((w.alloc (.cells #[.int .i64 18, .int .i64 a] 95)).alloc (.cells #[.int .i64 0, .int .i64 0] 73)).alloc (.cells #[.int .i64 h.calls[j].m, .int .i64 h.calls[j].pc, .slice ta TS.length tc, .slice sa SS.length sc, .int .i64 h.calls[j].sender, .bool h.calls[j].dead] 34) = W at *
    obtain ⟨⟨d0, d1, d2, d3, d4, d5⟩, _⟩ := six_cells rc
    obtain ⟨⟨o0, o1⟩, _⟩ := duo_cells ro
    obtain ⟨⟨r0, r1⟩, f0, f1⟩ := duo_cells rr
    go_wp2_with (go_at_call 90; refine (l11Num_any _ _).mono ?_; rintro e w' ⟨rfl, hw⟩; have rr' := row_below hw rr; have hA' := hA.trans (hw.mono hA.size); clear r0 r1 f0 f1; obtain ⟨⟨r0, r1⟩, f0, f1⟩ := duo_cells rr')
    obtain ⟨⟨s0, s1⟩, _⟩ := duo_cells (duo_set rr' (.int .i64 1) (.int .i64 h.calls[j].pc))
    refine bodyPost_ret (v := .agg #[.int .i64 1, .int .i64 h.calls[j].pc]) (by simp [results, Try.results93, go_sem, s0, s1]) rfl ?_
    exact ⟨by rw [HR.out], (hA'.setCell (p := ⟨w.heap.size + 1, 0, none⟩) (Nat.le_succ _) _).setCell (p := ⟨w.heap.size + 1, 1, none⟩) (Nat.le_succ _) _⟩

end Go.Proofs.Ytleodeffmfkfkaa
