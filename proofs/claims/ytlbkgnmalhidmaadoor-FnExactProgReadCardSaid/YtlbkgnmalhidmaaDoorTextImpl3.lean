/-
  The program's methodText and ProgText answer the plain text; they write to nothing that was there.
-/
import Derived.Test.YtlbkgnmalhidmaaDoorTextImpl2
import Derived.Test.YtlbkgnmalhidmaaDoorImplOk3
import Derived.BigQuiet
import Derived.Deep.QuietTactic
namespace Go.Proofs.YtlbkgnmalhidmaaDoor
open Go.RowKit

theorem below_drewN' {B : Nat} {a w : World} (h : Below B a w) : ∀ n, Below B a (w.drewN n)
  | 0 => h
  | n + 1 => by
    have := below_drewN' h n
    exact ⟨this.os, this.tape, this.output, this.size, this.block⟩

set_option maxRecDepth 100000 in
set_option maxHeartbeats 2000000 in
theorem methodText_any (x t : Int) (vo : Value) (ops : List (Int × Int)) (w : World) (h : OpsAt w vo ops) (hf : MethFine (x, t, ops)) (ht : TabW w) :
    Calls Tryd.prog 24 #[.agg #[.int .i64 x, .int .i64 t, vo]] w fun e w' => e = .returned (.string (bs (textMeth (x, t, ops)))) ∧ Below w.heap.size w w' := by
  obtain ⟨ao, co, rfl, hl, hc⟩ := h
  have hx0 : 0 ≤ x := hf.x0
  have hx2 : x < 100 := by have := hf.x2; simp at this; omega
  have ht0 : 0 ≤ t := hf.t0
  have ht4 : t < 100 := by have := hf.t4; simp at this; omega
  have hno : ops.length ≤ 14 := hf.no
  have HF : Hid (MethFine (x, t, ops)) := hf
  have HT : Hid (TabW w) := ht
  clear hf ht hl
  have hsx : (bs (32 :: dec x)).size ≤ 3 := by rw [bs_size]; have := dec_le hx2; simp; omega
  have hst : (bs (32 :: dec t)).size ≤ 3 := by rw [bs_size]; have := dec_le ht4; simp; omega
  have HX := fun w => numberText_any x hx0 hx2 w
  have HT' := fun w => numberText_any t ht0 ht4 w
  have HE : Hid (bs [109, 101, 116, 104, 111, 100] ++ bs (32 :: dec x) ++ bs (32 :: dec t) ++ bs [10] = bs (textHead x t)) := by
    show _ = _
    rw [bs_add, bs_add, bs_add]; rfl
  generalize bs (32 :: dec x) = X at *
  generalize bs (32 :: dec t) = T at *
  have HX' : Hid (∀ w, Calls _ _ _ w _) := HX
  have HT'' : Hid (∀ w, Calls _ _ _ w _) := HT'
  clear HX HT'
  go_enter Tryd.func24, Tryd.ntmps24
  go_wp2_with fail
  go_quiet ((go_at_call 37; first | exact Calls.quiet_of_same (HX'.out _) | exact Calls.quiet_of_same (HT''.out _)))
  have HE2 : (⟨#[109, 101, 116, 104, 111, 100]⟩ : ByteArray) ++ X ++ T ++ ⟨#[10]⟩ = bs (textHead x t) := HE.out
  rw [HE2]
  have hbx : ∀ n, ((w.alloc (.cells #[.int .i64 x, .int .i64 t, .slice ao ops.length co] 45)).drewN n).cell? ⟨w.heap.size, 2, none⟩ = some (.slice ao ops.length co) := fun n => by simp [go_sem]
  have hB0 : ∀ n, Below w.heap.size w ((w.alloc (.cells #[.int .i64 x, .int .i64 t, .slice ao ops.length co] 45)).drewN n) := fun n => below_drewN' ((Below.refl _ _).alloc (Nat.le_refl _) _) n
  have hbx := hbx nq
  have hB0 := hB0 nq
  generalize (w.alloc (.cells #[.int .i64 x, .int .i64 t, .slice ao ops.length co] 45)).drewN nq = W0 at *
  clear HE HE2
  generalize hTX : bs (textHead x t) = TX
  have HTX : Hid (bs (textHead x t) = TX) := hTX
  clear hTX
  go_wp2
  go_loopg [3, 18] ops.length (fun g d i wr => ∃ k : Nat, k ≤ ops.length ∧ g = ops.length - k ∧ d = .string (bs (textHead x t ++ textOps (ops.take k))) ∧ i = .int .i64 k ∧ Below w.heap.size w wr)
  case atStart => exact ⟨0, Nat.zero_le _, rfl, by rw [← HTX.out]; simp [textOps], rfl, hB0⟩
  case round =>
    obtain ⟨k, hk, rfl, rfl, rfl, hb⟩ := hrel
    have hsz := hb.size
    clear hB0 hbx
    by_cases hlt : k < ops.length
    · obtain ⟨b, o, rfl, c0, c1⟩ := hc k hlt
      have d0 := cell_below hb c0
      have d1 := cell_below hb c1
      clear c0 c1 hc
      have hkz : (k : Int) < (ops.length : Int) := by omega
      have hmem : ops[k] ∈ ops := List.getElem_mem hlt
      have hkd := HF.out.kind _ hmem
      have ha := HF.out.a _ hmem
      have hs0 : (bs (textHead x t ++ textOps (ops.take k))).size ≤ 200 := by
        rw [bs_size]
        have h1 := textHead_le hx2 ht4
        have h2 : (textOps (ops.take k)).length ≤ 140 := textOps_take_le (fun op ho => (HF.out.a op ho).2) hno k
        simp only [List.length_append]; omega
      have HQ : Hid (bs (textHead x t ++ textOps (ops.take k)) ++ (bs (wordOf ops[k].1) ++ bs (tail ops[k].1 ops[k].2) ++ bs [10]) = bs (textHead x t ++ textOps (ops.take (k + 1)))) := by
        show _ = _
        rw [bs_add, bs_add, bs_add, textOps_snoc hlt, List.append_assoc]; rfl
      have hs1 : (bs (wordOf ops[k].1)).size ≤ 6 := by rw [bs_size]; exact wordOf_le _
      have hs2 : (bs (tail ops[k].1 ops[k].2)).size ≤ 3 := by rw [bs_size]; exact tail_le ha.2
      have hop := fun w => operandText_any ops[k].1 ops[k].2 ha.1 ha.2 w
      clear hmem
      generalize ops[k].1 = kk at *
      obtain ⟨n, rfl⟩ := Int.eq_ofNat_of_zero_le (show 0 ≤ kk by omega)
      have hn19 : n < 19 := by omega
      have tw := cell_below hb (HT.out n hn19)
      generalize ops[k].2 = aa at *
      generalize bs (textHead x t ++ textOps (ops.take k)) = T0 at *
      generalize bs (wordOf (n : Int)) = A at *
      generalize bs (tail (n : Int) aa) = B at *
      have HP : Hid (∀ w, Calls _ _ _ w _) := hop
      have hn19' : (n : Int) < 19 := by omega
      have z1 : ¬ (9223372036854775807 < A.size + B.size) := by omega
      have z2 : ¬ (9223372036854775807 < A.size + B.size + 1) := by omega
      have z3 : ¬ (9223372036854775807 < T0.size + (A.size + B.size + 1)) := by omega
      clear hs0 hs1 hs2
      clear hop hkd ha
      go_wp2_with fail
      have q0 : (wr.alloc (.cells #[.int .i64 n, .int .i64 aa] 47)).cell? ⟨wr.heap.size, 0, none⟩ = some (.int .i64 n) := by simp [go_sem]
      have q1 : (wr.alloc (.cells #[.int .i64 n, .int .i64 aa] 47)).cell? ⟨wr.heap.size, 1, none⟩ = some (.int .i64 aa) := by simp [go_sem]
      have hA : Below wr.heap.size wr (wr.alloc (.cells #[.int .i64 n, .int .i64 aa] 47)) := (Below.refl _ _).alloc (Nat.le_refl _) _
      have q2 := cell_below hA tw
      have hb2 : Below w.heap.size w (wr.alloc (.cells #[.int .i64 n, .int .i64 aa] 47)) := hb.trans (hA.mono hsz)
      clear hA tw d0 d1 hb
      generalize wr.alloc (.cells #[.int .i64 n, .int .i64 aa] 47) = W2 at *
      go_region_held3 (fun w' => w'.cell? ⟨wr.heap.size, 0, none⟩ = some (.int .i64 n) ∧ w'.cell? ⟨wr.heap.size, 1, none⟩ = some (.int .i64 aa) ∧ w'.cell? ⟨0, n * 3, none⟩ = some (.string A))
        (first | (refine ⟨cell_below hbT ?_, cell_below hbT ?_, cell_below hbT ?_⟩ <;> assumption) | go_keep)
        ((go_at_call 38; refine (HP.out _).mono ?_; rintro e wT ⟨rfl, hbT⟩))
      have hb3 : Below w.heap.size w wT := hb2.drew.trans (hbT.mono hb2.size)
      clear hbT hb2 q0 q1 q2
      go_wp2
      go_roundg (ops.length - (k + 1))
      case measure => omega
      case rel => exact ⟨k + 1, by omega, rfl, congrArg Value.string HQ.out, by go_num, hb3⟩
    · obtain rfl : k = ops.length := by omega
      go_wp2
      go_ret
      exact ⟨ret_str (by simp [textMeth]), hb⟩

set_option maxRecDepth 100000 in
set_option maxHeartbeats 2000000 in
theorem implProgText_any (v : Value) (ms : List (Int × Int × List (Int × Int))) (w : World) (h : MethsAt w v ms) (ht : TabW w) :
    Calls Tryd.prog 10 #[.agg #[v]] w fun e w' => e = .returned (.string (bs (textProg ms))) ∧ Below w.heap.size w w' := by
  have h0 := h
  obtain ⟨a, cap, rfl, hl, hc⟩ := h
  have hA : Below w.heap.size w (w.alloc (.cells #[.slice a ms.length cap] 26)) := (Below.refl _ _).alloc (Nat.le_refl _) _
  have q : (w.alloc (.cells #[.slice a ms.length cap] 26)).cell? ⟨w.heap.size, 0, none⟩ = some (.slice a ms.length cap) := by simp [go_sem]
  have HO : Hid (MethsAt w (.slice a ms.length cap) ms) := h0
  have HT : Hid (TabW w) := ht
  clear h0 ht hl
  go_enter Tryd.func10, Tryd.ntmps10
  go_wp2_with fail
  generalize w.alloc (.cells #[.slice a ms.length cap] 26) = W0 at *
  refine (implProgOk_any _ ms _ (HO.out.below hA)).mono ?_
  rintro e w1 ⟨rfl, hb1⟩
  have q1 := cell_below hb1 q
  have B1 : Below w.heap.size w w1 := hA.trans (hb1.mono hA.size)
  clear hA hb1 q
  cases hp : progOk ms
  · have HE : Hid (textProg ms = []) := by show textProg ms = []; simp [textProg, hp]
    go_wp2
    go_ret
    exact ⟨ret_str (by rw [HE.out]; rfl), B1⟩
  have HE : Hid (textProg ms = textMeths ms) := by show textProg ms = _; simp [textProg, hp]
  obtain ⟨hm1, hm4, hmf⟩ := progOk_parts hp
  have HM : Hid (∀ m ∈ ms, MethFine m) := hmf
  clear hmf hp
  go_wp2
  go_loopg [3, 12] ms.length (fun g d i wr => ∃ k : Nat, k ≤ ms.length ∧ g = ms.length - k ∧ d = .string (bs (textMeths (ms.take k))) ∧ i = .int .i64 k ∧ Below w.heap.size w wr)
  case atStart => exact ⟨0, Nat.zero_le _, rfl, rfl, rfl, B1⟩
  case round =>
    obtain ⟨k, hk, rfl, rfl, rfl, hb⟩ := hrel
    have hsz := hb.size
    clear B1 q1
    by_cases hlt : k < ms.length
    · obtain ⟨b, o, vo, rfl, c0, c1, c2, c3⟩ := hc k hlt
      have d0 := cell_below hb c0
      have d1 := cell_below hb c1
      have d2 := cell_below hb c2
      have d3 := c3.below hb
      clear c0 c1 c2 c3 hc
      obtain ⟨ao, co, hvo, hgo⟩ := id d3
      rw [hvo] at d2 d3
      clear hvo hgo
      have hkz : (k : Int) < (ms.length : Int) := by omega
      have hfine : MethFine ms[k] := HM.out _ (List.getElem_mem hlt)
      have HF : Hid (MethFine (ms[k].1, ms[k].2.1, ms[k].2.2)) := hfine
      have hs0 : (bs (textMeths (ms.take k))).size ≤ 700 := by
        rw [bs_size]
        have := textMeths_take_le HM.out hm4 k
        omega
      have hs1 : (bs (textMeth (ms[k].1, ms[k].2.1, ms[k].2.2))).size ≤ 200 := by
        rw [bs_size]
        have := hfine.text_le
        have e : textMeth (ms[k].1, ms[k].2.1, ms[k].2.2) = textMeth ms[k] := rfl
        rw [e]; omega
      have HQ : Hid (bs (textMeths (ms.take k)) ++ bs (textMeth (ms[k].1, ms[k].2.1, ms[k].2.2)) = bs (textMeths (ms.take (k + 1)))) := by
        show _ = _
        rw [bs_add, textMeths_snoc hlt]
      have hA : ∀ o1, Below wr.heap.size wr (wr.alloc o1) := fun o1 => (Below.refl _ _).alloc (Nat.le_refl _) _
      have HP : Hid (∀ o1, Calls Tryd.prog 24 #[.agg #[.int .i64 ms[k].1, .int .i64 ms[k].2.1, .slice ao ms[k].2.2.length co]] (wr.alloc o1) fun e w' => e = .returned (.string (bs (textMeth (ms[k].1, ms[k].2.1, ms[k].2.2)))) ∧ Below (wr.alloc o1).heap.size (wr.alloc o1) w') := fun o1 => methodText_any _ _ _ _ _ (d3.below (hA o1)) HF.out (TabW.below (TabW.below HT.out hb) (hA o1))
      generalize bs (textMeths (ms.take k)) = T0 at *
      generalize bs (textMeth (ms[k].1, ms[k].2.1, ms[k].2.2)) = T1 at *
      generalize ms[k].1 = xx at *
      generalize ms[k].2.1 = tt at *
      clear d3 hfine
      go_wp2_with (go_at_call 24; refine (HP.out _).mono ?_; rintro e w2 ⟨rfl, hb2⟩)
      have hb3 : Below w.heap.size w w2 := (hb.alloc hsz _).trans (hb2.mono (by simp; omega))
      clear hb2 hb d0 d1 d2 hA
      go_roundg (ms.length - (k + 1))
      case measure => omega
      case rel => exact ⟨k + 1, by omega, rfl, congrArg Value.string HQ.out, by go_num, hb3⟩
    · obtain rfl : k = ms.length := by omega
      go_wp2
      go_ret
      exact ⟨ret_str (by rw [HE.out]; simp), hb⟩

end Go.Proofs.YtlbkgnmalhidmaaDoor
