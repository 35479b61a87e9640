/-
  The model's ProgText answers the plain text; it writes to nothing that was there.
-/
import Derived.Test.YtlbkgnmalhidmaaDoorTextSpec1
import Derived.Test.YtlbkgnmalhidmaaDoorSpecOk2
namespace Go.Proofs.YtlbkgnmalhidmaaDoor
open Go.RowKit

theorem head_eq (T0 : List UInt8) (x t : Int) : bs T0 ++ bs [109, 101, 116, 104, 111, 100, 32] ++ bs (dec x) ++ bs [32] ++ bs (dec t) ++ bs [10] = bs (T0 ++ textHead x t) := by
  rw [bs_add, bs_add, bs_add, bs_add, bs_add]
  simp [textHead]

theorem op_eq {T0 : List UInt8} {ops : List (Int × Int)} {k : Nat} (h : k < ops.length) : bs (T0 ++ textOps (ops.take k)) ++ bs (wordOf ops[k].1 ++ tail ops[k].1 ops[k].2) ++ bs [10] = bs (T0 ++ textOps (ops.take (k + 1))) := by
  rw [bs_add, bs_add, textOps_snoc h]
  simp [textOp]

/-- two boxes: a program's methods at B; a method at C -/
structure Box2 (B C : Nat) (wr : World) (vp : Value) (x t : Int) (vo : Value) : Prop where
  p : wr.cell? ⟨B, 0, none⟩ = some vp
  a : wr.cell? ⟨C, 0, none⟩ = some (.int .i64 x)
  b : wr.cell? ⟨C, 1, none⟩ = some (.int .i64 t)
  c : wr.cell? ⟨C, 2, none⟩ = some vo

theorem Box2.below {B C : Nat} {w w' : World} {vp : Value} {x t : Int} {vo : Value} (h : Box2 B C w vp x t vo) (hb : Below w.heap.size w w') : Box2 B C w' vp x t vo :=
  ⟨cell_below hb h.p, cell_below hb h.a, cell_below hb h.b, cell_below hb h.c⟩

set_option maxRecDepth 100000 in
set_option maxHeartbeats 2000000 in
theorem specProgText_any (v : Value) (ms : List (Int × Int × List (Int × Int))) (w : World) (h : MethsAt w v ms) :
    Calls Tryd.prog 15 #[.agg #[v]] w fun e w' => e = .returned (.string (bs (textProg ms))) ∧ Below w.heap.size w w' := by
  have h0 := h
  obtain ⟨a, cap, rfl, hl, hc⟩ := h
  have hA : Below w.heap.size w (w.alloc (.cells #[.slice a ms.length cap] 26)) := (Below.refl _ _).alloc (Nat.le_refl _) _
  have q : (w.alloc (.cells #[.slice a ms.length cap] 26)).cell? ⟨w.heap.size, 0, none⟩ = some (.slice a ms.length cap) := by simp [go_sem]
  have HO : Hid (MethsAt w (.slice a ms.length cap) ms) := h0
  clear h0 hl
  go_enter Tryd.func15, Tryd.ntmps15
  go_wp2_with fail
  generalize w.alloc (.cells #[.slice a ms.length cap] 26) = W0 at *
  refine (specProgOk_any _ ms _ (HO.out.below hA)).mono ?_
  rintro e w1 ⟨rfl, hb1⟩
  have q1 := cell_below hb1 q
  have B1 : Below w.heap.size w w1 := hA.trans (hb1.mono hA.size)
  clear hA hb1 q
  cases hp : progOk ms
  · have HE : Hid (textProg ms = []) := by show textProg ms = []; simp [textProg, hp]
    go_wp2
    go_ret
    exact ⟨ret_str' (by rw [HE.out]; rfl), B1⟩
  have HE : Hid (textProg ms = textMeths ms) := by show textProg ms = _; simp [textProg, hp]
  obtain ⟨hm1, hm4, hmf⟩ := progOk_parts hp
  have HM : Hid (∀ m ∈ ms, MethFine m) := hmf
  clear hmf hp
  go_wp2
  go_loopg [3, 4] ms.length (fun g d i wr => ∃ k : Nat, k ≤ ms.length ∧ g = ms.length - k ∧ d = .string (bs (textMeths (ms.take k))) ∧ i = .int .i64 k ∧ wr.cell? ⟨w.heap.size, 0, none⟩ = some (.slice a ms.length cap) ∧ Below w.heap.size w wr)
  case atStart => exact ⟨0, Nat.zero_le _, rfl, rfl, rfl, q1, B1⟩
  case round =>
    obtain ⟨k, hk, rfl, rfl, rfl, bp, hb⟩ := hrel
    have hsz := hb.size
    clear B1 q1
    by_cases hlt : k < ms.length
    · obtain ⟨b, o, vo, rfl, c0, c1, c2, c3⟩ := hc k hlt
      have d0 := cell_below hb c0
      have d1 := cell_below hb c1
      have d2 := cell_below hb c2
      have d3 := c3.below hb
      clear c0 c1 c2 c3 hc
      obtain ⟨ao, co, hvo, hol, hoc⟩ := id d3
      rw [hvo] at d2 d3
      clear hvo
      have HOC : Hid (∀ i, (h : i < ms[k].2.2.length) → ∃ b o, ao = some ⟨b, o, none⟩ ∧ wr.cell? ⟨b, o + i * 2, none⟩ = some (.int .i64 ms[k].2.2[i].1) ∧ wr.cell? ⟨b, o + i * 2 + 1, none⟩ = some (.int .i64 ms[k].2.2[i].2)) := hoc
      clear hoc hol d3
      have hkz : (k : Int) < (ms.length : Int) := by omega
      have hfine : MethFine ms[k] := HM.out _ (List.getElem_mem hlt)
      have HF : Hid (MethFine ms[k]) := hfine
      have hs0 : (textMeths (ms.take k)).length ≤ 612 := textMeths_take_le HM.out hm4 k
      have HQ : Hid (textMeths (ms.take k) ++ (textHead ms[k].1 ms[k].2.1 ++ textOps ms[k].2.2) = textMeths (ms.take (k + 1))) := by
        show _ = _
        rw [textMeths_snoc hlt]; rfl
      have hx0 : 0 ≤ ms[k].1 := hfine.x0
      have hx2 : ms[k].1 < 100 := by have := hfine.x2; omega
      have ht0 : 0 ≤ ms[k].2.1 := hfine.t0
      have ht4 : ms[k].2.1 < 100 := by have := hfine.t4; omega
      have hno : ms[k].2.2.length ≤ 14 := hfine.no
      have HFa : Hid (∀ op ∈ ms[k].2.2, (1 ≤ op.1 ∧ op.1 ≤ 18) ∧ (0 ≤ op.2 ∧ op.2 < 100)) := fun op ho => ⟨hfine.kind op ho, hfine.a op ho⟩
      have z0 := textHead_le hx2 ht4
      clear hfine HF
      generalize ms[k].1 = x at *
      generalize ms[k].2.1 = t at *
      generalize ms[k].2.2 = ops at *
      have zx : (bs (dec x)).size ≤ 2 := by rw [bs_size]; exact dec_le hx2
      have zt : (bs (dec t)).size ≤ 2 := by rw [bs_size]; exact dec_le ht4
      have zT : (bs (textMeths (ms.take k))).size ≤ 612 := by rw [bs_size]; exact hs0
      have HH : Hid (bs (textMeths (ms.take k)) ++ bs [109, 101, 116, 104, 111, 100, 32] ++ bs (dec x) ++ bs [32] ++ bs (dec t) ++ bs [10] = bs (textMeths (ms.take k) ++ textHead x t)) := head_eq _ _ _
      generalize hTT : textMeths (ms.take k) = TT at *
      clear hTT
      go_wp2_with fail
      have hA : Below wr.heap.size wr (wr.alloc (.cells #[.int .i64 x, .int .i64 t, .slice ao ops.length co] 45)) := (Below.refl _ _).alloc (Nat.le_refl _) _
      have hbox : Box2 w.heap.size wr.heap.size (wr.alloc (.cells #[.int .i64 x, .int .i64 t, .slice ao ops.length co] 45)) (.slice (some ⟨b, o, none⟩) ms.length cap) x t (.slice ao ops.length co) := ⟨cell_below hA bp, by simp [go_sem], by simp [go_sem], by simp [go_sem]⟩
      have hb2 : Below w.heap.size w (wr.alloc (.cells #[.int .i64 x, .int .i64 t, .slice ao ops.length co] 45)) := hb.trans (hA.mono hsz)
      clear d0 d1 d2 bp
      generalize wr.alloc (.cells #[.int .i64 x, .int .i64 t, .slice ao ops.length co] 45) = W2 at *
      obtain ⟨bp, ba, bb, bc⟩ := id hbox
      have z1 : ¬ (9223372036854775807 < (bs TT).size + 7) := by omega
      have z2 : ¬ (9223372036854775807 < (bs TT).size + 7 + (bs (dec x)).size) := by omega
      have z3 : ¬ (9223372036854775807 < (bs TT).size + 7 + (bs (dec x)).size + 1) := by omega
      have z4 : ¬ (9223372036854775807 < (bs TT).size + 7 + (bs (dec x)).size + 1 + (bs (dec t)).size) := by omega
      have z5 : ¬ (9223372036854775807 < (bs TT).size + 7 + (bs (dec x)).size + 1 + (bs (dec t)).size + 1) := by omega
      go_region_held3 (fun w' => w'.cell? ⟨wr.heap.size, 0, none⟩ = some (.int .i64 x) ∧ w'.cell? ⟨wr.heap.size, 1, none⟩ = some (.int .i64 t))
        (first | (refine ⟨cell_below hR ?_, cell_below hR ?_⟩ <;> assumption) | go_keep)
        ((go_at_call 29; refine (l6Dec_any _ (by assumption) (by assumption) _).mono ?_; rintro e wD ⟨rfl, hbD⟩; first | (have hR := hR.trans (hbD.mono hR.size)) | (have hR := hbD)))
      all_goals
        have hbox3 := (hbox.below (Below.refl _ _).drew).below hR
        have hb3 := hb2.drew.trans (hR.mono hb2.size)
        have hb4 := (hA.drew).trans (hR.mono hA.size)
        have HH2 : bs TT ++ (⟨#[109, 101, 116, 104, 111, 100, 32]⟩ : ByteArray) ++ bs (dec x) ++ (⟨#[32]⟩ : ByteArray) ++ bs (dec t) ++ (⟨#[10]⟩ : ByteArray) = bs (TT ++ textHead x t) := HH.out
        rw [HH2]
        clear HH2 HH hR hbox hb2 hA bp ba bb bc z1 z2 z3 z4 z5 zx zt
        have hst : (TT ++ textHead x t).length ≤ 630 := by simp only [List.length_append]; omega
        have HQ : Hid ((TT ++ textHead x t) ++ textOps ops = textMeths (ms.take (k + 1))) := by show _ = _; rw [List.append_assoc]; exact HQ.out
        generalize TT ++ textHead x t = TH at *
        go_wp2
        go_loopg [3, 6] ops.length (fun g d i wq => ∃ j : Nat, j ≤ ops.length ∧ g = ops.length - j ∧ d = .string (bs (TH ++ textOps (ops.take j))) ∧ i = .int .i64 j ∧ Box2 w.heap.size wr.heap.size wq (.slice (some ⟨b, o, none⟩) ms.length cap) x t (.slice ao ops.length co) ∧ Below w.heap.size w wq ∧ Below wr.heap.size wr wq)
        case atStart => exact ⟨0, Nat.zero_le _, rfl, by simp [textOps], rfl, hbox3, hb3, hb4⟩
        case round =>
          obtain ⟨j, hj, rfl, rfl, rfl, hbox, hb5, hb6⟩ := hrel
          obtain ⟨bp, ba, bb, bc⟩ := id hbox
          clear hb3 hb4 hbox3
          by_cases hjl : j < ops.length
          · obtain ⟨b', o', rfl, e0, e1⟩ := HOC.out j hjl
            have d0 := cell_below hb6 e0
            have d1 := cell_below hb6 e1
            clear e0 e1
            have hjz : (j : Int) < (ops.length : Int) := by omega
            obtain ⟨⟨hk1, hk2⟩, ha0, ha1⟩ := HFa.out _ (List.getElem_mem hjl)
            have HS : Hid (∀ w, Calls _ _ _ w _) := fun w => l1Say_any ops[j].1 ops[j].2 hk1 hk2 ha0 ha1 w
            have y1 : (bs (TH ++ textOps (ops.take j))).size ≤ 800 := by
              rw [bs_size]
              have h2 : (textOps (ops.take j)).length ≤ 140 := textOps_take_le (fun op ho => (HFa.out op ho).2.2) hno j
              simp only [List.length_append]; omega
            have y2 : (bs (wordOf ops[j].1 ++ tail ops[j].1 ops[j].2)).size ≤ 9 := by
              rw [bs_size]
              have h1 := wordOf_le ops[j].1
              have h2 := tail_le (k := ops[j].1) ha1
              simp only [List.length_append]; omega
            have HY : Hid (bs (TH ++ textOps (ops.take j)) ++ bs (wordOf ops[j].1 ++ tail ops[j].1 ops[j].2) ++ bs [10] = bs (TH ++ textOps (ops.take (j + 1)))) := op_eq hjl
            generalize bs (TH ++ textOps (ops.take j)) = Y at *
            generalize bs (wordOf ops[j].1 ++ tail ops[j].1 ops[j].2) = Z at *
            generalize ops[j].1 = kk at *
            generalize ops[j].2 = aa at *
            have y3 : ¬ (9223372036854775807 < Y.size + Z.size) := by omega
            have y4 : ¬ (9223372036854775807 < Y.size + Z.size + 1) := by omega
            clear hk1 hk2 ha0 ha1
            go_wp2_with (go_at_call 30; refine (HS.out _).mono ?_; rintro e wS ⟨rfl, hbS⟩)
            have hbox7 := hbox.below hbS
            have hb7 := hb5.trans (hbS.mono hb5.size)
            have hb8 := hb6.trans (hbS.mono hb6.size)
            clear hbS hb5 hb6 hbox bp ba bb bc d0 d1
            go_roundg (ops.length - (j + 1))
            case measure => omega
            case rel => exact ⟨j + 1, by omega, rfl, congrArg Value.string HY.out, by go_num, hbox7, hb7, hb8⟩
          · obtain rfl : j = ops.length := by omega
            go_wp2
            go_roundg (ms.length - (k + 1))
            case measure => omega
            case rel => exact ⟨k + 1, by omega, rfl, by rw [← HQ.out]; simp, by go_num, bp, hb5⟩
    · obtain rfl : k = ms.length := by omega
      go_wp2
      go_ret
      exact ⟨ret_str' (by rw [HE.out]; simp), hb⟩

end Go.Proofs.YtlbkgnmalhidmaaDoor
