/-
  The law FnHeapNoLook, walked: whatever bytes come in, it answers true and writes to nothing that was there, where the table opForms lies as its text lays it.
-/
import Derived.Test.YtfpodljalccpnaaGreatDoorDrawNew
import Derived.Test.YtfpodljalccpnaaGreatDoorLmNoLook
import Derived.Test.YtfpodljalccpnaaGreatDoorLLive2
import Derived.Test.YtfpodljalccpnaaGreatDoorLOut
import Derived.Test.YtfpodljalccpnaaGreatDoorTrimPlain
import Derived.Test.YtfpodljalccpnaaGreatDoorLWalk14
import Derived.Deep.RegionHeld3

namespace Go.Proofs.YtfpodljalccpnaaGreatDoor
open Go.RowKit
theorem noLook_run {qs : Ms} (hn : NoHere qs) (hp : progOk qs = true) (n : Nat) : Good qs (newHp qs) ∧ Good qs (runH qs n (newHp qs)) ∧ NoV (runH qs n (newHp qs)).said ∧ (viewL (runH qs n (newHp qs))).length = deepOf (runH qs n (newHp qs)).calls (runH qs n (newHp qs)).now ∧ (runH qs n (newHp qs)).said.length ≤ n := by
  have g0 := good_iff.1 (newHp_ok hp)
  have n0 : NoC (newHp qs) := by
    rw [newHp_yes hp]
    refine ⟨fun c hc => ?_, NoV.nil⟩
    obtain rfl : c = ⟨0, 0, List.replicate (temps0 qs) (0, 0), [], -1, false⟩ := by simpa using hc
    refine ⟨fun v hv => ?_, NoV.nil⟩
    rw [(List.mem_replicate.1 hv).2]
    decide
  have g := Good.run n _ g0
  have nn := NoC.run hn n n0
  refine ⟨g0, g, nn.2, (nn.seen g).trans (good_deep g).symm, ?_⟩
  have h1 := said_run qs n (newHp qs)
  have h2 : (newHp qs).said.length = 0 := by rw [newHp_yes hp]; rfl
  omega
set_option maxRecDepth 100000 in
set_option maxHeartbeats 4000000 in
theorem lawHeapNoLook_any (w : World) (a : Option Addr) (len cap : Nat) (h : BytesAt w a len cap) (hT : TabAt w) :
    Calls Tryz.prog 4 #[.slice a len cap] w fun e w' => e = .returned (.bool true) ∧ Below w.heap.size w w' := by
  have hc := h.1
  have hm := h.2.1
  unfold maxLen at hm
  have HB : Hid (BytesAt w a len cap) := h
  have HT : Hid (TabAt w) := hT
  clear h hT
  by_cases hl : 1048576 < len
  · have hlz : (1048576 : Int) < (len : Int) := by omega
    go_enter Tryz.func4, Tryz.ntmps4
    go_wp2
    go_ret
    exact ⟨rfl, Below.refl _ _⟩
  have hlz : (len : Int) ≤ 1048576 := by omega
  go_enter Tryz.func4, Tryz.ntmps4
  go_wp2_with fail
  refine (drawHeapNew_any _ a len cap HB.out).mono ?_
  rintro e w1 ⟨v, ms, rfl, hD1, hB1⟩
  obtain ⟨aV, cV, hvV⟩ := hD1.row.shape
  subst hvV
  have z1 := hB1.size
  have hf7 := hD1.few
  have HOPS : Hid (∀ m ∈ plainOf ms, m.2.2.length ≤ 14) := fun m hm => by
    obtain ⟨x, hx, rfl⟩ := List.mem_map.1 hm
    exact hD1.ops x hx
  have hpl : (plainOf ms).length = ms.length := by simp [plainOf]
  clear HB
  go_upto_region 4 with fail
  have hN := (Below.refl w1.heap.size w1).alloc (Nat.le_refl _) (.cells #[.slice aV ms.length cV] 25)
  have HM2 : Hid (MethsAt (w1.alloc (.cells #[.slice aV ms.length cV] 25)) (.slice aV ms.length cV) (plainOf ms)) := (hD1.below hN).meths
  have hB2 := hB1.trans (hN.mono z1)
  have x2 := pbox_new w1 (.slice aV ms.length cV)
  generalize w1.alloc (.cells #[.slice aV ms.length cV] 25) = w2 at *
  have c2 := x2.cell (i := 0) (by decide)
  have z2 := hB2.size
  have HNL := lmNoLook_any (.slice aV ms.length cV) (plainOf ms) w2 HM2.out (by omega) HOPS.out
  clear hD1 hB1 hN x2
  go_wp2_with fail
  refine HNL.mono ?_
  rintro e w3 ⟨⟨vq, rfl, hM3⟩, hb3⟩
  have HNH : Hid (NoHere (noLook (plainOf ms))) := noLook_here _
  generalize noLook (plainOf ms) = qs at *
  obtain ⟨aQ, cQ, hvQ, _⟩ := id hM3
  subst hvQ
  have hB3 := hB2.trans (hb3.mono z2)
  have z3 := hB3.size
  clear HNL hB2 hb3 c2 z2 HM2 HOPS
  go_upto_region 5 with fail
  have N4 := (Below.refl w3.heap.size w3).alloc (Nat.le_refl _) (.cells #[.slice aQ qs.length cQ] 25)
  have rq4 := pbox_new w3 (.slice aQ qs.length cQ)
  have HMQ : Hid (MethsAt (w3.alloc (.cells #[.slice aQ qs.length cQ] 25)) (.slice aQ qs.length cQ) qs) := hM3.below N4
  have hB4 := hB3.trans (N4.mono z3)
  clear hM3 N4 hB3
  generalize w3.alloc (.cells #[.slice aQ qs.length cQ] 25) = W4 at *
  generalize w3.heap.size = bq at *
  have z4 := hB4.size
  obtain ⟨nh, hnh⟩ : ∃ nh, newHp qs = nh := ⟨_, rfl⟩
  obtain ⟨pk, hpk⟩ : ∃ pk, progOk qs = pk := ⟨_, rfl⟩
  have HNE : Hid (newHp qs = nh ∧ progOk qs = pk) := ⟨hnh, hpk⟩
  have HI5 : Calls Tryz.prog 17 #[.agg #[.slice aQ qs.length cQ]] W4 fun e w' => (∃ a1 k1 a2 k2, e = .returned (.tuple #[.agg #[.slice a1 nh.calls.length k1, .int .i64 nh.now, .int .i64 nh.born, .slice a2 nh.said.length k2, .int .i64 nh.code], .bool pk]) ∧ HeapAt w' (.slice a1 nh.calls.length k1) (.slice a2 nh.said.length k2) nh) ∧ Below W4.heap.size W4 w' := by
    have q := implHeapNew_any (.slice aQ qs.length cQ) qs W4 HMQ.out
    rw [hnh, hpk] at q
    refine q.mono ?_
    rintro e w' ⟨hb, vc', vs', V', rfl, ho⟩
    obtain ⟨a1, k1, hv1⟩ := ho.at.c.shape
    obtain ⟨a2, k2, hv2⟩ := ho.at.s.shape
    subst hv1 hv2
    exact ⟨⟨a1, k1, a2, k2, rfl, ho.at⟩, hb⟩
  have HS6 : Hid (∀ W, Below W4.heap.size W4 W → Calls Tryz.prog 18 #[.agg #[.slice aQ qs.length cQ]] W fun e w' => (∃ a1 k1 a2 k2, e = .returned (.tuple #[.agg #[.slice a1 nh.calls.length k1, .int .i64 nh.now, .int .i64 nh.born, .slice a2 nh.said.length k2, .int .i64 nh.code], .bool pk])) ∧ Below W.heap.size W w') := fun W hW => by
    have q := specHeapNew_any (.slice aQ qs.length cQ) qs W (HMQ.out.below hW)
    rw [hnh, hpk] at q
    refine q.mono ?_
    rintro e w' ⟨hb, vc', vs', rfl, ho⟩
    obtain ⟨a1, k1, hv1⟩ := ho.c.shape
    obtain ⟨a2, k2, hv2⟩ := ho.s.shape
    subst hv1 hv2
    exact ⟨⟨a1, k1, a2, k2, rfl⟩, hb⟩
  clear hnh hpk
  have c4 := rq4.cell (i := 0) (by decide)
  go_wp2_with fail
  refine HI5.mono ?_
  rintro e w5 ⟨⟨a5, k5, b5, l5, rfl, hO5⟩, hb5⟩
  have z5 := hb5.size
  have rq5 := row_below hb5 rq4
  clear HI5 c4 rq4
  go_upto_region 6 with fail
  have N6 : Below w5.heap.size w5 (w5.alloc (.cells #[.slice a5 nh.calls.length k5, .int .i64 nh.now, .int .i64 nh.born, .slice b5 nh.said.length l5, .int .i64 nh.code] 29)) := (Below.refl _ _).alloc (Nat.le_refl _) _
  have rh6 := five_new w5 29 (.slice a5 nh.calls.length k5) (.int .i64 nh.now) (.int .i64 nh.born) (.slice b5 nh.said.length l5) (.int .i64 nh.code)
  have rq6 := row_below N6 rq5
  have b6 := hb5.trans (N6.mono z5)
  have HH6 : Hid (HeapAt (w5.alloc (.cells #[.slice a5 nh.calls.length k5, .int .i64 nh.now, .int .i64 nh.born, .slice b5 nh.said.length l5, .int .i64 nh.code] 29)) (.slice a5 nh.calls.length k5) (.slice b5 nh.said.length l5) nh) := hO5.below N6
  clear hO5 rq5 N6 hb5
  generalize w5.alloc (.cells #[.slice a5 nh.calls.length k5, .int .i64 nh.now, .int .i64 nh.born, .slice b5 nh.said.length l5, .int .i64 nh.code] 29) = W6 at *
  generalize w5.heap.size = bh at *
  have z6 := b6.size
  have c6 := rq6.cell (i := 0) (by decide)
  have HC6 := HS6.out W6 b6
  go_wp2_with fail
  refine HC6.mono ?_
  rintro e w7 ⟨⟨a7, k7, b7, l7, rfl⟩, hb7⟩
  have z7 := hb7.size
  have rq7 := row_below hb7 rq6
  have rh7 := row_below hb7 rh6
  clear HC6 HS6 c6 rq6 rh6
  go_upto_region 7 with fail
  have N8 : Below w7.heap.size w7 (w7.alloc (.cells #[.slice a7 nh.calls.length k7, .int .i64 nh.now, .int .i64 nh.born, .slice b7 nh.said.length l7, .int .i64 nh.code] 29)) := (Below.refl _ _).alloc (Nat.le_refl _) _
  have rq8 := row_below N8 rq7
  have rh8 := row_below N8 rh7
  have c8 := hb7.trans (N8.mono z7)
  have b8 := b6.trans (c8.mono z6)
  have HH8 : Hid (HeapAt (w7.alloc (.cells #[.slice a7 nh.calls.length k7, .int .i64 nh.now, .int .i64 nh.born, .slice b7 nh.said.length l7, .int .i64 nh.code] 29)) (.slice a5 nh.calls.length k5) (.slice b5 nh.said.length l5) nh) := HH6.out.below c8
  clear rq7 rh7 N8 hb7 HH6 c8
  generalize w7.alloc (.cells #[.slice a7 nh.calls.length k7, .int .i64 nh.now, .int .i64 nh.born, .slice b7 nh.said.length l7, .int .i64 nh.code] 29) = W8 at *
  have hB8 := hB4.trans (b8.mono z4)
  cases pk
  · go_wp2
    go_ret
    exact ⟨rfl, hB8⟩
  obtain ⟨gN, gR, nR, vR, sR⟩ := noLook_run HNH.out HNE.out.2 300
  rw [HNE.out.1] at gN gR nR vR sR
  obtain ⟨R, hR⟩ : ∃ R, runH qs 300 nh = R := ⟨_, rfl⟩
  rw [hR] at gR nR vR sR
  have hnl : nh.calls.length ≤ 30 ∧ nh.said.length ≤ 1000 := by
    have e := HNE.out.1
    have h1 := (newHp_short qs).2
    rw [newHp_yes HNE.out.2] at e
    refine ⟨by rw [HNE.out.1] at h1; omega, ?_⟩
    rw [← e]
    simp
  have HR9 : Calls Tryz.prog 13 #[.agg #[.slice aQ qs.length cQ], .agg #[.slice a5 nh.calls.length k5, .int .i64 nh.now, .int .i64 nh.born, .slice b5 nh.said.length l5, .int .i64 nh.code], .int .i64 300] W8 fun e w' => (∃ a1 k1 a2 k2, e = .returned (.tuple #[.agg #[.slice a1 R.calls.length k1, .int .i64 R.now, .int .i64 R.born, .slice a2 R.said.length k2, .int .i64 R.code], .bool true]) ∧ HeapAt w' (.slice a1 R.calls.length k1) (.slice a2 R.said.length k2) R) ∧ Below W8.heap.size W8 w' := by
    have q := implHeapRun_any (.slice aQ qs.length cQ) (.slice a5 nh.calls.length k5) (.slice b5 nh.said.length l5) qs nh 300 W8 (HMQ.out.below b8) (HT.out.below hB8) HH8.out (by omega) (by omega)
    have e1 : (heapOk qs nh && inR 300 0 400) = true := by rw [good_iff.2 gN]; rfl
    have e2 : hRun qs nh 300 = R := by unfold hRun; rw [if_pos e1]; exact hR
    rw [e1, e2] at q
    refine q.mono ?_
    rintro e w' ⟨⟨vc', vs', V', rfl, ho⟩, hb⟩
    obtain ⟨a1, k1, hv1⟩ := ho.at.c.shape
    obtain ⟨a2, k2, hv2⟩ := ho.at.s.shape
    subst hv1 hv2
    exact ⟨⟨a1, k1, a2, k2, rfl, ho.at⟩, hb⟩
  have HP : Hid (Good qs R ∧ NoV R.said ∧ R.said.length ≤ 300) := ⟨gR, nR, sR⟩
  obtain ⟨al, hal⟩ : ∃ al, deepOf R.calls R.now = al := ⟨_, rfl⟩
  rw [hal] at vR
  have HAL : Hid (deepOf R.calls R.now = al ∧ (viewL R).length = al) := ⟨hal, vR⟩
  clear hR gN gR nR vR sR hal
  obtain ⟨⟨d0, d1, d2, d3, d4⟩, _⟩ := five_cells rh8
  have dq := rq8.cell (i := 0) (by decide)
  go_wp2_with fail
  refine HR9.mono ?_
  rintro e w9 ⟨⟨a9, k9, b9, l9, rfl, hO9⟩, hb9⟩
  have z9 := hb9.size
  clear HR9 d0 d1 d2 d3 d4 dq rq8 rh8
  go_upto_region 10 with fail
  have N10 : Below w9.heap.size w9 (w9.alloc (.cells #[.slice a9 R.calls.length k9, .int .i64 R.now, .int .i64 R.born, .slice b9 R.said.length l9, .int .i64 R.code] 29)) := (Below.refl _ _).alloc (Nat.le_refl _) _
  have rx10 := five_new w9 29 (.slice a9 R.calls.length k9) (.int .i64 R.now) (.int .i64 R.born) (.slice b9 R.said.length l9) (.int .i64 R.code)
  have b10 := hb9.trans (N10.mono z9)
  have HX10 : Hid (HeapAt (w9.alloc (.cells #[.slice a9 R.calls.length k9, .int .i64 R.now, .int .i64 R.born, .slice b9 R.said.length l9, .int .i64 R.code] 29)) (.slice a9 R.calls.length k9) (.slice b9 R.said.length l9) R) := hO9.below N10
  clear hO9 N10 hb9
  generalize w9.alloc (.cells #[.slice a9 R.calls.length k9, .int .i64 R.now, .int .i64 R.born, .slice b9 R.said.length l9, .int .i64 R.code] 29) = W10 at *
  generalize w9.heap.size = bx at *
  have hB10 := hB8.trans (b10.mono hB8.size)
  obtain ⟨⟨x0, x1, x2, x3, x4⟩, _⟩ := five_cells rx10
  have HLT : Hid (∀ W, Below W10.heap.size W10 W → Calls Tryz.prog 19 #[.slice b9 R.said.length l9] W fun e w' => e = .returned (.bool false) ∧ Below W.heap.size W w') := fun W hW => lmTells_any _ R.said W (HX10.out.s.below hW) HP.out.2.1 (by have := HP.out.2.2; omega)
  have HVX : Hid (∀ W, Below W10.heap.size W10 W → Calls Tryz.prog 20 #[.agg #[.slice a9 R.calls.length k9, .int .i64 R.now, .int .i64 R.born, .slice b9 R.said.length l9, .int .i64 R.code]] W fun e w' => (∃ a1 k1, e = .returned (.slice a1 al k1)) ∧ Below W.heap.size W w') := fun W hW => by
    obtain ⟨s1, s2⟩ := good_short HP.out.1
    have q := implHeapView_any (.slice a9 R.calls.length k9) (.slice b9 R.said.length l9) R W (HX10.out.below hW) s1 s2
    refine q.mono ?_
    rintro e w' ⟨⟨v', V', rfl, ho⟩, hb⟩
    obtain ⟨a1, k1, hv1⟩ := ho.at.shape
    rw [HAL.out.2] at hv1
    subst hv1
    exact ⟨⟨a1, k1, rfl⟩, hb⟩
  have HDX : Hid (∀ W, Below W10.heap.size W10 W → Calls Tryz.prog 21 #[.agg #[.slice a9 R.calls.length k9, .int .i64 R.now, .int .i64 R.born, .slice b9 R.said.length l9, .int .i64 R.code]] W fun e w' => e = .returned (.int .i64 (al : Int)) ∧ Below W.heap.size W w') := fun W hW => by
    have hl := (good_short HP.out.1).2
    have q := implHeapDeep_any (.slice a9 R.calls.length k9) (.slice b9 R.said.length l9) R W (HX10.out.below hW) (by omega)
    rw [HAL.out.1] at q
    exact q
  have HKC : ∀ W, Below W10.heap.size W10 W → (W.cell? ⟨bx, 0, none⟩ = some (.slice a9 R.calls.length k9) ∧ W.cell? ⟨bx, 1, none⟩ = some (.int .i64 R.now) ∧ W.cell? ⟨bx, 2, none⟩ = some (.int .i64 R.born) ∧ W.cell? ⟨bx, 3, none⟩ = some (.slice b9 R.said.length l9) ∧ W.cell? ⟨bx, 4, none⟩ = some (.int .i64 R.code)) := fun W hW => ⟨cell_below hW x0, cell_below hW x1, cell_below hW x2, cell_below hW x3, cell_below hW x4⟩
  have b10d : Below W10.heap.size W10 W10.drew := (Below.refl _ _).drew
  clear HMQ HT HNE HNH HH8 HX10 HP HAL
  go_wp2_with fail
  go_region_held3 (fun W => (W.cell? ⟨bx, 0, none⟩ = some (.slice a9 R.calls.length k9) ∧ W.cell? ⟨bx, 1, none⟩ = some (.int .i64 R.now) ∧ W.cell? ⟨bx, 2, none⟩ = some (.int .i64 R.born) ∧ W.cell? ⟨bx, 3, none⟩ = some (.slice b9 R.said.length l9) ∧ W.cell? ⟨bx, 4, none⟩ = some (.int .i64 R.code)))
    (first | with_reducible exact SC | with_reducible exact SB | with_reducible exact SA | go_keep)
    ((first
      | (have hh := hbB; clear hh; go_at_call 21; refine (HDX.out _ BB).mono ?_; rintro e wC ⟨rfl, hbC⟩; have BC := BB.trans (hbC.mono BB.size); have SC := HKC wC BC)
      | (have hh := hbA; clear hh; go_at_call 20; refine (HVX.out _ BA).mono ?_; rintro e wB ⟨⟨aB, kB, rfl⟩, hbB⟩; have BB := BA.trans (hbB.mono BA.size); have SB := HKC wB BB)
      | (go_at_call 19; refine (HLT.out _ b10d).mono ?_; rintro e wA ⟨rfl, hbA⟩; have BA := b10d.trans (hbA.mono (Nat.le_refl _)); have SA := HKC wA BA)))
  have BZ : Below w.heap.size w wC := hB10.trans (BC.mono hB10.size)
  go_wp2
  go_ret
  exact ⟨ret_bool (by first | rfl | simp), BZ⟩
end Go.Proofs.YtfpodljalccpnaaGreatDoor
