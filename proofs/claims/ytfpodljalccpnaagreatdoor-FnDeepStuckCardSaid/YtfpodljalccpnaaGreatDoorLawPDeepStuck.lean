/-
  The law FnDeepStuck, walked: whatever bytes come in, it answers true and writes to nothing that was there, where the table opForms lies as its text lays it.
-/
import Derived.Test.YtfpodljalccpnaaGreatDoorDraw13
import Derived.Test.YtfpodljalccpnaaGreatDoorDeepI
import Derived.Test.YtfpodljalccpnaaGreatDoorDeepRun
import Derived.Test.YtfpodljalccpnaaGreatDoorVSpec2
import Derived.Test.YtfpodljalccpnaaGreatDoorLOut
import Derived.BigRegion

namespace Go.Proofs.YtfpodljalccpnaaGreatDoor
open Go.RowKit
theorem tables {qs : Ms} (h : AllDeep qs) : ∃ F : Nat → List Int, ∀ m : Nat, m < qs.length → DeepRes qs m true (F m) ∧ Closed qs (opsOf qs m) (F m) := by
  have hx : ∀ m : Nat, ∃ f, m < qs.length → DeepRes qs m true f := fun m => by
    by_cases hm : m < qs.length
    · obtain ⟨f, hf⟩ := h.2 m hm
      exact ⟨f, fun _ => hf⟩
    · exact ⟨[], fun e => absurd e hm⟩
  refine ⟨fun m => (hx m).choose, fun m hm => ?_⟩
  have hs := (hx m).choose_spec hm
  refine ⟨hs, ?_⟩
  rcases hs with ⟨_, hR, _⟩ | ⟨e, _⟩
  · exact hR.2.2
  · cases e
theorem deep_run {qs : Ms} (hp : progOk qs = true) {F : Nat → List Int} (hF : ∀ m : Nat, m < qs.length → Closed qs (opsOf qs m) (F m)) (n : Nat) : Good qs (newHp qs) ∧ Good qs (runH qs n (newHp qs)) ∧ ((runH qs n (newHp qs)).code = 0 → TInv qs F (runH qs n (newHp qs))) ∧ ((runH qs n (newHp qs)).code = 2 → StuckOk qs (runH qs n (newHp qs))) := by
  have g0 := good_iff.1 (newHp_ok hp)
  refine ⟨g0, Good.run n _ g0, TInv.run hF n _ g0 ⟨fun _ => ?_, fun e => ?_⟩⟩
  · rw [newHp_yes hp]
    have h0 : 0 < qs.length := by
      unfold progOk at hp
      simp only [Bool.and_eq_true, inR_true] at hp
      omega
    have hc := hF 0 h0
    intro i c q hd
    have hi : i = 0 := by
      by_cases e : i = 0
      · exact e
      · rw [List.getElem?_eq_none (by simp; omega)] at q
        cases q
    subst hi
    obtain rfl : (⟨0, 0, List.replicate (temps0 qs) (0, 0), [], -1, false⟩ : Cl) = c := by simpa using q
    refine ⟨?_, ?_⟩
    · show (0 : Int) < ((opsOf qs 0).length : Int)
      have := hc.pos
      simpa using this
    · show gt (F 0) 0 = _
      rw [if_pos (by rfl)]
      exact hc.zero
  · rw [newHp_yes hp] at e
    cases e
set_option maxRecDepth 100000 in
set_option maxHeartbeats 4000000 in
theorem lawDeepStuck_any (w : World) (a : Option Addr) (len cap : Nat) (h : BytesAt w a len cap) (hT : TabAt w) :
    Calls Tryz.prog 9 #[.slice a len cap] w fun e w' => e = .returned (.bool true) ∧ Below w.heap.size w w' := by
  have hc := h.1
  have hm := h.2.1
  unfold maxLen at hm
  have HB : Hid (BytesAt w a len cap) := h
  have HT : Hid (TabAt w) := hT
  clear h hT
  by_cases hl : 1048576 < len
  · have hlz : (1048576 : Int) < (len : Int) := by omega
    go_enter Tryz.func9, Tryz.ntmps9
    go_wp2
    go_ret
    exact ⟨rfl, Below.refl _ _⟩
  have hlz : (len : Int) ≤ 1048576 := by omega
  go_enter Tryz.func9, Tryz.ntmps9
  go_wp2_with fail
  refine (drawDeepOk_any _ a len cap HB.out).mono ?_
  rintro e w1 ⟨v, ms, rfl, hD1, hB1⟩
  have hM1 := hD1.meths
  generalize plainOf ms = qs at hM1
  clear hD1 HB
  obtain ⟨aQ, cQ, hvQ, hmx, _⟩ := id hM1
  subst hvQ
  have z1 := hB1.size
  go_upto_region 4 with fail
  have hN := (Below.refl w1.heap.size w1).alloc (Nat.le_refl _) (.cells #[.slice aQ qs.length cQ] 25)
  have HMQ : Hid (MethsAt (w1.alloc (.cells #[.slice aQ qs.length cQ] 25)) (.slice aQ qs.length cQ) qs) := hM1.below hN
  have hB2 := hB1.trans (hN.mono z1)
  have rp2 := pbox_new w1 (.slice aQ qs.length cQ)
  clear hM1 hN hB1
  generalize w1.alloc (.cells #[.slice aQ qs.length cQ] 25) = W2 at *
  generalize w1.heap.size = bp at *
  have z2 := hB2.size
  have HS : Hid (∀ W, Below W2.heap.size W2 W → Calls Tryz.prog 35 #[.agg #[.slice aQ qs.length cQ]] W fun e w' => Below W.heap.size W w' ∧ OkEnd qs e) := fun W hW => specDeepOk_any _ qs W (HMQ.out.below hW)
  have c2 := rp2.cell (i := 0) (by decide)
  have HI := implDeepOk_any (.slice aQ qs.length cQ) qs W2 HMQ.out (HT.out.below hB2)
  go_wp2_with fail
  refine HI.mono ?_
  rintro e w3 ⟨hb3, r3, rfl, hr3⟩
  have HR3 : Hid (r3 = true ↔ AllDeep qs) := hr3
  have rp3 := row_below hb3 rp2
  have z3 := hb3.size
  clear HI c2 rp2 hr3
  have c3 := rp3.cell (i := 0) (by decide)
  go_wp2_with fail
  refine (HS.out w3 hb3).mono ?_
  rintro e w4 ⟨hb4, r4, rfl, hr4⟩
  obtain rfl : r3 = r4 := Bool.eq_iff_iff.2 (HR3.out.trans hr4.symm)
  have b4 := hb3.trans (hb4.mono z3)
  have rp4 := row_below hb4 rp3
  have hB4 := hB2.trans (b4.mono z2)
  clear c3 rp3 hb3 hb4 hr4
  have c4 := rp4.cell (i := 0) (by decide)
  cases r3
  · go_wp2_with fail
    refine (HS.out w4 b4).mono ?_
    rintro e w5 ⟨hb5, r5, rfl, hr5⟩
    obtain rfl : false = r5 := Bool.eq_iff_iff.2 (HR3.out.trans hr5.symm)
    go_wp2
    go_ret
    exact ⟨rfl, hB4.trans (hb5.mono hB4.size)⟩
  have hAD := HR3.out.1 rfl
  obtain ⟨FT, hFT⟩ := tables hAD
  have hpk : progOk qs = true := hAD.1
  obtain ⟨nh, hnh⟩ : ∃ nh, newHp qs = nh := ⟨_, rfl⟩
  have HI5 : Calls Tryz.prog 17 #[.agg #[.slice aQ qs.length cQ]] w4 fun e w' => (∃ a1 k1 a2 k2, e = .returned (.tuple #[.agg #[.slice a1 nh.calls.length k1, .int .i64 nh.now, .int .i64 nh.born, .slice a2 nh.said.length k2, .int .i64 nh.code], .bool true]) ∧ HeapAt w' (.slice a1 nh.calls.length k1) (.slice a2 nh.said.length k2) nh) ∧ Below w4.heap.size w4 w' := by
    have q := implHeapNew_any (.slice aQ qs.length cQ) qs w4 (HMQ.out.below b4)
    rw [hnh, hpk] at q
    refine q.mono ?_
    rintro e w' ⟨hb, vc', vs', V', rfl, ho⟩
    obtain ⟨a1, k1, hv1⟩ := ho.at.c.shape
    obtain ⟨a2, k2, hv2⟩ := ho.at.s.shape
    subst hv1 hv2
    exact ⟨⟨a1, k1, a2, k2, rfl, ho.at⟩, hb⟩
  have hn30 : nh.calls.length ≤ 1000 ∧ nh.said.length ≤ 1000 := by
    rw [← hnh, newHp_yes hpk]
    exact ⟨by simp, by simp⟩
  have HPR : Hid (∀ n : Nat, Good qs nh ∧ Good qs (runH qs n nh) ∧ ((runH qs n nh).code = 0 → TInv qs FT (runH qs n nh)) ∧ ((runH qs n nh).code = 2 → StuckOk qs (runH qs n nh))) := fun n => by
    have q := deep_run hpk (fun m hm => (hFT m hm).2) n
    rw [hnh] at q
    exact q
  have HFT : Hid (∀ m : Nat, m < qs.length → DeepRes qs m true (FT m)) := fun m hm => (hFT m hm).1
  clear hFT hAD HS HR3 hnh
  go_wp2_with fail
  refine HI5.mono ?_
  rintro e w5 ⟨⟨a5, k5, b5, l5, rfl, hO5⟩, hb5⟩
  have z5 := hb5.size
  have rp5 := row_below hb5 rp4
  clear HI5 c4 rp4
  go_upto_region 8 with fail
  have N6 : Below w5.heap.size w5 (w5.alloc (.cells #[.slice a5 nh.calls.length k5, .int .i64 nh.now, .int .i64 nh.born, .slice b5 nh.said.length l5, .int .i64 nh.code] 29)) := (Below.refl _ _).alloc (Nat.le_refl _) _
  have rh6 := five_new w5 29 (.slice a5 nh.calls.length k5) (.int .i64 nh.now) (.int .i64 nh.born) (.slice b5 nh.said.length l5) (.int .i64 nh.code)
  have rp6 := row_below N6 rp5
  have b46 := hb5.trans (N6.mono z5)
  have HH6 : Hid (HeapAt (w5.alloc (.cells #[.slice a5 nh.calls.length k5, .int .i64 nh.now, .int .i64 nh.born, .slice b5 nh.said.length l5, .int .i64 nh.code] 29)) (.slice a5 nh.calls.length k5) (.slice b5 nh.said.length l5) nh) := hO5.below N6
  clear hO5 rp5 N6 hb5
  generalize w5.alloc (.cells #[.slice a5 nh.calls.length k5, .int .i64 nh.now, .int .i64 nh.born, .slice b5 nh.said.length l5, .int .i64 nh.code] 29) = W6 at *
  generalize w5.heap.size = bh at *
  have b6 := b4.trans (b46.mono b4.size)
  have hB6 := hB2.trans (b6.mono z2)
  clear b46
  have HR : Hid (∀ n : Int, 0 ≤ n → n ≤ 400 → Calls Tryz.prog 13 #[.agg #[.slice aQ qs.length cQ], .agg #[.slice a5 nh.calls.length k5, .int .i64 nh.now, .int .i64 nh.born, .slice b5 nh.said.length l5, .int .i64 nh.code], .int .i64 n] W6 fun e w' => (∃ a1 k1 a2 k2 R, e = .returned (.tuple #[.agg #[.slice a1 R.calls.length k1, .int .i64 R.now, .int .i64 R.born, .slice a2 R.said.length k2, .int .i64 R.code], .bool true]) ∧ HeapAt w' (.slice a1 R.calls.length k1) (.slice a2 R.said.length k2) R ∧ Good qs R ∧ (R.code = 0 → TInv qs FT R) ∧ (R.code = 2 → StuckOk qs R)) ∧ Below W6.heap.size W6 w') := fun n hn0 hn4 => by
    obtain ⟨p1, p2, p3, p4⟩ := HPR.out n.toNat
    have q := implHeapRun_any (.slice aQ qs.length cQ) (.slice a5 nh.calls.length k5) (.slice b5 nh.said.length l5) qs nh n W6 (HMQ.out.below b6) (HT.out.below hB6) HH6.out (by omega) (by omega)
    have e1 : (heapOk qs nh && inR n 0 400) = true := by rw [good_iff.2 p1, inR_true.2 ⟨hn0, hn4⟩]; rfl
    have e2 : hRun qs nh n = runH qs n.toNat nh := by unfold hRun; rw [if_pos e1]
    rw [e1, e2] at q
    refine q.mono ?_
    rintro e w' ⟨⟨vc', vs', V', rfl, ho⟩, hb⟩
    obtain ⟨a1, k1, hv1⟩ := ho.at.c.shape
    obtain ⟨a2, k2, hv2⟩ := ho.at.s.shape
    subst hv1 hv2
    exact ⟨⟨a1, k1, a2, k2, _, rfl, ho.at, p2, p3, p4⟩, hb⟩
  obtain ⟨⟨d0, d1, d2, d3, d4⟩, _⟩ := five_cells rh6
  have dq := rp6.cell (i := 0) (by decide)
  go_wp2_with fail
  refine (HR.out _ (by omega) (by omega)).mono ?_
  rintro e w7 ⟨⟨a7, k7, b7, l7, R, rfl, hO7, hg7, ht7, hs7⟩, hb7⟩
  have HG7 : Hid (Good qs R ∧ (R.code = 0 → TInv qs FT R) ∧ (R.code = 2 → StuckOk qs R)) := ⟨hg7, ht7, hs7⟩
  have z7 := hb7.size
  have rp7 := row_below hb7 rp6
  clear HR HPR d0 d1 d2 d3 d4 dq rh6 rp6 hg7 ht7 hs7
  go_upto_region 9 with fail
  have N8 : Below w7.heap.size w7 (w7.alloc (.cells #[.slice a7 R.calls.length k7, .int .i64 R.now, .int .i64 R.born, .slice b7 R.said.length l7, .int .i64 R.code] 29)) := (Below.refl _ _).alloc (Nat.le_refl _) _
  have rx8 := five_new w7 29 (.slice a7 R.calls.length k7) (.int .i64 R.now) (.int .i64 R.born) (.slice b7 R.said.length l7) (.int .i64 R.code)
  have rp8 := row_below N8 rp7
  have b68 := hb7.trans (N8.mono z7)
  have HX8 : Hid (HeapAt (w7.alloc (.cells #[.slice a7 R.calls.length k7, .int .i64 R.now, .int .i64 R.born, .slice b7 R.said.length l7, .int .i64 R.code] 29)) (.slice a7 R.calls.length k7) (.slice b7 R.said.length l7) R) := hO7.below N8
  clear hO7 rp7 N8 hb7
  generalize w7.alloc (.cells #[.slice a7 R.calls.length k7, .int .i64 R.now, .int .i64 R.born, .slice b7 R.said.length l7, .int .i64 R.code] 29) = W8 at *
  generalize w7.heap.size = bx at *
  have b8 := b6.trans (b68.mono b6.size)
  have hB8 := hB2.trans (b8.mono z2)
  clear b68 HH6
  obtain ⟨⟨x0, x1, x2, x3, x4⟩, _⟩ := five_cells rx8
  by_cases hcd : R.code = 2
  case neg =>
    obtain ⟨rc, hrc⟩ : ∃ rc, R.code = rc := ⟨_, rfl⟩
    rw [hrc] at x4 hcd
    have hcz : ¬ rc = (2 : Int) := hcd
    clear hrc
    go_wp2
    go_ret
    exact ⟨rfl, hB8⟩
  rw [hcd] at x4
  obtain ⟨gR, _, sR⟩ := HG7.out
  obtain ⟨j, cc, hjn, hjc, hpl, hwhy⟩ := sR hcd
  have hj : j < R.calls.length := by
    by_cases q : j < R.calls.length
    · exact q
    · rw [List.getElem?_eq_none (by omega)] at hjc
      cases hjc
  obtain rfl : R.calls[j] = cc := by
    rw [List.getElem?_eq_getElem hj] at hjc
    injection hjc
  have cp := gR.cl j hj
  obtain ⟨m, hcm⟩ : ∃ m : Nat, R.calls[j].m = m := ⟨R.calls[j].m.toNat, by have := cp.m; omega⟩
  have hm : m < qs.length := by have := cp.m; omega
  obtain ⟨p, hcp⟩ : ∃ p : Nat, R.calls[j].pc = p := ⟨R.calls[j].pc.toNat, by have := cp.pc; omega⟩
  rw [hcm, hcp] at hwhy
  rw [hcm, hcp] at hpl
  have hop : opsOf qs m = qs[m].2.2 := by unfold opsOf; rw [Int.toNat_natCast]; simp [hm]
  rw [hop] at hwhy hpl
  have hpl2 : p < qs[m].2.2.length := by omega
  have HWY : Hid ((opAt qs[m].2.2 p).1 = 5 ∨ (opAt qs[m].2.2 p).1 = 12 ∨ (opAt qs[m].2.2 p).1 = 13 ∨ (opAt qs[m].2.2 p).1 = 14 ∨ (opAt qs[m].2.2 p).1 = 15 ∨ (opAt qs[m].2.2 p).1 = 17 ∨ (opAt qs[m].2.2 p).1 = 18 ∨ (0 < (p : Int) ∧ (opAt qs[m].2.2 ((p : Int) - 1)).1 = 15)) := hwhy
  clear gR sR cp HG7 hwhy hpl hop hjc HFT
  obtain ⟨bc, oc, vt, vs, hac, hcl⟩ := HX8.out.c.cl hj
  subst hac
  obtain ⟨at11, kt11, hvt⟩ := hcl.t.shape
  obtain ⟨as11, ks11, hvs⟩ := hcl.s.shape
  subst hvt hvs
  have q0 := hcl.c0
  have q1 := hcl.c1
  have q2 := hcl.c2
  have q3 := hcl.c3
  have q4 := hcl.c4
  have q5 := hcl.c5
  rw [hcm] at q0
  rw [hcp] at q1
  have hjz : (j : Int) < (R.calls.length : Int) := by omega
  rw [hjn] at x1
  clear hcl
  obtain ⟨ns, hns⟩ : ∃ ns, R.calls[j].stack.length = ns := ⟨_, rfl⟩
  rw [hns] at q3
  obtain ⟨nt, hnt⟩ : ∃ nt, R.calls[j].temps.length = nt := ⟨_, rfl⟩
  rw [hnt] at q2
  obtain ⟨sd, hsd⟩ : ∃ sd, R.calls[j].sender = sd := ⟨_, rfl⟩
  rw [hsd] at q4
  obtain ⟨dd, hdd⟩ : ∃ dd, R.calls[j].dead = dd := ⟨_, rfl⟩
  rw [hdd] at q5
  have HNS : Hid (R.calls[j].stack.length = ns) := hns
  clear hsd hdd hnt hns
  go_upto_region 12 with fail
  have N9 : Below W8.heap.size W8 (W8.alloc (.cells #[.int .i64 (m : Int), .int .i64 (p : Int), .slice at11 nt kt11, .slice as11 ns ks11, .int .i64 sd, .bool dd] 56)) := (Below.refl _ _).alloc (Nat.le_refl _) _
  have rc9 := six_new W8 56 (.int .i64 (m : Int)) (.int .i64 (p : Int)) (.slice at11 nt kt11) (.slice as11 ns ks11) (.int .i64 sd) (.bool dd)
  have rp9 := row_below N9 rp8
  have b9 := b8.trans (N9.mono b8.size)
  have hB9 := hB2.trans (b9.mono z2)
  clear x0 x1 x2 x3 x4 q0 q1 q2 q3 q4 q5 rx8 rp8 N9 HX8 hB8 b8 b6 hB6 b4 hB4
  generalize W8.alloc (.cells #[.int .i64 (m : Int), .int .i64 (p : Int), .slice at11 nt kt11, .slice as11 ns ks11, .int .i64 sd, .bool dd] 56) = W9 at *
  generalize W8.heap.size = bcc at *
  obtain ⟨⟨y0, y1, y2, y3, y4, y5⟩, _⟩ := six_cells rc9
  have dq := rp9.cell (i := 0) (by decide)
  obtain ⟨am, cm, hvm, _, hmm⟩ := HMQ.out.below b9
  injection hvm with hvm1 _ hvm2
  obtain ⟨bm, om, vo, ham, k0, k1, k2, hops⟩ := hmm m hm
  rw [ham] at hvm1
  subst hvm1 hvm2
  obtain ⟨ao, co, hvo, hol, hoc⟩ := hops
  unfold maxLen at hol
  subst hvo
  obtain ⟨bo, oo, hao, o0, o1⟩ := hoc p hpl2
  subst hao
  have hpz : (p : Int) < (qs[m].2.2.length : Int) := by omega
  have hmz : (m : Int) < (qs.length : Int) := by omega
  have hpr : ∀ p1 : Nat, p = p1 + 1 → W9.cell? ⟨bo, oo + p1 * 2, none⟩ = some (.int .i64 (opAt qs[m].2.2 (p1 : Int)).1) := fun p1 e => by
    obtain ⟨b', o', e1, o2, _⟩ := hoc p1 (by omega)
    cases e1
    rw [opAt_nat _ _ (by omega)]
    exact o2
  have HPR2 : Hid (∀ p1 : Nat, p = p1 + 1 → W9.cell? ⟨bo, oo + p1 * 2, none⟩ = some (.int .i64 (opAt qs[m].2.2 (p1 : Int)).1)) := hpr
  rw [← opAt_nat _ _ hpl2] at o0
  obtain ⟨kd, hkd⟩ : ∃ kd, (opAt qs[m].2.2 (p : Int)).1 = kd := ⟨_, rfl⟩
  rw [hkd] at o0
  have HW2 : Hid (kd = 5 ∨ kd = 12 ∨ kd = 13 ∨ kd = 14 ∨ kd = 15 ∨ kd = 17 ∨ kd = 18 ∨ (0 < (p : Int) ∧ (opAt qs[m].2.2 ((p : Int) - 1)).1 = 15)) := by have q := HWY.out; rw [hkd] at q; exact q
  clear hpr hkd HWY hoc hmm o1
  go_upto_region 14 with fail
  by_cases hlk : kd = 5 ∨ kd = 12 ∨ kd = 13 ∨ kd = 14 ∨ kd = 15 ∨ kd = 17 ∨ kd = 18
  case pos =>
    clear o0 HPR2 HW2
    rcases hlk with e | e | e | e | e | e | e
    all_goals
      subst e
      go_wp2
      go_ret
      exact ⟨rfl, hB9⟩
  case neg =>
    have hw8 : 0 < (p : Int) ∧ (opAt qs[m].2.2 ((p : Int) - 1)).1 = 15 := by
      rcases HW2.out with e | e | e | e | e | e | e | e
      · exact absurd (.inl e) hlk
      · exact absurd (.inr (.inl e)) hlk
      · exact absurd (.inr (.inr (.inl e))) hlk
      · exact absurd (.inr (.inr (.inr (.inl e)))) hlk
      · exact absurd (.inr (.inr (.inr (.inr (.inl e))))) hlk
      · exact absurd (.inr (.inr (.inr (.inr (.inr (.inl e)))))) hlk
      · exact absurd (.inr (.inr (.inr (.inr (.inr (.inr e)))))) hlk
      · exact e
    obtain ⟨p1, hp1⟩ : ∃ p1 : Nat, p = p1 + 1 := ⟨p - 1, by omega⟩
    have o2 := HPR2.out p1 hp1
    rw [show ((p1 : Nat) : Int) = (p : Int) - 1 by omega, hw8.2] at o2
    have hpp : 0 < (p : Int) := hw8.1
    have n5 : ¬ kd = 5 := fun e => hlk (.inl e)
    have n12 : ¬ kd = 12 := fun e => hlk (.inr (.inl e))
    have n13 : ¬ kd = 13 := fun e => hlk (.inr (.inr (.inl e)))
    have n14 : ¬ kd = 14 := fun e => hlk (.inr (.inr (.inr (.inl e))))
    have n15 : ¬ kd = 15 := fun e => hlk (.inr (.inr (.inr (.inr (.inl e)))))
    have n17 : ¬ kd = 17 := fun e => hlk (.inr (.inr (.inr (.inr (.inr (.inl e))))))
    have n18 : ¬ kd = 18 := fun e => hlk (.inr (.inr (.inr (.inr (.inr (.inr e))))))
    clear hlk HW2 HPR2 hw8 o0
    have hpz1 : (p1 : Int) < (qs[m].2.2.length : Int) := by omega
    have hws : IntKind.i64.wrap ((p : Int) - 1) = (p1 : Int) := by rw [IntKind.wrap_i64]; omega
    clear hp1
    go_wp2
    go_ret
    exact ⟨rfl, hB9⟩
end Go.Proofs.YtfpodljalccpnaaGreatDoor
