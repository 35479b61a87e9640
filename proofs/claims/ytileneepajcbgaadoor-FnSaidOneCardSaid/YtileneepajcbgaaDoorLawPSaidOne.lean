/-
  The law FnSaidOne, walked: whatever bytes come in, it answers true and writes to nothing that was there.
-/
import Derived.Test.YtileneepajcbgaaDoorDrawHeapStep
import Derived.Test.YtileneepajcbgaaDoorHHeapOk
import Derived.Test.YtileneepajcbgaaDoorStepP
import Derived.Test.YtileneepajcbgaaDoorLmVals
import Derived.Test.YtileneepajcbgaaDoorSaidImpl
import Derived.Test.YtileneepajcbgaaDoorSaidSpec

namespace Go.Proofs.YtileneepajcbgaaDoor
open Go.RowKit
theorem ok_plainly {ms : Ms} {h : Hp} (e : heapOk ms h = true) : ∀ v ∈ h.said, Plainly v := by
  intro v hv
  have h1 := List.all_eq_true.1 (good_iff.1 e).head.said v hv
  unfold valOk at h1
  unfold Plainly
  split at h1
  · have := beq_iff_eq.1 h1
    omega
  · split at h1
    · rw [inR_true] at h1; omega
    · split at h1
      · rw [inR_true] at h1; omega
      · cases h1
set_option maxRecDepth 100000 in
set_option maxHeartbeats 4000000 in
theorem lawSaidOne_any (w : World) (a : Option Addr) (len cap : Nat) (a2 : Option Addr) (len2 cap2 : Nat) (h : BytesAt w a len cap) (h2 : BytesAt w a2 len2 cap2) (hp : PowAt w) :
    Calls Tryd.prog 4 #[.slice a len cap, .slice a2 len2 cap2] w fun e w' => e = .returned (.bool true) ∧ Below w.heap.size w w' := by
  have hm := h.2.1
  have hm2 := h2.2.1
  unfold maxLen at hm hm2
  have HB : Hid (BytesAt w a len cap) := h
  have HB2 : Hid (BytesAt w a2 len2 cap2) := h2
  have HPW : Hid (PowAt w) := hp
  clear h h2 hp
  by_cases hl : 1048576 < len
  · have hlz : (1048576 : Int) < (len : Int) := by omega
    go_enter Tryd.func4, Tryd.ntmps4
    go_wp2
    go_ret
    exact ⟨rfl, Below.refl _ _⟩
  have hlz : (len : Int) ≤ 1048576 := by omega
  by_cases hl2 : 1048576 < len2
  · have hlz2 : (1048576 : Int) < (len2 : Int) := by omega
    go_enter Tryd.func4, Tryd.ntmps4
    go_wp2
    go_ret
    exact ⟨rfl, Below.refl _ _⟩
  have hlz2 : (len2 : Int) ≤ 1048576 := by omega
  go_enter Tryd.func4, Tryd.ntmps4
  go_wp2_with fail
  refine (drawHeapStep_any _ a len cap HB.out).mono ?_
  rintro e w1 ⟨v, vc, vs, ms, H, rfl, hD, hB1⟩
  obtain ⟨hM1, hH1⟩ := hD.st.here
  have l30 := hD.fine.l30
  have sd100 := hD.fine.sd
  have HFE : Hid (∀ v ∈ H.said, Few v) := hD.fine.few
  clear hD
  obtain ⟨av, ak, hvV, _⟩ := id hM1
  obtain ⟨ac, akk, hvc⟩ := hH1.c.shape
  obtain ⟨ad, al, hvs⟩ := hH1.s.shape
  subst hvV hvc hvs
  have z1 := hB1.size
  clear HB
  unfold hpCells
  go_upto_region 4 with fail
  have N2 : Below w1.heap.size w1 ((w1.alloc (.cells #[.slice av ms.length ak] 29)).alloc (.cells #[.slice ac H.calls.length akk, .int .i64 H.now, .int .i64 H.born, .slice ad H.said.length al, .int .i64 H.code] 32)) := ((Below.refl _ _).alloc (Nat.le_refl _) _).alloc (by simp) _
  have rp := (pbox_new w1 (.slice av ms.length ak)).alloc (.cells #[.slice ac H.calls.length akk, .int .i64 H.now, .int .i64 H.born, .slice ad H.said.length al, .int .i64 H.code] 32)
  have rh := five_new (w1.alloc (.cells #[.slice av ms.length ak] 29)) 32 (.slice ac H.calls.length akk) (.int .i64 H.now) (.int .i64 H.born) (.slice ad H.said.length al) (.int .i64 H.code)
  simp only [World.size_alloc] at rh
  generalize (w1.alloc (.cells #[.slice av ms.length ak] 29)).alloc (.cells #[.slice ac H.calls.length akk, .int .i64 H.now, .int .i64 H.born, .slice ad H.said.length al, .int .i64 H.code] 32) = W2 at *
  have hB2 := hB1.trans (N2.mono z1)
  have z2 := hB2.size
  have HM1 : Hid (MethsAt W2 (.slice av ms.length ak) ms ∧ HeapAt W2 (.slice ac H.calls.length akk) (.slice ad H.said.length al) H) := ⟨hM1.below N2, hH1.below N2⟩
  clear hM1 hH1 hB1 N2
  go_wp2_with fail
  refine (drawHeapStep_any _ a2 len2 cap2 (HB2.out.below hB2)).mono ?_
  rintro e w3 ⟨v, vc, vs, ns, G, rfl, hD, hB3⟩
  obtain ⟨hM3, hH3⟩ := hD.st.here
  have l30' := hD.fine.l30
  have sd100' := hD.fine.sd
  have HGE : Hid (∀ v ∈ G.said, Few v) := hD.fine.few
  clear hD
  obtain ⟨bv, bk, hvV, _⟩ := id hM3
  obtain ⟨bc, bkk, hvc⟩ := hH3.c.shape
  obtain ⟨bd, bl, hvs⟩ := hH3.s.shape
  subst hvV hvc hvs
  have z3 := hB3.size
  have rp3 := row_below hB3 rp
  have rh3 := row_below hB3 rh
  have HM3 : Hid (MethsAt w3 (.slice av ms.length ak) ms ∧ HeapAt w3 (.slice ac H.calls.length akk) (.slice ad H.said.length al) H) := ⟨HM1.out.1.below hB3, HM1.out.2.below hB3⟩
  clear HB2 HM1 rp rh
  unfold hpCells
  go_upto_region 5 with fail
  have N4 : Below w3.heap.size w3 ((w3.alloc (.cells #[.slice bv ns.length bk] 29)).alloc (.cells #[.slice bc G.calls.length bkk, .int .i64 G.now, .int .i64 G.born, .slice bd G.said.length bl, .int .i64 G.code] 32)) := ((Below.refl _ _).alloc (Nat.le_refl _) _).alloc (by simp) _
  have rq := (pbox_new w3 (.slice bv ns.length bk)).alloc (.cells #[.slice bc G.calls.length bkk, .int .i64 G.now, .int .i64 G.born, .slice bd G.said.length bl, .int .i64 G.code] 32)
  have rg := five_new (w3.alloc (.cells #[.slice bv ns.length bk] 29)) 32 (.slice bc G.calls.length bkk) (.int .i64 G.now) (.int .i64 G.born) (.slice bd G.said.length bl) (.int .i64 G.code)
  simp only [World.size_alloc] at rg
  have rp4 := row_below N4 rp3
  have rh4 := row_below N4 rh3
  generalize (w3.alloc (.cells #[.slice bv ns.length bk] 29)).alloc (.cells #[.slice bc G.calls.length bkk, .int .i64 G.now, .int .i64 G.born, .slice bd G.said.length bl, .int .i64 G.code] 32) = W4 at *
  have hB4 : Below w.heap.size w W4 := (hB2.trans (hB3.mono z2)).trans (N4.mono (by omega))
  have z4 := hB4.size
  have hp4 := HPW.out.on hB4 (Nat.le_refl _)
  have HPX : Hid (∀ W, Below W4.heap.size W4 W → PowAt W) := fun W hW => hp4.below hW
  have HMX : Hid (∀ W, Below W4.heap.size W4 W → (MethsAt W (.slice av ms.length ak) ms ∧ HeapAt W (.slice ac H.calls.length akk) (.slice ad H.said.length al) H) ∧ (MethsAt W (.slice bv ns.length bk) ns ∧ HeapAt W (.slice bc G.calls.length bkk) (.slice bd G.said.length bl) G)) := fun W hW =>
    ⟨⟨(HM3.out.1.below N4).below hW, (HM3.out.2.below N4).below hW⟩, ⟨(hM3.below N4).below hW, (hH3.below N4).below hW⟩⟩
  clear hM3 hH3 HM3 hp4 N4 rp3 rh3 hB2 hB3 HPW
  have HI1 : Hid (∀ W, Below W4.heap.size W4 W → Calls Tryd.prog 6 #[.slice ad H.said.length al] W fun e w' => e = .returned (.string (bs (saidText H.said))) ∧ Below W.heap.size W w') := fun W hW => implSaidText_any _ _ _ (HMX.out W hW).1.2.s (by omega) HFE.out (HPX.out W hW)
  have HI2 : Hid (∀ W, Below W4.heap.size W4 W → Calls Tryd.prog 6 #[.slice bd G.said.length bl] W fun e w' => e = .returned (.string (bs (saidText G.said))) ∧ Below W.heap.size W w') := fun W hW => implSaidText_any _ _ _ (HMX.out W hW).2.2.s (by omega) HGE.out (HPX.out W hW)
  have HS1 : Hid (∀ W, Below W4.heap.size W4 W → Calls Tryd.prog 7 #[.slice ad H.said.length al] W fun e w' => e = .returned (.string (bs (saidText H.said))) ∧ Below W.heap.size W w') := fun W hW => specSaidText_any _ _ _ (HMX.out W hW).1.2.s (by omega) HFE.out
  have HK1 : Hid (∀ W, Below W4.heap.size W4 W → Calls Tryd.prog 9 #[.agg #[.slice av ms.length ak], .agg #[.slice ac H.calls.length akk, .int .i64 H.now, .int .i64 H.born, .slice ad H.said.length al, .int .i64 H.code]] W fun e w' => e = .returned (.bool (heapOk ms H)) ∧ Below W.heap.size W w') := fun W hW => specHeapOk_any _ _ _ _ _ _ (HMX.out W hW).1.1 (HMX.out W hW).1.2 (by omega)
  have HK2 : Hid (∀ W, Below W4.heap.size W4 W → Calls Tryd.prog 9 #[.agg #[.slice bv ns.length bk], .agg #[.slice bc G.calls.length bkk, .int .i64 G.now, .int .i64 G.born, .slice bd G.said.length bl, .int .i64 G.code]] W fun e w' => e = .returned (.bool (heapOk ns G)) ∧ Below W.heap.size W w') := fun W hW => specHeapOk_any _ _ _ _ _ _ (HMX.out W hW).2.1 (HMX.out W hW).2.2 (by omega)
  have HL : Hid (∀ W, Below W4.heap.size W4 W → Calls Tryd.prog 10 #[.slice ad H.said.length al, .slice bd G.said.length bl] W fun e w' => e = .returned (.bool (decide (H.said = G.said))) ∧ Below W.heap.size W w') := fun W hW => lmVals_any _ _ _ _ _ (HMX.out W hW).1.2.s (HMX.out W hW).2.2.s
  have HE : Hid (heapOk ms H = true → heapOk ns G = true → ((bs (saidText H.said)).toList == (bs (saidText G.said)).toList) = decide (H.said = G.said)) := fun e1 e2 => by
    rw [bs_list, bs_list]
    by_cases e : H.said = G.said
    · rw [e, decide_eq_true rfl]; exact beq_self_eq_true _
    · rw [decide_eq_false e]
      exact beq_eq_false_iff_ne.2 fun h => e (saidText_one (ok_plainly e1) (ok_plainly e2) h)
  have HKC : ∀ W, Below W4.heap.size W4 W → (W.cell? ⟨w1.heap.size, 0, none⟩ = some (.slice av ms.length ak)) ∧ (W.cell? ⟨w1.heap.size + 1, 0, none⟩ = some (.slice ac H.calls.length akk) ∧ W.cell? ⟨w1.heap.size + 1, 1, none⟩ = some (.int .i64 H.now) ∧ W.cell? ⟨w1.heap.size + 1, 2, none⟩ = some (.int .i64 H.born) ∧ W.cell? ⟨w1.heap.size + 1, 3, none⟩ = some (.slice ad H.said.length al) ∧ W.cell? ⟨w1.heap.size + 1, 4, none⟩ = some (.int .i64 H.code)) ∧ (W.cell? ⟨w3.heap.size, 0, none⟩ = some (.slice bv ns.length bk)) ∧ (W.cell? ⟨w3.heap.size + 1, 0, none⟩ = some (.slice bc G.calls.length bkk) ∧ W.cell? ⟨w3.heap.size + 1, 1, none⟩ = some (.int .i64 G.now) ∧ W.cell? ⟨w3.heap.size + 1, 2, none⟩ = some (.int .i64 G.born) ∧ W.cell? ⟨w3.heap.size + 1, 3, none⟩ = some (.slice bd G.said.length bl) ∧ W.cell? ⟨w3.heap.size + 1, 4, none⟩ = some (.int .i64 G.code)) := fun W hW =>
    ⟨(row_below hW rp4).cell (i := 0) (by decide), (five_cells (row_below hW rh4)).1, (row_below hW rq).cell (i := 0) (by decide), (five_cells (row_below hW rg)).1⟩
  clear HMX HPX HFE HGE rp4 rh4 rq rg
  generalize bs (saidText H.said) = S1 at *
  generalize bs (saidText G.said) = S2 at *
  generalize heapOk ms H = ok1 at *
  generalize heapOk ns G = ok2 at *
  have b4d : Below W4.heap.size W4 W4.drew := (Below.refl _ _).drew
  obtain ⟨dp, ⟨d0, d1, d2, d3, d4⟩, dq, ⟨e0, e1, e2, e3, e4⟩⟩ := HKC _ (Below.refl _ _)
  cases ok1
  · go_wp2_with fail
    go_region_with (first
        | (have hh := hbB; clear hh; go_at_call 9; refine (HK1.out _ BB).mono ?_; rintro e wC ⟨rfl, hbC⟩; have BC := BB.trans (hbC.mono BB.size); obtain ⟨_, ⟨_, _, _, _, _⟩, _, ⟨_, _, _, _, _⟩⟩ := HKC wC BC)
        | (have hh := hbA; clear hh; go_at_call 7; refine (HS1.out _ BA).mono ?_; rintro e wB ⟨rfl, hbB⟩; have BB := BA.trans (hbB.mono BA.size); obtain ⟨_, ⟨_, _, _, _, _⟩, _, ⟨_, _, _, _, _⟩⟩ := HKC wB BB)
        | (go_at_call 6; refine (HI1.out _ b4d).mono ?_; rintro e wA ⟨rfl, hbA⟩; have BA := b4d.trans (hbA.mono (Nat.le_refl _)); obtain ⟨_, ⟨_, _, _, _, _⟩, _, ⟨_, _, _, _, _⟩⟩ := HKC wA BA))
    all_goals
      have b6d : Below W4.heap.size W4 wC.drew := BC.drew
      obtain ⟨dp, ⟨d0, d1, d2, d3, d4⟩, dq, ⟨e0, e1, e2, e3, e4⟩⟩ := HKC _ BC
      go_wp2_with fail
      go_region_held3 (fun W => (W.cell? ⟨w1.heap.size, 0, none⟩ = some (.slice av ms.length ak)) ∧ (W.cell? ⟨w1.heap.size + 1, 0, none⟩ = some (.slice ac H.calls.length akk) ∧ W.cell? ⟨w1.heap.size + 1, 1, none⟩ = some (.int .i64 H.now) ∧ W.cell? ⟨w1.heap.size + 1, 2, none⟩ = some (.int .i64 H.born) ∧ W.cell? ⟨w1.heap.size + 1, 3, none⟩ = some (.slice ad H.said.length al) ∧ W.cell? ⟨w1.heap.size + 1, 4, none⟩ = some (.int .i64 H.code)) ∧ (W.cell? ⟨w3.heap.size, 0, none⟩ = some (.slice bv ns.length bk)) ∧ (W.cell? ⟨w3.heap.size + 1, 0, none⟩ = some (.slice bc G.calls.length bkk) ∧ W.cell? ⟨w3.heap.size + 1, 1, none⟩ = some (.int .i64 G.now) ∧ W.cell? ⟨w3.heap.size + 1, 2, none⟩ = some (.int .i64 G.born) ∧ W.cell? ⟨w3.heap.size + 1, 3, none⟩ = some (.slice bd G.said.length bl) ∧ W.cell? ⟨w3.heap.size + 1, 4, none⟩ = some (.int .i64 G.code)))
        (first | with_reducible exact SQ | with_reducible exact SP | go_keep)
        ((first
          | (have hh := hbP; clear hh; go_at_call 7; refine (HS1.out _ BP).mono ?_; rintro e wQ ⟨rfl, hbQ⟩; have BQ := BP.trans (hbQ.mono BP.size); have SQ := HKC wQ BQ)
          | (go_at_call 6; refine (HI1.out _ b6d).mono ?_; rintro e wP ⟨rfl, hbP⟩; have BP := b6d.trans (hbP.mono b6d.size); have SP := HKC wP BP)))
      go_wp2
      go_ret
      exact ⟨ret_b (by first | rfl | simp), hB4.trans (BQ.mono z4)⟩
  cases ok2
  · go_wp2_with fail
    go_region_held3 (fun W => (W.cell? ⟨w1.heap.size, 0, none⟩ = some (.slice av ms.length ak)) ∧ (W.cell? ⟨w1.heap.size + 1, 0, none⟩ = some (.slice ac H.calls.length akk) ∧ W.cell? ⟨w1.heap.size + 1, 1, none⟩ = some (.int .i64 H.now) ∧ W.cell? ⟨w1.heap.size + 1, 2, none⟩ = some (.int .i64 H.born) ∧ W.cell? ⟨w1.heap.size + 1, 3, none⟩ = some (.slice ad H.said.length al) ∧ W.cell? ⟨w1.heap.size + 1, 4, none⟩ = some (.int .i64 H.code)) ∧ (W.cell? ⟨w3.heap.size, 0, none⟩ = some (.slice bv ns.length bk)) ∧ (W.cell? ⟨w3.heap.size + 1, 0, none⟩ = some (.slice bc G.calls.length bkk) ∧ W.cell? ⟨w3.heap.size + 1, 1, none⟩ = some (.int .i64 G.now) ∧ W.cell? ⟨w3.heap.size + 1, 2, none⟩ = some (.int .i64 G.born) ∧ W.cell? ⟨w3.heap.size + 1, 3, none⟩ = some (.slice bd G.said.length bl) ∧ W.cell? ⟨w3.heap.size + 1, 4, none⟩ = some (.int .i64 G.code)))
      (first | with_reducible exact SD | with_reducible exact SC | with_reducible exact SB | with_reducible exact SA | go_keep)
      ((first
        | (have hh := hbC; clear hh; go_at_call 9; refine (HK2.out _ BC).mono ?_; rintro e wD ⟨rfl, hbD⟩; have BD := BC.trans (hbD.mono BC.size); have SD := HKC wD BD)
        | (have hh := hbB; clear hh; go_at_call 9; refine (HK1.out _ BB).mono ?_; rintro e wC ⟨rfl, hbC⟩; have BC := BB.trans (hbC.mono BB.size); have SC := HKC wC BC)
        | (have hh := hbA; clear hh; go_at_call 7; refine (HS1.out _ BA).mono ?_; rintro e wB ⟨rfl, hbB⟩; have BB := BA.trans (hbB.mono BA.size); have SB := HKC wB BB)
        | (go_at_call 6; refine (HI1.out _ b4d).mono ?_; rintro e wA ⟨rfl, hbA⟩; have BA := b4d.trans (hbA.mono (Nat.le_refl _)); have SA := HKC wA BA)))
    clear dp d0 d1 d2 d3 d4 dq e0 e1 e2 e3 e4
    have b6d : Below W4.heap.size W4 wD.drew := BD.drew
    obtain ⟨dp, ⟨d0, d1, d2, d3, d4⟩, dq, ⟨e0, e1, e2, e3, e4⟩⟩ := HKC _ BD
    go_wp2_with fail
    go_region_held3 (fun W => (W.cell? ⟨w1.heap.size, 0, none⟩ = some (.slice av ms.length ak)) ∧ (W.cell? ⟨w1.heap.size + 1, 0, none⟩ = some (.slice ac H.calls.length akk) ∧ W.cell? ⟨w1.heap.size + 1, 1, none⟩ = some (.int .i64 H.now) ∧ W.cell? ⟨w1.heap.size + 1, 2, none⟩ = some (.int .i64 H.born) ∧ W.cell? ⟨w1.heap.size + 1, 3, none⟩ = some (.slice ad H.said.length al) ∧ W.cell? ⟨w1.heap.size + 1, 4, none⟩ = some (.int .i64 H.code)) ∧ (W.cell? ⟨w3.heap.size, 0, none⟩ = some (.slice bv ns.length bk)) ∧ (W.cell? ⟨w3.heap.size + 1, 0, none⟩ = some (.slice bc G.calls.length bkk) ∧ W.cell? ⟨w3.heap.size + 1, 1, none⟩ = some (.int .i64 G.now) ∧ W.cell? ⟨w3.heap.size + 1, 2, none⟩ = some (.int .i64 G.born) ∧ W.cell? ⟨w3.heap.size + 1, 3, none⟩ = some (.slice bd G.said.length bl) ∧ W.cell? ⟨w3.heap.size + 1, 4, none⟩ = some (.int .i64 G.code)))
      (first | with_reducible exact SQ | with_reducible exact SP | go_keep)
      ((first
        | (have hh := hbP; clear hh; go_at_call 7; refine (HS1.out _ BP).mono ?_; rintro e wQ ⟨rfl, hbQ⟩; have BQ := BP.trans (hbQ.mono BP.size); have SQ := HKC wQ BQ)
        | (go_at_call 6; refine (HI1.out _ b6d).mono ?_; rintro e wP ⟨rfl, hbP⟩; have BP := b6d.trans (hbP.mono b6d.size); have SP := HKC wP BP)))
    go_wp2
    go_ret
    exact ⟨ret_b (by first | rfl | simp), hB4.trans (BQ.mono z4)⟩
  have HE2 : Hid ((S1.toList == S2.toList) = decide (H.said = G.said)) := HE.out rfl rfl
  clear HE
  generalize decide (H.said = G.said) = D at *
  go_wp2_with fail
  go_region_held3 (fun W => (W.cell? ⟨w1.heap.size, 0, none⟩ = some (.slice av ms.length ak)) ∧ (W.cell? ⟨w1.heap.size + 1, 0, none⟩ = some (.slice ac H.calls.length akk) ∧ W.cell? ⟨w1.heap.size + 1, 1, none⟩ = some (.int .i64 H.now) ∧ W.cell? ⟨w1.heap.size + 1, 2, none⟩ = some (.int .i64 H.born) ∧ W.cell? ⟨w1.heap.size + 1, 3, none⟩ = some (.slice ad H.said.length al) ∧ W.cell? ⟨w1.heap.size + 1, 4, none⟩ = some (.int .i64 H.code)) ∧ (W.cell? ⟨w3.heap.size, 0, none⟩ = some (.slice bv ns.length bk)) ∧ (W.cell? ⟨w3.heap.size + 1, 0, none⟩ = some (.slice bc G.calls.length bkk) ∧ W.cell? ⟨w3.heap.size + 1, 1, none⟩ = some (.int .i64 G.now) ∧ W.cell? ⟨w3.heap.size + 1, 2, none⟩ = some (.int .i64 G.born) ∧ W.cell? ⟨w3.heap.size + 1, 3, none⟩ = some (.slice bd G.said.length bl) ∧ W.cell? ⟨w3.heap.size + 1, 4, none⟩ = some (.int .i64 G.code)))
    (first | with_reducible exact SD | with_reducible exact SC | with_reducible exact SB | with_reducible exact SA | go_keep)
    ((first
      | (have hh := hbC; clear hh; go_at_call 9; refine (HK2.out _ BC).mono ?_; rintro e wD ⟨rfl, hbD⟩; have BD := BC.trans (hbD.mono BC.size); have SD := HKC wD BD)
      | (have hh := hbB; clear hh; go_at_call 9; refine (HK1.out _ BB).mono ?_; rintro e wC ⟨rfl, hbC⟩; have BC := BB.trans (hbC.mono BB.size); have SC := HKC wC BC)
      | (have hh := hbA; clear hh; go_at_call 7; refine (HS1.out _ BA).mono ?_; rintro e wB ⟨rfl, hbB⟩; have BB := BA.trans (hbB.mono BA.size); have SB := HKC wB BB)
      | (go_at_call 6; refine (HI1.out _ b4d).mono ?_; rintro e wA ⟨rfl, hbA⟩; have BA := b4d.trans (hbA.mono (Nat.le_refl _)); have SA := HKC wA BA)))
  clear dp d0 d1 d2 d3 d4 dq e0 e1 e2 e3 e4
  have b6d : Below W4.heap.size W4 wD.drew := BD.drew
  obtain ⟨dp, ⟨d0, d1, d2, d3, d4⟩, dq, ⟨e0, e1, e2, e3, e4⟩⟩ := HKC _ BD
  go_wp2_with fail
  go_region_held3 (fun W => (W.cell? ⟨w1.heap.size, 0, none⟩ = some (.slice av ms.length ak)) ∧ (W.cell? ⟨w1.heap.size + 1, 0, none⟩ = some (.slice ac H.calls.length akk) ∧ W.cell? ⟨w1.heap.size + 1, 1, none⟩ = some (.int .i64 H.now) ∧ W.cell? ⟨w1.heap.size + 1, 2, none⟩ = some (.int .i64 H.born) ∧ W.cell? ⟨w1.heap.size + 1, 3, none⟩ = some (.slice ad H.said.length al) ∧ W.cell? ⟨w1.heap.size + 1, 4, none⟩ = some (.int .i64 H.code)) ∧ (W.cell? ⟨w3.heap.size, 0, none⟩ = some (.slice bv ns.length bk)) ∧ (W.cell? ⟨w3.heap.size + 1, 0, none⟩ = some (.slice bc G.calls.length bkk) ∧ W.cell? ⟨w3.heap.size + 1, 1, none⟩ = some (.int .i64 G.now) ∧ W.cell? ⟨w3.heap.size + 1, 2, none⟩ = some (.int .i64 G.born) ∧ W.cell? ⟨w3.heap.size + 1, 3, none⟩ = some (.slice bd G.said.length bl) ∧ W.cell? ⟨w3.heap.size + 1, 4, none⟩ = some (.int .i64 G.code)))
    (first | with_reducible exact SR | with_reducible exact SQ | with_reducible exact SP | go_keep)
    ((first
      | (have hh := hbQ; clear hh; go_at_call 10; refine (HL.out _ BQ).mono ?_; rintro e wR ⟨rfl, hbR⟩; have BR := BQ.trans (hbR.mono BQ.size); have SR := HKC wR BR)
      | (have hh := hbP; clear hh; go_at_call 6; refine (HI2.out _ BP).mono ?_; rintro e wQ ⟨rfl, hbQ⟩; have BQ := BP.trans (hbQ.mono BP.size); have SQ := HKC wQ BQ)
      | (go_at_call 6; refine (HI1.out _ b6d).mono ?_; rintro e wP ⟨rfl, hbP⟩; have BP := b6d.trans (hbP.mono b6d.size); have SP := HKC wP BP)))
  go_wp2
  go_ret
  exact ⟨ret_b (by first | rfl | simpa using HE2.out | simp [HE2.out]), hB4.trans (BR.mono z4)⟩
end Go.Proofs.YtileneepajcbgaaDoor
