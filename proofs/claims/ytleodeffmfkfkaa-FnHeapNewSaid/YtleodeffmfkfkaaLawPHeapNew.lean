/-
  The law FnHeapNew, walked: whatever bytes come in, it answers true and writes to nothing that was there.
-/
import Derived.Test.YtleodeffmfkfkaaDrawNew
import Derived.Test.YtleodeffmfkfkaaNewFacts
import Derived.Test.YtleodeffmfkfkaaLmHeap
import Derived.Test.YtleodeffmfkfkaaVImpl5
import Derived.Deep.RegionHeld3
namespace Go.Proofs.Ytleodeffmfkfkaa
open Go.RowKit

set_option maxRecDepth 100000 in
set_option maxHeartbeats 4000000 in
theorem lawHeapNew_any (w : World) (a : Option Addr) (len cap : Nat) (h : BytesAt w a len cap) :
    Calls Try.prog 4 #[.slice a len cap] w fun e w' => e = .returned (.bool true) ∧ Below w.heap.size w w' := by
  have hc := h.1
  have hm := h.2.1
  unfold maxLen at hm
  have HB : Hid (BytesAt w a len cap) := h
  clear h
  by_cases hl : 1048576 < len
  · have hlz : (1048576 : Int) < (len : Int) := by omega
    go_enter Try.func4, Try.ntmps4
    go_wp2
    go_ret
    exact ⟨rfl, Below.refl _ _⟩
  have hlz : (len : Int) ≤ 1048576 := by omega
  go_enter Try.func4, Try.ntmps4
  go_wp2_with fail
  refine (drawHeapNew_any _ a len cap HB.out).mono ?_
  rintro e w1 ⟨v, ms, rfl, hD1, hB1⟩
  obtain ⟨aV, cV, hvV⟩ := hD1.row.shape
  subst hvV
  have z1 := hB1.size
  clear HB
  go_wp2_with fail
  have hN := (Below.refl w1.heap.size w1).alloc (Nat.le_refl _) (.cells #[.slice aV ms.length cV] 25)
  have hD2 := hD1.below hN
  have hB2 := hB1.trans (hN.mono z1)
  have x2 := pbox_new w1 (.slice aV ms.length cV)
  generalize w1.alloc (.cells #[.slice aV ms.length cV] 25) = w2 at *
  have c2 := x2.cell (i := 0) (by decide)
  have z2 := hB2.size
  clear hD1 hB1 hN x2
  refine (specHeapNew_any _ (plainOf ms) _ hD2.meths).mono ?_
  rintro e w3 ⟨hb3, vc3, vs3, rfl, hh3⟩
  have hD3 := hD2.below hb3
  have hB3 := hB2.trans (hb3.mono z2)
  have c3 := cell_below hb3 c2
  have z3 := hB3.size
  clear hD2 hB2 hb3 c2 z2
  obtain ⟨nh, hnh⟩ : ∃ nh, newHp (plainOf ms) = nh := ⟨_, rfl⟩
  obtain ⟨pk, hpk⟩ : ∃ pk, progOk (plainOf ms) = pk := ⟨_, rfl⟩
  rw [hnh] at hh3
  rw [hnh, hpk]
  have HNE : Hid (newHp (plainOf ms) = nh ∧ progOk (plainOf ms) = pk) := ⟨hnh, hpk⟩
  clear hnh hpk
  obtain ⟨ac3, kc3, hvc3⟩ := hh3.c.shape
  obtain ⟨aD3, kD3, hvs3⟩ := hh3.s.shape
  subst hvc3 hvs3
  unfold hpCells
  go_upto_region 5 with fail
  have N3 := (Below.refl w3.heap.size w3).alloc (Nat.le_refl _) (.cells #[.slice ac3 nh.calls.length kc3, .int .i64 nh.now, .int .i64 nh.born, .slice aD3 nh.said.length kD3, .int .i64 nh.code] 29)
  have wz4 := five_new w3 29 (.slice ac3 nh.calls.length kc3) (.int .i64 nh.now) (.int .i64 nh.born) (.slice aD3 nh.said.length kD3) (.int .i64 nh.code)
  have c4 := cell_below N3 c3
  have hh4 := hh3.below N3
  have hD4 := hD3.below N3
  have hB4 := hB3.trans (N3.mono z3)
  generalize w3.alloc (.cells #[.slice ac3 nh.calls.length kc3, .int .i64 nh.now, .int .i64 nh.born, .slice aD3 nh.said.length kD3, .int .i64 nh.code] 29) = w4 at *
  have z4 := hB4.size
  have y4 := wz4.lt
  clear N3 c3 hh3 hD3 hB3 z3
  go_wp2_with fail
  refine (implHeapNew_any _ (plainOf ms) _ hD4.meths).mono ?_
  rintro e w5 ⟨hb5, vc5, vs5, V5, rfl, hO5⟩
  rw [HNE.out.1] at hO5
  rw [HNE.out.1, HNE.out.2]
  have hh5 := hO5.at
  have gh5 := hh4.below hb5
  have wz5 := row_below hb5 wz4
  have c5 := cell_below hb5 c4
  have hD5 := hD4.below hb5
  have hB5 := hB4.trans (hb5.mono z4)
  have z5 := hB5.size
  have y5 := hb5.size
  clear hb5 hO5 hh4 wz4 c4 hD4 hB4 z4
  obtain ⟨ac5, kc5, hvc5⟩ := hh5.c.shape
  obtain ⟨aD5, kD5, hvs5⟩ := hh5.s.shape
  subst hvc5 hvs5
  unfold hpCells
  go_upto_region 6 with fail
  have N5 := (Below.refl w5.heap.size w5).alloc (Nat.le_refl _) (.cells #[.slice ac5 nh.calls.length kc5, .int .i64 nh.now, .int .i64 nh.born, .slice aD5 nh.said.length kD5, .int .i64 nh.code] 29)
  have iz6 := five_new w5 29 (.slice ac5 nh.calls.length kc5) (.int .i64 nh.now) (.int .i64 nh.born) (.slice aD5 nh.said.length kD5) (.int .i64 nh.code)
  have c6 := cell_below N5 c5
  have wz6 := row_below N5 wz5
  have hh6 := hh5.below N5
  have gh6 := gh5.below N5
  have hD6 := hD5.below N5
  have hB6 := hB5.trans (N5.mono z5)
  generalize w5.alloc (.cells #[.slice ac5 nh.calls.length kc5, .int .i64 nh.now, .int .i64 nh.born, .slice aD5 nh.said.length kD5, .int .i64 nh.code] 29) = w6 at *
  have z6 := hB6.size
  have y6 := iz6.lt
  clear N5 c5 wz5 hh5 gh5 hD5 hB5 z5
  obtain ⟨⟨i0, i1, i2, i3, i4⟩, _⟩ := five_cells iz6
  obtain ⟨⟨j0, j1, j2, j3, j4⟩, _⟩ := five_cells wz6
  go_wp2_with fail
  refine (lmHeap_same nh _ _ _ _ _ hh6 gh6).mono ?_
  rintro e w7 ⟨rfl, hb7⟩
  have iz7 := row_below hb7 iz6
  have wz7 := row_below hb7 wz6
  have hh7 := hh6.below hb7
  have gh7 := gh6.below hb7
  have c7 := cell_below hb7 c6
  have hD7 := hD6.below hb7
  have hB7 := hB6.trans (hb7.mono z6)
  have z7 := hB7.size
  clear hb7 i0 i1 i2 i3 i4 j0 j1 j2 j3 j4 iz6 wz6 hh6 gh6 c6 hD6 hB6 z6 y5 y6 y4
  obtain ⟨⟨i0, i1, i2, i3, i4⟩, _⟩ := five_cells iz7
  obtain ⟨⟨j0, j1, j2, j3, j4⟩, _⟩ := five_cells wz7
  cases pk
  · go_wp2_with fail
    refine (lmHeap_same nh _ _ _ _ _ hh7 gh7).mono ?_
    rintro e w8 ⟨rfl, hb8⟩
    have hB8 := hB7.trans (hb8.mono z7)
    go_wp2
    go_ret
    exact ⟨rfl, hB8⟩
  have hpk := HNE.out.2
  have hnh := HNE.out.1
  have hok : heapOk (plainOf ms) nh = true := by rw [← hnh]; exact newHp_ok hpk
  have hdp : deepOf nh.calls nh.now = 1 := by rw [← hnh]; exact newHp_deep hpk
  have hvw : viewL nh = nh.calls := by rw [← hnh]; exact newHp_view hpk
  have hsh : nh.short := by rw [← hnh]; exact (newHp_short _).1
  have hn1 : nh.calls.length ≤ 1 := by rw [← hnh]; exact (newHp_short _).2
  have hbo : nh.born = 1 := by rw [← hnh, newHp_yes hpk]
  rw [hbo] at i2
  have D7 : Below w7.heap.size w7 w7.drew := (Below.refl _ _).drew
  have hD8 := hD7.below D7
  have hh8 := hh7.below D7
  have iz8 : w7.drew.rowIs w5.heap.size 29 5 (five (.slice ac5 nh.calls.length kc5) (.int .i64 nh.now) (.int .i64 1) (.slice aD5 nh.said.length kD5) (.int .i64 nh.code)) := by rw [← hbo]; exact row_below D7 iz7
  clear HNE hpk hnh j0 j1 j2 j3 j4 wz7 gh7 hD7 hh7 iz7
  have OKc : ∀ W, Drawn w.heap.size W (.slice aV ms.length cV) ms → HeapAt W (.slice ac5 nh.calls.length kc5) (.slice aD5 nh.said.length kD5) nh → Calls Try.prog 10 #[.agg #[.slice aV ms.length cV], .agg #[.slice ac5 nh.calls.length kc5, .int .i64 nh.now, .int .i64 1, .slice aD5 nh.said.length kD5, .int .i64 nh.code]] W fun e w' => e = .returned (.bool true) ∧ Below W.heap.size W w' := fun W hD hH => by
    have := implHeapOk_any _ _ _ (plainOf ms) nh W hD.meths hH (by omega)
    unfold hpCells at this
    rwa [hbo, hok] at this
  have DPc : ∀ W, HeapAt W (.slice ac5 nh.calls.length kc5) (.slice aD5 nh.said.length kD5) nh → Calls Try.prog 12 #[.agg #[.slice ac5 nh.calls.length kc5, .int .i64 nh.now, .int .i64 1, .slice aD5 nh.said.length kD5, .int .i64 nh.code]] W fun e w' => e = .returned (.int .i64 1) ∧ Below W.heap.size W w' := fun W hH => by
    have := implHeapDeep_any _ _ nh W hH (by omega)
    unfold hpCells at this
    rwa [hbo, hdp] at this
  have VWc : ∀ W, HeapAt W (.slice ac5 nh.calls.length kc5) (.slice aD5 nh.said.length kD5) nh → Calls Try.prog 18 #[.agg #[.slice ac5 nh.calls.length kc5, .int .i64 nh.now, .int .i64 1, .slice aD5 nh.said.length kD5, .int .i64 nh.code]] W fun e w' => ∃ aM kM, e = .returned (.slice aM nh.calls.length kM) ∧ CallsAt w' (.slice aM nh.calls.length kM) nh.calls ∧ Below W.heap.size W w' := fun W hH => by
    have := implHeapView_any _ _ nh W hH hsh (by omega)
    unfold hpCells at this
    rw [hbo, hvw] at this
    refine this.mono ?_
    rintro e wM ⟨⟨vM, VM, rfl, hOM⟩, hbM⟩
    have hAM := hOM.at
    obtain ⟨aM, kM, hvM⟩ := hAM.shape
    subst hvM
    exact ⟨aM, kM, rfl, hAM, hbM⟩
  clear hok hdp hvw hsh
  go_wp2_with fail
  go_region_with (first
      | (go_at_call 10; refine (OKc _ hD8 hh8).mono ?_; rintro e wK ⟨rfl, hbK⟩; obtain ⟨⟨iK0, iK1, iK2, iK3, iK4⟩, _⟩ := five_cells (row_below hbK iz8))
      | (go_at_call 12; refine (DPc _ (hh8.below hbK)).mono ?_; rintro e wL ⟨rfl, hbL⟩; obtain ⟨⟨iL0, iL1, iL2, iL3, iL4⟩, _⟩ := five_cells (row_below hbL (row_below hbK iz8)))
      | (go_at_call 18; refine (VWc _ ((hh8.below hbK).below hbL)).mono ?_; rintro e wM ⟨aM, kM, rfl, hAM, hbM⟩; obtain ⟨⟨iM0, iM1, iM2, iM3, iM4⟩, _⟩ := five_cells (row_below hbM (row_below hbL (row_below hbK iz8))))
      | (go_at_call 17; refine (lmCalls_same _ _ nh.calls _ hAM (((hh8.below hbK).below hbL).below hbM).c).mono ?_; rintro e wN ⟨rfl, hbN⟩))
  all_goals
    have hB9 := hB7.drew.trans ((((hbK.trans (hbL.mono hbK.size)).trans (hbM.mono (hbK.trans (hbL.mono hbK.size)).size)).trans (hbN.mono ((hbK.trans (hbL.mono hbK.size)).trans (hbM.mono (hbK.trans (hbL.mono hbK.size)).size)).size)).mono (by simp; omega))
    go_wp2
    go_ret
    exact ⟨rfl, hB9⟩

end Go.Proofs.Ytleodeffmfkfkaa
