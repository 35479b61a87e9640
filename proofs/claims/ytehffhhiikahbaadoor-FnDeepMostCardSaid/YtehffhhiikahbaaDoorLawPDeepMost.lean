/-
  The law FnDeepMost, walked: whatever bytes come in, it answers true and writes to nothing that was there, where the table opForms lies as its text lays it.
-/
import Derived.Test.YtehffhhiikahbaaDoorDrawDeep
import Derived.Test.YtehffhhiikahbaaDoorDeepK
namespace Go.Proofs.YtehffhhiikahbaaDoor
open Go.RowKit

theorem most_true {ms : List (Int × Int × List (Int × Int))} {m n : Int} {f : List Int} (h : MostRes ms m n) (hr : DeepRes ms m true f) : (∀ i : Nat, i < f.length → gt f i ≤ n) ∧ 0 ≤ n ∧ n ≤ 6 := by
  rcases h with ⟨f', h1, h2⟩ | ⟨h1, _⟩
  · obtain rfl := (hr.one h1).2
    obtain ⟨hR, hb⟩ := res_right hr
    have hlen := hR.2.2.len
    have hpos := hR.2.2.pos
    have hz := hR.2.2.zero
    refine ⟨h2.1, ?_, ?_⟩
    · have := h2.1 0 (by omega)
      have hz' : gt f ((0 : Nat) : Int) = 0 := hz
      omega
    · obtain ⟨i, hi, e⟩ := h2.2
      have := (hb i hi).2
      omega
  · have := (hr.one h1).1; cases this

theorem most_false {ms : List (Int × Int × List (Int × Int))} {m n : Int} {f : List Int} (h : MostRes ms m n) (hr : DeepRes ms m false f) : n = -1 := by
  rcases h with ⟨f', h1, _⟩ | ⟨_, h2⟩
  · have := (hr.one h1).1; cases this
  · exact h2

set_option maxRecDepth 100000 in
set_option maxHeartbeats 4000000 in
theorem lawDeepMost_any (w : World) (a : Option Addr) (len cap : Nat) (h : BytesAt w a len cap) (hT : TabAt w) :
    Calls Tryd.prog 5 #[.slice a len cap] w fun e w' => e = .returned (.bool true) ∧ Below w.heap.size w w' := by
  have hc := h.1
  have hm := h.2.1
  unfold maxLen at hm
  have HB : Hid (BytesAt w a len cap) := h
  have HT : Hid (TabAt w) := hT
  clear h hT
  by_cases hl : 1048576 < len
  · have hlz : (1048576 : Int) < (len : Int) := by omega
    go_enter Tryd.func5, Tryd.ntmps5
    go_wp2
    go_ret
    exact ⟨rfl, Below.refl _ _⟩
  have hlz : (len : Int) ≤ 1048576 := by omega
  go_enter Tryd.func5, Tryd.ntmps5
  go_wp2_with fail
  refine (drawDeepMost_any _ a len cap HB.out).mono ?_
  rintro e w1 ⟨v, ms, m, rfl, hD1, hB1⟩
  obtain ⟨aV, cV, hvV⟩ := hD1.row.shape
  subst hvV
  have z1 := hB1.size
  clear HB
  go_upto_region 4 with fail
  have hN := (Below.refl w1.heap.size w1).alloc (Nat.le_refl _) (.cells #[.slice aV ms.length cV] 25)
  have hD2 := hD1.below hN
  have hB2 := hB1.trans (hN.mono z1)
  have x2 := pbox_new w1 (.slice aV ms.length cV)
  generalize w1.alloc (.cells #[.slice aV ms.length cV] 25) = w2 at *
  have c2 := x2.cell (i := 0) (by decide)
  have z2 := hB2.size
  clear hD1 hB1 hN x2
  go_wp2_with fail
  refine (implDeepMost_any _ (plainOf ms) m _ hD2.meths (HT.out.below hB2)).mono ?_
  rintro e w3 ⟨hb3, n, rfl, hn⟩
  have hD3 := hD2.below hb3
  have hB3 := hB2.trans (hb3.mono z2)
  have c3 := cell_below hb3 c2
  have z3 := hB3.size
  clear hD2 hB2 hb3 c2 z2
  go_wp2_with fail
  refine (implDeepAt_any _ (plainOf ms) m _ hD3.meths (HT.out.below hB3)).mono ?_
  rintro e w4 ⟨hb4, v4, r4, rfl, f4, hres, hrow⟩
  have hD4 := hD3.below hb4
  have hB4 := hB3.trans (hb4.mono z3)
  have c4 := cell_below hb4 c3
  have z4 := hB4.size
  clear hD3 hB3 hb4 c3
  go_wp2_with fail
  refine (specDeepMost_any _ (plainOf ms) m _ hD4.meths).mono ?_
  rintro e w5 ⟨hb5, n', rfl, hn'⟩
  have hD5 := hD4.below hb5
  have hB5 := hB4.trans (hb5.mono z4)
  have c5 := cell_below hb5 c4
  have hrow5 := hrow.below hb5
  have z5 := hB5.size
  obtain rfl : n' = n := hn'.one hn
  clear hD4 hB4 hb5 c4 z4 hrow hn'
  cases r4
  · obtain rfl := most_false hn hres
    have HN : Hid (MostRes (plainOf ms) m (-1)) := hn
    clear hn hres
    go_wp2_with fail
    refine (specDeepMost_any _ (plainOf ms) m _ hD5.meths).mono ?_
    rintro e w6 ⟨hb6, n6, rfl, hn6⟩
    obtain rfl : n6 = -1 := hn6.one HN.out
    have hB6 := hB5.trans (hb6.mono z5)
    clear hn6 hb6
    go_wp2
    go_ret
    exact ⟨rfl, hB6⟩
  · obtain ⟨hmx, hn0, hn6⟩ := most_true hn hres
    have HM : Hid (∀ i : Nat, i < f4.length → gt f4 i ≤ n') := hmx
    obtain ⟨a4, k4, hv4, hl4⟩ := hrow5.slice
    subst hv4
    unfold maxLen at hl4
    clear hn hres hmx
    go_wp2_with fail
    go_loopg [8] f4.length (fun d i wr => ∃ k : Nat, k ≤ f4.length ∧ d = f4.length - k ∧ i = .int .i64 k ∧ wr = w5)
    case atStart => exact ⟨0, Nat.zero_le _, rfl, rfl, rfl⟩
    case round =>
      obtain ⟨k, hk, rfl, rfl, hwr⟩ := hrel
      subst hwr
      by_cases hlt : k < f4.length
      · have hkz : (k : Int) < (f4.length : Int) := by omega
        obtain ⟨g4, o4, q4, e4, _⟩ := hrow5.form (by omega)
        cases e4
        have d4 := (hrow5.cell hlt).1
        have hle : f4[k] ≤ n' := by have := HM.out k hlt; rwa [gt_nat f4 k hlt] at this
        generalize f4[k] = y at d4 hle
        go_wp2
        go_roundg (f4.length - (k + 1))
        case measure => omega
        case rel => exact ⟨k + 1, by omega, rfl, by go_num, rfl⟩
      · obtain rfl : k = f4.length := by omega
        go_wp2
        go_ret
        exact ⟨rfl, hB5⟩

end Go.Proofs.YtehffhhiikahbaaDoor
