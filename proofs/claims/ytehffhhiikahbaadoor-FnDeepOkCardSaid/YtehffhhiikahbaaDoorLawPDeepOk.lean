/-
  The law FnDeepOk, walked: whatever bytes come in, it answers true and writes to nothing that was there, where the table opForms lies as its text lays it.
-/
import Derived.Test.YtehffhhiikahbaaDoorDrawDeep
import Derived.Test.YtehffhhiikahbaaDoorDeepI
namespace Go.Proofs.YtehffhhiikahbaaDoor
open Go.RowKit

theorem bool_iff {a b : Bool} {P : Prop} (h : a = true ↔ P) (h' : b = true ↔ P) : a = b := by
  cases a <;> cases b
  · rfl
  · have := h.2 (h'.1 rfl); cases this
  · have := h'.2 (h.1 rfl); cases this
  · rfl

set_option maxRecDepth 100000 in
set_option maxHeartbeats 4000000 in
theorem lawDeepOk_any (w : World) (a : Option Addr) (len cap : Nat) (h : BytesAt w a len cap) (hT : TabAt w) :
    Calls Tryd.prog 6 #[.slice a len cap] w fun e w' => e = .returned (.bool true) ∧ Below w.heap.size w w' := by
  have hc := h.1
  have hm := h.2.1
  unfold maxLen at hm
  have HB : Hid (BytesAt w a len cap) := h
  have HT : Hid (TabAt w) := hT
  clear h hT
  by_cases hl : 1048576 < len
  · have hlz : (1048576 : Int) < (len : Int) := by omega
    go_enter Tryd.func6, Tryd.ntmps6
    go_wp2
    go_ret
    exact ⟨rfl, Below.refl _ _⟩
  have hlz : (len : Int) ≤ 1048576 := by omega
  go_enter Tryd.func6, Tryd.ntmps6
  go_wp2_with fail
  refine (drawDeepOk_any _ a len cap HB.out).mono ?_
  rintro e w1 ⟨v, ms, rfl, hD1, hB1⟩
  obtain ⟨aV, cV, hvV⟩ := hD1.row.shape
  subst hvV
  have z1 := hB1.size
  have hfew := hD1.few
  clear HB
  go_wp2_with fail
  have hN := (Below.refl w1.heap.size w1).alloc (Nat.le_refl _) (.cells #[.slice aV ms.length cV] 25)
  have hD2 := hD1.below hN
  have hB2 := hB1.trans (hN.mono z1)
  have x2 := pbox_new w1 (.slice aV ms.length cV)
  generalize w1.alloc (.cells #[.slice aV ms.length cV] 25) = w2 at *
  have c2 := x2.cell (i := 0) (by decide)
  have z2 := hB2.size
  clear hD1 hB1 hN x2
  refine (implDeepOk_any _ (plainOf ms) _ hD2.meths (HT.out.below hB2)).mono ?_
  rintro e w3 ⟨hb3, r3, rfl, hr3⟩
  have H3 : Hid (r3 = true ↔ AllDeep (plainOf ms)) := hr3
  have hD3 := hD2.below hb3
  have hB3 := hB2.trans (hb3.mono z2)
  have c3 := cell_below hb3 c2
  have z3 := hB3.size
  clear hD2 hB2 hb3 c2 z2 hr3
  go_wp2_with fail
  refine (implProgOk_any _ (plainOf ms) _ hD3.meths).mono ?_
  rintro e w4 ⟨rfl, hb4⟩
  have hD4 := hD3.below hb4
  have hB4 := hB3.trans (hb4.mono z3)
  have c4 := cell_below hb4 c3
  have z4 := hB4.size
  clear hD3 hB3 hb4 c3 z3
  have hpl : (plainOf ms).length = ms.length := by simp [plainOf]
  have HPL : Hid ((plainOf ms).length = ms.length) := hpl
  clear hpl
  go_wp2_with fail
  go_loopg [5, 6] ms.length (fun d al i wr => ∃ (k : Nat) (r : Bool), k ≤ ms.length ∧ d = ms.length - k ∧ i = .int .i64 k ∧ al = .bool r ∧ (r = true ↔ progOk (plainOf ms) = true ∧ ∀ j : Nat, j < k → ∃ f, DeepRes (plainOf ms) j true f) ∧ wr.cell? ⟨w1.heap.size, 0, none⟩ = some (.slice aV ms.length cV) ∧ Drawn w.heap.size wr (.slice aV ms.length cV) ms ∧ Below w.heap.size w wr)
  case atStart => exact ⟨0, _, Nat.zero_le _, rfl, rfl, rfl, ⟨fun e => ⟨e, fun j h => absurd h (Nat.not_lt_zero _)⟩, fun e => e.1⟩, c4, hD4, hB4⟩
  case round =>
    obtain ⟨k, r, hk, rfl, rfl, rfl, hr, cr, hDr, hBr⟩ := hrel
    have HR : Hid (r = true ↔ progOk (plainOf ms) = true ∧ ∀ j : Nat, j < k → ∃ f, DeepRes (plainOf ms) j true f) := hr
    have zr := hBr.size
    clear hr c4 hD4 hB4 z4
    by_cases hlt : k < ms.length
    · have hkz : (k : Int) < (ms.length : Int) := by omega
      go_wp2_with fail
      refine (implDeepAt_any _ (plainOf ms) _ _ hDr.meths (HT.out.below hBr)).mono ?_
      rintro e w5 ⟨hb5, v5, r5, rfl, f5, hres, hrow⟩
      have hD5 := hDr.below hb5
      have hB5 := hBr.trans (hb5.mono zr)
      have c5 := cell_below hb5 cr
      have HN : Hid ((r && r5) = true ↔ progOk (plainOf ms) = true ∧ ∀ j : Nat, j < k + 1 → ∃ f, DeepRes (plainOf ms) j true f) := by
        have h1 := HR.out
        show _ ↔ _
        rw [Bool.and_eq_true, h1]
        refine ⟨fun ⟨⟨e1, e2⟩, e3⟩ => ⟨e1, fun j hj => ?_⟩, fun ⟨e1, e2⟩ => ⟨⟨e1, fun j hj => e2 j (by omega)⟩, ?_⟩⟩
        · by_cases e : j = k
          · subst e; subst e3; exact ⟨f5, hres⟩
          · exact e2 j (by omega)
        · obtain ⟨f', h'⟩ := e2 k (by omega)
          exact (hres.one h').1
      clear hres hrow hb5 hDr hBr cr HR
      cases r
      · go_wp2
        go_roundg (ms.length - (k + 1))
        case measure => omega
        case rel => exact ⟨k + 1, _, by omega, rfl, by go_num, rfl, HN.out, c5, hD5, hB5⟩
      · go_wp2
        go_roundg (ms.length - (k + 1))
        case measure => omega
        case rel => exact ⟨k + 1, _, by omega, rfl, by go_num, rfl, by simpa using HN.out, c5, hD5, hB5⟩
    · obtain rfl : k = ms.length := by omega
      go_wp2_with fail
      refine (specDeepOk_any _ (plainOf ms) _ hDr.meths).mono ?_
      rintro e w5 ⟨hb5, r5, rfl, hr5⟩
      have hB5 := hBr.trans (hb5.mono zr)
      have e5 : r3 = r5 := bool_iff H3.out hr5
      have e6 : r3 = r := bool_iff H3.out ⟨fun e => ⟨(HR.out.1 e).1, fun m hm => (HR.out.1 e).2 m (by have := HPL.out; omega)⟩, fun e => HR.out.2 ⟨e.1, fun j hj => e.2 j (by have := HPL.out; omega)⟩⟩
      subst e5
      subst e6
      clear hr5 HR H3 hb5 hDr hBr cr
      cases r3
      · go_wp2
        go_ret
        exact ⟨rfl, hB5⟩
      · go_wp2
        go_ret
        exact ⟨rfl, hB5⟩

end Go.Proofs.YtehffhhiikahbaaDoor
