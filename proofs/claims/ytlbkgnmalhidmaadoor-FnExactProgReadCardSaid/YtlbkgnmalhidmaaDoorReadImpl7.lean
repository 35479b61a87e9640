/-
  The program's readMethods, walked.
-/
import Derived.Test.YtlbkgnmalhidmaaDoorReadImpl6
namespace Go.Proofs.YtlbkgnmalhidmaaDoor
open Go.RowKit

/-- what readMethods tells -/
def MethsSaid (B : Nat) (w' : World) (rs : List Int) (u : Value) (b : Bool) : Prop :=
  (b = true → ∃ ms : List MM, PRow B w' u ms ∧ ms.length ≤ 700 ∧ (∀ m ∈ ms, m.2.2.2.length ≤ 700) ∧ ∀ items, Valid items rs → plainOf ms = gather items) ∧
  (b = false → u = .slice none 0 0 ∧ ∀ items, ¬ Valid items rs)

def MethsEnd (B : Nat) (w' : World) (rs : List Int) (e : Ending) : Prop := ∃ (u : Value) (b : Bool), e = .returned (.tuple #[.agg #[u], .bool b]) ∧ MethsSaid B w' rs u b

set_option maxRecDepth 100000 in
set_option maxHeartbeats 2000000 in
theorem readMethods_any (v : Value) (rs : List Int) (w : World) (h : RunesAt w v rs) (ht : TabW w) :
    Calls Tryd.prog 22 #[v] w fun e w' => Below w.heap.size w w' ∧ MethsEnd w.heap.size w' rs e := by
  have HO : Hid (RunesAt w v rs) := h
  have HT : Hid (TabW w) := ht
  have hlen : rs.length ≤ 700 := by obtain ⟨_, _, _, _, h, _⟩ := h; exact h
  clear h ht
  have hA : Below w.heap.size w ((w.alloc (.cells #[.slice none 0 0] 26)).alloc (.cells #[.slice none 0 0] 26)) := ((Below.refl _ _).alloc (Nat.le_refl _) _).alloc (by simp) _
  have q0 : ((w.alloc (.cells #[.slice none 0 0] 26)).alloc (.cells #[.slice none 0 0] 26)).rowIs w.heap.size 26 1 (fun _ => .slice none 0 0) := (pbox_new w (.slice none 0 0)).alloc _
  have q1 : ((w.alloc (.cells #[.slice none 0 0] 26)).alloc (.cells #[.slice none 0 0] 26)).rowIs (w.heap.size + 1) 26 1 (fun _ => .slice none 0 0) := by
    have := pbox_new (w.alloc (.cells #[.slice none 0 0] 26)) (.slice none 0 0)
    simpa using this
  go_enter Tryd.func22, Tryd.ntmps22
  go_wp2
  generalize (w.alloc (.cells #[.slice none 0 0] 26)).alloc (.cells #[.slice none 0 0] 26) = W at *
  go_loopg [0] rs.length (fun g d0 wr => ∃ (rest : List Int) (vr u : Value) (ms : List MM) (j : Nat), d0 = vr ∧ g = rest.length ∧ (∀ w0, RunesAt w0 v rs → RunesAt w0 vr rest) ∧ rest.length + j ≤ rs.length ∧ ms.length ≤ j ∧ (∀ m ∈ ms, m.2.2.2.length ≤ j) ∧ PRow w.heap.size wr u ms ∧ wr.rowIs (w.heap.size + 1) 26 1 (fun _ => u) ∧ wr.rowIs w.heap.size 26 1 (fun _ => .slice none 0 0) ∧ Below w.heap.size w wr ∧ ∀ items, Valid items rs → ∃ done left, Far items rest (plainOf ms) done left)
  case atStart => exact ⟨rs, v, .slice none 0 0, [], 0, rfl, rfl, fun _ h => h, by omega, by simp, by simp, PRow.nil _ _, q1, q0, hA, fun items hv => ⟨[], items, Far.start hv⟩⟩
  case round =>
    obtain ⟨rest, vr, u, ms, j, hd0, rfl, hru, hj, hml, hol, hP, hR1, hR0, hb, hfar⟩ := hrel
    obtain rfl := hd0.symm
    have HRu : Hid (∀ w0, RunesAt w0 v rs → RunesAt w0 vr rest) := hru
    have HOL : Hid (∀ m ∈ ms, m.2.2.2.length ≤ j) := hol
    have HP : Hid (PRow w.heap.size wr u ms) := hP
    have HFar : Hid (∀ items, Valid items rs → ∃ done left, Far items rest (plainOf ms) done left) := hfar
    have hsz := hb.size
    clear hd0 hru hol hP hfar q0 q1 hA
    have HRR : Hid (RunesAt wr vr rest) := HRu.out wr (HO.out.below hb)
    obtain ⟨a, cap, hvr, hcl, hcm, hc⟩ := HRR.out
    obtain rfl := hvr
    obtain ⟨ap, cp, hvp⟩ := HP.out.shape
    subst hvp
    have r0 := hR0.cell (i := 0) (by decide)
    have rf0 := hR0.frozen 0
    have r1 := hR1.cell (i := 0) (by decide)
    have rf1 := hR1.frozen 0
    clear hc
    by_cases hz : rest.length = 0
    · have hz' : ¬ (0 : Int) < (rest.length : Int) := by omega
      have hre : Hid (rest = []) := List.length_eq_zero_iff.1 hz
      have t7 := World.cell?_setCell_same wr ⟨w.heap.size, 0, none⟩ (.slice ap ms.length cp) r0
      have hb7 := hb.setCell (p := ⟨w.heap.size, 0, none⟩) (Nat.le_refl _) (.slice ap ms.length cp)
      have HF7 : Hid (PRow w.heap.size (wr.setCell ⟨w.heap.size, 0, none⟩ (.slice ap ms.length cp)) (.slice ap ms.length cp) ms) := HP.out.boxed hR0 0 _
      clear hz
      go_wp2
      refine bodyPost_ret (v := .tuple #[.agg #[.slice ap ms.length cp], .bool true]) (by simp [results, Tryd.results22, go_sem, t7]) rfl ?_
      refine ⟨hb7, (.slice ap ms.length cp), true, rfl, (fun _ => ⟨ms, HF7.out, by omega, fun m hm => by have := HOL.out m hm; omega, fun items hv => ?_⟩), fun h => by cases h⟩
      obtain ⟨done, left, hF⟩ := HFar.out items hv
      rw [hre.out] at hF
      exact hF.ended
    have hz' : (0 : Int) < (rest.length : Int) := by omega
    have HNE : Hid (rest ≠ []) := fun e => hz (by rw [e]; rfl)
    clear hz
    go_wp2_with fail
    refine (readLine_any _ rest wr HRR.out).mono ?_
    rintro e w1 ⟨hb1, S, vn, vr', b, rfl, hyes, hno⟩
    have hR0a := row_below hb1 hR0
    have hR1a := row_below hb1 hR1
    have HP1 : Hid (PRow w.heap.size w1 (.slice ap ms.length cp) ms) := HP.out.below hb1
    have hbA := hb.trans (hb1.mono hsz)
    have hszA := hbA.size
    have k0 := hR0a.cell (i := 0) (by decide)
    have kf0 := hR0a.frozen 0
    have k1 := hR1a.cell (i := 0) (by decide)
    have kf1 := hR1a.frozen 0
    clear hR0 hR1 r0 rf0 r1 rf1 HP hb
    cases b
    · have HNo : Hid (∀ items, ¬ Valid items rs) := fun items hv => by
        obtain ⟨done, left, hF⟩ := HFar.out items hv
        obtain ⟨i, left', t, _, _, _, _, hl, _⟩ := hF.line hv HNE.out
        exact hno rfl _ _ hl
      have t7 := World.cell?_setCell_same w1 ⟨w.heap.size, 0, none⟩ (.slice none 0 0) k0
      have hb7 := hbA.setCell (p := ⟨w.heap.size, 0, none⟩) (Nat.le_refl _) (.slice none 0 0)
      clear hyes hno hb1
      go_wp2
      refine bodyPost_ret (v := .tuple #[.agg #[.slice none 0 0], .bool false]) (by simp [results, Tryd.results22, go_sem, t7]) rfl ?_
      exact ⟨hb7, (.slice none 0 0), false, rfl, (fun h => by cases h), fun _ => ⟨rfl, HNo.out⟩⟩
    · obtain ⟨nums, l, hl1, hS, hrow, hnl, hru1, hll⟩ := hyes rfl
      have HL1 : Hid (lineNums (rest.length + 1) (rest.dropWhile letter) [] = some (nums, 10 :: l)) := hl1
      have HS : Hid (S = runesBytes (rest.takeWhile letter)) := hS
      have HRu1 : Hid (∀ w0, RunesAt w0 v rs → RunesAt w0 vr' l) := fun w0 h => hru1 w0 (HRu.out w0 h)
      have HRow : Hid (IntRow w.heap.size w1 vn nums) := hrow.mono hsz
      have HT1 : Hid (TabW w1) := HT.out.below hbA
      clear hyes hno hl1 hS hrow hru1 hb1
      go_wp2_with fail
      refine (withLine_any j w.heap.size (by omega) _ ms S vn nums w1 HT1.out hszA HP1.out HRow.out hml HOL.out).mono ?_
      rintro e w2 ⟨hb2, hkeep, u2, b2, rfl, hyes2, hno2⟩
      have hR0b := hkeep _ _ hR0a
      have hR1b := hkeep _ _ hR1a
      have hbB := hbA.trans hb2
      have m0 := hR0b.cell (i := 0) (by decide)
      have mf0 := hR0b.frozen 0
      have m1 := hR1b.cell (i := 0) (by decide)
      have mf1 := hR1b.frozen 0
      have HL : Hid (∀ items, Valid items rs → ∀ done left, Far items rest (plainOf ms) done left → ∃ i left', left = i :: left' ∧ Fine i ∧ l = runes (textOf left') ∧ S.toList = wordL i ∧ nums = numsL i ∧ (i.1 = 0 ∨ plainOf ms ≠ [])) := fun items hv done left hF => by
        obtain ⟨i, left', t, e1, e2, e3, e4, e5, e6⟩ := hF.line hv HNE.out
        have e7 := HL1.out
        rw [e5] at e7
        simp at e7
        exact ⟨i, left', e1, e2, by rw [← e7.2]; exact e3, by rw [HS.out, e4, word_back (wordL_letters e2)], e7.1.symm, e6⟩
      clear hkeep hR0a hR1a hbA hb2 k0 kf0 k1 kf1 HP1
      cases b2
      · obtain ⟨hu2, hnl2⟩ := hno2 rfl
        subst hu2
        have HNo : Hid (∀ items, ¬ Valid items rs) := fun items hv => by
          obtain ⟨done, left, hF⟩ := HFar.out items hv
          obtain ⟨i, left', e1, e2, e3, e4, e5, e6⟩ := HL.out items hv done left hF
          rw [e4, e5] at hnl2
          exact line_taken e2 e6 hnl2
        clear hyes2 hno2 hnl2
        have m0' := World.cell?_setCell_other w2 ⟨w.heap.size + 1, 0, none⟩ ⟨w.heap.size, 0, none⟩ (.slice none 0 0) (by simp)
        have hbC := hbB.setCell (p := ⟨w.heap.size + 1, 0, none⟩) (Nat.le_succ _) (.slice none 0 0)
        have hR0c := row_kept hR0b (grown_set w2 (w.heap.size + 1) 0 (.slice none 0 0)) (by simp)
        have z0 := hR0c.cell (i := 0) (by decide)
        have zf0 := hR0c.frozen 0
        have t7 := World.cell?_setCell_same (w2.setCell ⟨w.heap.size + 1, 0, none⟩ (.slice none 0 0)) ⟨w.heap.size, 0, none⟩ (.slice none 0 0) z0
        have hb7 := hbC.setCell (p := ⟨w.heap.size, 0, none⟩) (Nat.le_refl _) (.slice none 0 0)
        clear m0'
        go_wp2
        refine bodyPost_ret (v := .tuple #[.agg #[.slice none 0 0], .bool false]) (by simp [results, Tryd.results22, go_sem, t7]) rfl ?_
        exact ⟨hb7, (.slice none 0 0), false, rfl, (fun h => by cases h), fun _ => ⟨rfl, HNo.out⟩⟩
      · obtain ⟨ms2, hP2, hw2, hl2, hol2⟩ := hyes2 rfl
        obtain ⟨a2, c2, hv2⟩ := hP2.shape
        subst hv2
        have hP3 := hP2.boxed hR1b 0 (.slice a2 ms2.length c2)
        have hR1c : (w2.setCell ⟨w.heap.size + 1, 0, none⟩ (.slice a2 ms2.length c2)).rowIs (w.heap.size + 1) 26 1 (fun _ => .slice a2 ms2.length c2) := (hR1b.set 0 _).congr (fun i hi => by match i, hi with | 0, _ => simp)
        have hR0c := row_kept hR0b (grown_set w2 (w.heap.size + 1) 0 (.slice a2 ms2.length c2)) (by simp)
        have hbC := hbB.setCell (p := ⟨w.heap.size + 1, 0, none⟩) (Nat.le_succ _) (.slice a2 ms2.length c2)
        have HF3 : Hid (∀ items, Valid items rs → ∃ done left, Far items l (plainOf ms2) done left) := fun items hv => by
          obtain ⟨done, left, hF⟩ := HFar.out items hv
          obtain ⟨i, left', e1, e2, e3, e4, e5, e6⟩ := HL.out items hv done left hF
          rw [e4, e5] at hw2
          exact ⟨done ++ [i], left', hF.next e1 e3 e6 (with_add e2 hw2) hv⟩
        clear hyes2 hno2 hw2 hP2
        go_wp2
        go_roundg l.length
        case measure => omega
        case rel => exact ⟨l, vr', _, ms2, j + 1, rfl, rfl, HRu1.out, by omega, hl2, hol2, hP3, hR1c, hR0c, hbC, HF3.out⟩

end Go.Proofs.YtlbkgnmalhidmaaDoor
