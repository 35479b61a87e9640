/-
  What is seen of a heap, by the program: comeToVals, numberOf.
-/
import Derived.Test.YtldiccheboipeaaVImpl
namespace Go.Proofs.Ytldiccheboipeaa
open Go.RowKit

theorem Ord.alloc {A : Nat → Prop} {B bo n : Nat} {ps : List Nat} {vp vn : Value} {w : World} (h : Ord A B bo n ps vp vn w) (o : Obj) : Ord A B bo n ps vp vn (w.alloc o) :=
  have hb := (Below.refl w.heap.size w).alloc (Nat.le_refl _) o
  ⟨h.le, row_below hb h.box, h.p.below hb, h.n.below hb, h.pb, h.nb, h.pn, fun g hg => ⟨(h.av g hg).1, by have := (h.av g hg).2.1; simp; omega, (h.av g hg).2.2⟩⟩
theorem Came.alloc {A : Nat → Prop} {B : Nat} {w w' : World} (h : Came A B w w') (hb : B ≤ w'.heap.size) (hA : ∀ g, A g → g < w'.heap.size) (o : Obj) : Came A B w (w'.alloc o) :=
  ⟨h.b.alloc hb o, fun g hg => (Below.heap_alloc _ _ _ (hA g hg)).trans (h.a g hg)⟩

set_option maxRecDepth 100000 in
set_option maxHeartbeats 2000000 in
theorem comeToVals_any (A : Nat → Prop) (B bo n : Nat) (ps : List Nat) (vp vn vl : Value) (vals : List (Int × Int)) (w0 w : World) (h : Ord A B bo n ps vp vn w) (hps : PsOk n ps) (hn : n ≤ 1000) (hl : OpsAt w0 vl vals) (hb : Below w0.heap.size w0 w) (h0 : w0.heap.size ≤ B) :
    Calls Try.prog 104 #[.pointer (some ⟨bo, 0, none⟩), vl] w fun e w' => e = .returned (.tuple #[]) ∧ (∃ vp', Ord A B bo n (comeV n ps vals) vp' vn w') ∧ Came A B w w' := by
  obtain ⟨al, cl, rfl, hll, hc⟩ := hl
  unfold maxLen at hll
  go_enter Try.func104, Try.ntmps104
  go_wp2
  go_loopg [8] vals.length (fun g i wr => ∃ k : Nat, k ≤ vals.length ∧ g = vals.length - k ∧ i = .int .i64 k ∧ (∃ vp', Ord A B bo n (comeV n ps (vals.take k)) vp' vn wr) ∧ Came A B w wr)
  case atStart => exact ⟨0, Nat.zero_le _, rfl, rfl, ⟨vp, h⟩, Came.refl _ _ _⟩
  case round =>
    obtain ⟨k, hk, rfl, rfl, ⟨vp1, hO⟩, hC⟩ := hrel
    have hP : PsOk n (comeV n ps (vals.take k)) := hps.comeV _
    by_cases hlt : k < vals.length
    · obtain ⟨b, o, e1, c0, c1⟩ := hc k hlt
      subst e1
      have hb2 : Below w0.heap.size w0 wr := hb.trans (hC.b.mono h0)
      have d0 := cell_below hb2 c0
      have d1 := cell_below hb2 c1
      have hkz : (k : Int) < (vals.length : Int) := by omega
      have hst := comeV_step (n := n) (ps := ps) hlt
      have hOA := hO.alloc (.cells #[.int .i64 vals[k].1, .int .i64 vals[k].2] 130)
      have hCA := hC.alloc (Nat.le_trans hO.le (Nat.le_of_lt hO.box.lt)) (fun g hg => (hO.av g hg).2.1) (.cells #[.int .i64 vals[k].1, .int .i64 vals[k].2] 130)
      generalize hvk : vals[k] = x at *
      clear hvk c0 c1
      by_cases hkd : x.1 = 2
      · rw [if_pos hkd] at hst
        rw [hkd] at d0 hOA hCA
        have HST : Hid (comeV n ps (vals.take (k + 1)) = comeP n (comeV n ps (vals.take k)) x.2) := hst
        clear hst hO hC
        go_wp2_with fail
        refine (come_any A B bo n _ vp1 vn x.2 _ hOA hP hn).mono ?_
        rintro e w2 ⟨rfl, ⟨vp2, hO2⟩, hC2⟩
        have hC3 := hCA.trans hC2
        rw [← HST.out] at hO2
        clear hOA hCA hC2
        go_wp2
        go_roundg (vals.length - (k + 1))
        case measure => omega
        case rel => exact ⟨k + 1, by omega, rfl, by go_num, ⟨vp2, hO2⟩, hC3⟩
      · rw [if_neg hkd] at hst
        rw [← hst] at hOA
        clear hst hO hC
        go_wp2
        go_roundg (vals.length - (k + 1))
        case measure => omega
        case rel => exact ⟨k + 1, by omega, rfl, by go_num, ⟨vp1, hOA⟩, hCA⟩
    · obtain rfl : k = vals.length := by omega
      rw [List.take_length] at hO
      go_wp2
      go_end0
      exact ⟨rfl, ⟨vp1, hO⟩, hC⟩

set_option maxRecDepth 100000 in
set_option maxHeartbeats 2000000 in
theorem numberOf_any (A : Nat → Prop) (B bo n : Nat) (ps : List Nat) (vp vn : Value) (p : Int) (w : World) (h : Ord A B bo n ps vp vn w) (hps : PsOk n ps) (hn : n ≤ 1000) :
    Calls Try.prog 106 #[.pointer (some ⟨bo, 0, none⟩), .int .i64 p] w fun e w' => e = .returned (.int .i64 (numOf ps p)) ∧ w' = w := by
  obtain ⟨an, cn, hvn, _⟩ := h.n.slice
  rw [tabN_len] at hvn
  subst hvn
  obtain ⟨⟨x0, x1⟩, f0, f1⟩ := two_cells h.box
  by_cases hI : inR p 0 ((n : Int) - 1) = false
  · have hE : Hid (numOf ps p = -1) := numOf_none (fun i hi e => by
      have := hps.lt _ (List.getElem_mem hi)
      have h2 : inR p 0 ((n : Int) - 1) = true := inR_true.2 (by omega)
      rw [hI] at h2; cases h2)
    go_enter Try.func106, Try.ntmps106
    go_wp2_with (go_at_call 56; refine (isPlace_any _ _ _).mono ?_; rintro e w' ⟨rfl, hw⟩; obtain rfl := hw.symm; rw [hI])
    go_ret
    exact ⟨by rw [hE.out]; rfl, rfl⟩
  have hI' : inR p 0 ((n : Int) - 1) = true := by simpa using hI
  clear hI
  have hI2 := inR_true.1 hI'
  obtain ⟨k, rfl⟩ := Int.eq_ofNat_of_zero_le hI2.1
  have hk : k < n := by omega
  have hkz : (k : Int) < (n : Int) := by omega
  obtain ⟨gn, on, c1, e1, hgB, hgn⟩ := h.n.form (by rw [tabN_len]; omega)
  obtain rfl : an = some ⟨gn, on, none⟩ := by injection e1
  clear e1
  obtain ⟨d1, fd⟩ := h.n.cell (i := k) (by rw [tabN_len]; exact hk)
  rw [tabN_at] at d1
  go_enter Try.func106, Try.ntmps106
  go_wp2_with (go_at_call 56; refine (isPlace_any _ _ _).mono ?_; rintro e w' ⟨rfl, hw⟩; obtain rfl := hw.symm; rw [hI'])
  go_ret
  exact ⟨rfl, rfl⟩

end Go.Proofs.Ytldiccheboipeaa
