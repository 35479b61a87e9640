/-
  How many frames there are, and where each page's begin: thingPlacesOf, MachFrames and MachTwins of the program, MachFrames of the model.
-/
import Derived.Test.YtldiccheboipeaaProg
import Derived.Test.YtldiccheboipeaaMBase
import Derived.Test.YtldiccheboipeaaIntsM
import Derived.Test.YtldiccheboipeaaVals
namespace Go.Proofs.Ytldiccheboipeaa
open Go.RowKit

/-- how many frames the first k pages have -/
def framesTo (ps : List Pg) (k : Nat) : Nat := ((ps.take k).map fun p => p.frames.length).sum
def framesN (ps : List Pg) : Nat := framesTo ps ps.length
/-- where the frames of the first k pages begin -/
def lowsTo (ps : List Pg) (k : Nat) : List Int := (List.range k).map fun i => (framesTo ps i : Int)
def lows (ps : List Pg) : List Int := lowsTo ps ps.length

theorem framesTo_zero (ps : List Pg) : framesTo ps 0 = 0 := by simp [framesTo]
theorem framesTo_succ {ps : List Pg} {k : Nat} (h : k < ps.length) : framesTo ps (k + 1) = framesTo ps k + ps[k].frames.length := by
  unfold framesTo
  rw [List.take_add_one, List.getElem?_eq_getElem h, List.map_append, List.sum_append]
  simp
theorem framesTo_le (ps : List Pg) : ∀ k j, k ≤ j → j ≤ ps.length → framesTo ps k ≤ framesTo ps j := by
  intro k j hkj
  induction hkj with
  | refl => intro _; exact Nat.le_refl _
  | @step j hk ih =>
    intro hl
    rw [framesTo_succ (show j < ps.length from hl)]
    have := ih (by omega)
    omega
theorem framesTo_leN (ps : List Pg) {k : Nat} (h : k ≤ ps.length) : framesTo ps k ≤ framesN ps := framesTo_le ps k ps.length h (Nat.le_refl _)
theorem lowsTo_zero (ps : List Pg) : lowsTo ps 0 = [] := rfl
theorem lowsTo_succ (ps : List Pg) (k : Nat) : lowsTo ps (k + 1) = lowsTo ps k ++ [(framesTo ps k : Int)] := by simp [lowsTo, List.range_succ]
theorem lowsTo_length (ps : List Pg) (k : Nat) : (lowsTo ps k).length = k := by simp [lowsTo]
theorem lows_length (ps : List Pg) : (lows ps).length = ps.length := lowsTo_length _ _
theorem lows_at (ps : List Pg) (i : Nat) (h : i < (lows ps).length) : (lows ps)[i] = (framesTo ps i : Int) := by simp [lows, lowsTo]

theorem Try.infoIntM : (Try.prog.info? 3).map (fun i => (i.zero, i.size, i.bytes)) = some (some (.int .i64 0), 1, 8) := by kernel_rfl

set_option maxRecDepth 100000 in
set_option maxHeartbeats 4000000 in
theorem thingPlacesOf_any (vp vo vt vs : Value) (m : Mc) (w : World) (h : MachAt w vp vo vt vs m) (hn : m.pages.length ≤ 1048576) (hf : framesN m.pages ≤ 1099511627776) :
    Calls Try.prog 55 #[.agg (mcCells vp vo vt vs m).toArray] w fun e w' => ∃ vl, e = .returned (.agg (mcCells vp vo vt vs m ++ [vl, .int .i64 (framesN m.pages : Int)]).toArray) ∧ IntRow w.heap.size w' vl (lows m.pages) ∧ Below w.heap.size w w' := by
  obtain ⟨ap, cp, hvp, hlp, hcp⟩ := id h.p
  obtain ⟨ao, co, hvo⟩ := h.o.shape
  obtain ⟨at', ct, hvt⟩ := h.t.shape
  obtain ⟨as', cs, hvs⟩ := h.s.shape
  subst hvp hvo hvt hvs
  unfold mcCells
  obtain ⟨i0, hi, hz0, hz1, hz2⟩ := info_parts Try.infoIntM
  go_enter Try.func55, Try.ntmps55
  go_upto_region 2 with fail
  refine wp_gen (fun W => Below w.heap.size w W ∧ Bx W w.heap.size 33 [.int .i64 m.cells, .slice ap m.pages.length cp, .slice ao m.order.length co, .int .i64 m.now, .slice at' m.twins.length ct, .int .i64 m.born, .slice as' m.said.length cs, .int .i64 m.code]
      ∧ Bx W (w.heap.size + 1) 102 [.int .i64 0, .slice none 0 0, .slice none 0 0, .int .i64 0, .slice none 0 0, .int .i64 0, .slice none 0 0, .int .i64 0, .slice none 0 0, .int .i64 0]
      ∧ Bx W (w.heap.size + 1 + 1) 102 [.int .i64 m.cells, .slice ap m.pages.length cp, .slice ao m.order.length co, .int .i64 m.now, .slice at' m.twins.length ct, .int .i64 m.born, .slice as' m.said.length cs, .int .i64 m.code, .slice none 0 0, .int .i64 0]
      ∧ w.heap.size + 1 + 1 + 1 = W.heap.size) ⟨(((Below.refl _ _).alloc (Nat.le_refl _) _).alloc (by simp) _).alloc (by simp; omega) _, ((Bx.new w _ _).alloc _).alloc _, (Bx.newAt _ _ _ (by simp)).alloc _, Bx.newAt _ _ _ (by simp), by simp⟩ ?_
  rintro W ⟨hb, hm, hr, hx, hW⟩
  have hW3 : w.heap.size + 1 + 1 < W.heap.size := by omega
  clear hW
  obtain ⟨⟨_, m1, _, _, _, _, _, _⟩, _⟩ := bx8 hm
  go_wp2_with fail
  go_loopg [5, 11] m.pages.length (fun g _ i wr => ∃ (k : Nat) (vl : Value), k ≤ m.pages.length ∧ g = m.pages.length - k ∧ i = .int .i64 k ∧ IntRow W.heap.size wr vl (lowsTo m.pages k) ∧ Below w.heap.size w wr ∧ W.heap.size ≤ wr.heap.size ∧ Bx wr (w.heap.size + 1) 102 [.int .i64 0, .slice none 0 0, .slice none 0 0, .int .i64 0, .slice none 0 0, .int .i64 0, .slice none 0 0, .int .i64 0, .slice none 0 0, .int .i64 0]
      ∧ Bx wr (w.heap.size + 1 + 1) 102 [.int .i64 m.cells, .slice ap m.pages.length cp, .slice ao m.order.length co, .int .i64 m.now, .slice at' m.twins.length ct, .int .i64 m.born, .slice as' m.said.length cs, .int .i64 m.code, vl, .int .i64 (framesTo m.pages k : Int)])
  case atStart => exact ⟨0, .slice none 0 0, Nat.zero_le _, rfl, rfl, IntRow.nil _ _, hb, Nat.le_refl _, hr, by rw [framesTo_zero]; exact hx⟩
  case round =>
    clear m1 hm hr hx hb
    obtain ⟨k, vl, hk, rfl, rfl, hrow, hb, hz, hr, hx⟩ := hrel
    obtain ⟨al, cl, hvl, _⟩ := hrow.slice
    subst hvl
    obtain ⟨⟨x0, x1, x2, x3, x4, x5, x6, x7, x8, x9⟩, ⟨f0, f1, f2, f3, f4, f5, f6, f7, f8, f9⟩⟩ := bx10 hx
    by_cases hlt : k < m.pages.length
    · obtain ⟨b, o, vf, rfl, hpg⟩ := hcp k hlt
      obtain ⟨af, cf, hvf⟩ := hpg.f.shape
      have d0 := cell_below hb hpg.c0
      have d1 := cell_below hb hpg.c1
      rw [hvf] at d1
      have hkz : (k : Int) < (m.pages.length : Int) := by omega
      have hft : framesTo m.pages (k + 1) = framesTo m.pages k + m.pages[k].frames.length := framesTo_succ hlt
      have hfl := framesTo_leN m.pages (k := k + 1) hlt
      have HLS : Hid (lowsTo m.pages (k + 1) = lowsTo m.pages k ++ [(framesTo m.pages k : Int)]) := lowsTo_succ _ _
      have hll : (lowsTo m.pages k).length ≤ 2900000 := by rw [lowsTo_length]; omega
      obtain ⟨nf, hnf⟩ : ∃ nf, m.pages[k].frames.length = nf := ⟨_, rfl⟩
      obtain ⟨ft, hft0⟩ : ∃ ft, framesTo m.pages k = ft := ⟨_, rfl⟩
      obtain ⟨L, hL⟩ : ∃ L, lowsTo m.pages k = L := ⟨_, rfl⟩
      rw [hnf] at d1 hft
      rw [hft0] at hft HLS hx x9
      rw [hL] at hll HLS hrow x8 hx
      have hfb : ft + nf ≤ 1099511627776 := by omega
      have HFT : Hid (framesTo m.pages (k + 1) = ft + nf) := hft
      have hzb : b < w.heap.size := World.block_lt_of_cell? _ _ hpg.c0
      clear hnf hft0 hL hpg hvf hft hfl hcp x0 x1 x2 x3 x4 x5 x6 x7 f0 f1 f2 f3 f4 f5 f6 f7
      go_upto_region 5 with fail
      refine wp_gen (fun W' => Below wr.heap.size wr W' ∧ Bx W' wr.heap.size 51 [.int .i64 m.pages[k].base, .slice af nf cf]) ⟨(Below.refl _ _).alloc (Nat.le_refl _) _, Bx.new _ _ _⟩ ?_
      rintro w1 ⟨hb1, hp1⟩
      have hrl : ∀ q, (Value.slice al L.length cl).ownBlock = some q → W.heap.size ≤ q ∧ q < wr.heap.size := hrow.lt
      have r1 := hrow.below hb1
      have hx1 := hx.below hb1
      have hr1 := hr.below hb1
      have hB1 := hb.trans (hb1.mono hb.size)
      have hW1 : W.heap.size ≤ w1.heap.size := Nat.le_trans hz hb1.size
      have hzp := hp1.lt
      clear hrow hx hr hb hb1 d0 d1 x8 x9 f8 f9
      obtain ⟨⟨_, _, _, _, _, _, _, _, x8, x9⟩, ⟨_, _, _, _, _, _, _, _, f8, f9⟩⟩ := bx10 hx1
      have y1 := hp1.cell 1 rfl
      go_upto_region 6 with (at_builtin; refine append_intM Try.underlying29 hi hz0 hz1 hz2 _ (by rfl) _ _ (by rfl) _ L (by rfl) r1 _ _ _ rfl (by rfl) hll hW1 ?_; intro g2 off2 cp2 w2 hrow2 hg2 hor2 hlt2; have hx2 := hx1.grown hg2 (fun e => by have := (r1.lt _ e).1; omega); have x8' := hx2.cell 8 rfl; have f8' := hx2.frozen 8)
      refine wp_gen (fun W' => Below w.heap.size w W' ∧ IntRow W.heap.size W' (.slice (some ⟨g2, off2, none⟩) (L.length + 1) cp2) (L ++ [(ft : Int)]) ∧ W.heap.size ≤ W'.heap.size ∧ Bx W' (w.heap.size + 1) 102 [.int .i64 0, .slice none 0 0, .slice none 0 0, .int .i64 0, .slice none 0 0, .int .i64 0, .slice none 0 0, .int .i64 0, .slice none 0 0, .int .i64 0]
        ∧ Bx W' wr.heap.size 51 [.int .i64 m.pages[k].base, .slice af nf cf]
        ∧ Bx W' (w.heap.size + 1 + 1) 102 [.int .i64 m.cells, .slice (some ⟨b, o, none⟩) m.pages.length cp, .slice ao m.order.length co, .int .i64 m.now, .slice at' m.twins.length ct, .int .i64 m.born, .slice as' m.said.length cs, .int .i64 m.code, .slice (some ⟨g2, off2, none⟩) (L.length + 1) cp2, .int .i64 (ft : Int)])
        ⟨(hB1.grown hg2 hB1.size (fun q e => by have := (r1.lt _ e).1; omega)).setCell (p := ⟨w.heap.size + 1 + 1, 8, none⟩) (Nat.le_trans (Nat.le_succ _) (Nat.le_succ _)) _, ?_, ?_, (hr1.grown hg2 (fun e => by have := (r1.lt _ e).1; omega)).other (by omega) _, ?_, hx2.set 8 _⟩ ?_
      · refine hrow2.set_other (p := ⟨w.heap.size + 1 + 1, 8, none⟩) _ (fun e => ?_)
        have h9 : g2 = w.heap.size + 1 + 1 := by injection e
        rcases hor2 with e2 | e2
        · have := (hrl _ e2).1
          omega
        · omega
      · rw [World.size_setCell]; exact Nat.le_trans hW1 hg2.size
      · exact (hp1.grown hg2 (fun e => by have := (hrl _ e).2; omega)).other (by omega) _
      rintro w3 ⟨hb3, hrow3, hz3, hr3, hp3, hx3⟩
      clear hx2 x8' f8' hrow2 hg2 hor2 hlt2 hrl r1 hx1 hr1 hB1 hp1 x8 x9 f8 f9 y1 hW1
      have x9 := hx3.cell 9 rfl
      have f9 := hx3.frozen 9
      have y1 := hp3.cell 1 rfl
      go_wp2
      go_roundg (m.pages.length - (k + 1))
      case measure => omega
      case rel => exact ⟨k + 1, _, by omega, rfl, by go_num, by rw [HLS.out]; exact hrow3.set_other (p := ⟨w.heap.size + 1 + 1, 9, none⟩) _ (fun e => by have h9 : W.heap.size ≤ w.heap.size + 1 + 1 := (hrow3.lt _ e).1; omega), hb3.setCell (p := ⟨w.heap.size + 1 + 1, 9, none⟩) (Nat.le_trans (Nat.le_succ _) (Nat.le_succ _)) _, by rw [World.size_setCell]; exact hz3, hr3.other (by omega) _, by rw [HFT.out]; have := hx3.set 9 (.int .i64 ((ft + nf : Nat) : Int)); simpa using this⟩
    · obtain rfl : k = m.pages.length := by omega
      have hkz : ¬ ((m.pages.length : Int) < (m.pages.length : Int)) := by omega
      have hr2 := hr
      obtain ⟨⟨r0, r1, r2, r3, r4, r5, r6, r7, r8, r9⟩, ⟨g0, g1, g2, g3, g4, g5, g6, g7, g8, g9⟩⟩ := bx10 hr2
      go_wp2
      refine bp_gen (fun W' => Below w.heap.size w W' ∧ IntRow w.heap.size W' (.slice al (lowsTo m.pages m.pages.length).length cl) (lowsTo m.pages m.pages.length) ∧ Bx W' (w.heap.size + 1) 102 [.int .i64 m.cells, .slice ap m.pages.length cp, .slice ao m.order.length co, .int .i64 m.now, .slice at' m.twins.length ct, .int .i64 m.born, .slice as' m.said.length cs, .int .i64 m.code, .slice al (lowsTo m.pages m.pages.length).length cl, .int .i64 (framesTo m.pages m.pages.length : Int)]) ?_ ?_
      · have HW := (((((((((((Wr.refl1 (w.heap.size + 1) wr).set1 (o := 0) (.int .i64 m.cells)).set1 (o := 1) (.slice ap m.pages.length cp)).set1 (o := 2) (.slice ao m.order.length co)).set1 (o := 3) (.int .i64 m.now)).set1 (o := 4) (.slice at' m.twins.length ct)).set1 (o := 5) (.int .i64 m.born)).set1 (o := 6) (.slice as' m.said.length cs)).set1 (o := 7) (.int .i64 m.code)).set1 (o := 8) (.slice al (lowsTo m.pages m.pages.length).length cl)).set1 (o := 9) (.int .i64 (framesTo m.pages m.pages.length : Int)))
        exact ⟨HW.below1 hb (Nat.le_refl _) (Nat.le_succ _), (HW.ints hrow fun g e e2 => by have h9 : W.heap.size ≤ g := (hrow.lt _ e).1; omega).mono (by omega), (((((((((hr2.set 0 _).set 1 _).set 2 _).set 3 _).set 4 _).set 5 _).set 6 _).set 7 _).set 8 _).set 9 _⟩
      rintro W9 ⟨hb9, hrow9, hx9⟩
      obtain ⟨⟨q0, q1, q2, q3, q4, q5, q6, q7, q8, q9⟩, _⟩ := bx10 hx9
      exact bodyPost_ret (v := .agg #[.int .i64 m.cells, .slice ap m.pages.length cp, .slice ao m.order.length co, .int .i64 m.now, .slice at' m.twins.length ct, .int .i64 m.born, .slice as' m.said.length cs, .int .i64 m.code, .slice al (lowsTo m.pages m.pages.length).length cl, .int .i64 (framesTo m.pages m.pages.length : Int)]) (by simp [results, Try.results55, go_sem, q0, q1, q2, q3, q4, q5, q6, q7, q8, q9]) rfl ⟨_, rfl, hrow9, hb9⟩

set_option maxRecDepth 100000 in
theorem implMachFrames_any (vp vo vt vs : Value) (m : Mc) (w : World) (h : MachAt w vp vo vt vs m) (hn : m.pages.length ≤ 1048576) (hf : framesN m.pages ≤ 1099511627776) :
    Calls Try.prog 16 #[.agg (mcCells vp vo vt vs m).toArray] w fun e w' => e = .returned (.int .i64 (framesN m.pages : Int)) ∧ Below w.heap.size w w' := by
  obtain ⟨ap, cp, hvp⟩ := h.p.shape
  obtain ⟨ao, co, hvo⟩ := h.o.shape
  obtain ⟨at', ct, hvt⟩ := h.t.shape
  obtain ⟨as', cs, hvs⟩ := h.s.shape
  subst hvp hvo hvt hvs
  have HB : ∀ o, Below w.heap.size w (w.alloc o) := fun o => (Below.refl _ _).alloc (Nat.le_refl _) _
  have HC := fun o => thingPlacesOf_any _ _ _ _ m _ (h.below (HB o)) hn hf
  unfold mcCells at HC ⊢
  simp only [List.cons_append, List.nil_append] at HC
  have hfd : ∀ (x0 x1 x2 x3 x4 x5 x6 x7 x8 x9 : Value) (w : World), (Instr.field 102 (.agg #[x0, x1, x2, x3, x4, x5, x6, x7, x8, x9]) 2).run Try.prog w = .ok x9 w := fun _ _ _ _ _ _ _ _ _ _ _ => by kernel_rfl
  go_enter Try.func16, Try.ntmps16
  go_wp2_with fail
  refine (HC _).mono ?_
  rintro e w1 ⟨vl, rfl, hrow, hb⟩
  obtain ⟨al, cl, hvl, _⟩ := hrow.slice
  subst hvl
  go_wp2
  go_ret
  exact ⟨rfl, (HB _).trans (hb.mono (by simp))⟩

set_option maxRecDepth 100000 in
set_option maxHeartbeats 1000000 in
theorem specMachFrames_any (vp vo vt vs : Value) (m : Mc) (w : World) (h : MachAt w vp vo vt vs m) (hf : framesN m.pages ≤ 1099511627776) :
    Calls Try.prog 19 #[.agg (mcCells vp vo vt vs m).toArray] w fun e w' => e = .returned (.int .i64 (framesN m.pages : Int)) ∧ Below w.heap.size w w' := by
  obtain ⟨ap, cp, hvp, hlp, hcp⟩ := id h.p
  obtain ⟨ao, co, hvo⟩ := h.o.shape
  obtain ⟨at', ct, hvt⟩ := h.t.shape
  obtain ⟨as', cs, hvs⟩ := h.s.shape
  subst hvp hvo hvt hvs
  unfold maxLen at hlp
  unfold mcCells
  go_enter Try.func19, Try.ntmps19
  go_upto_region 1 with fail
  refine wp_gen (fun W => Below w.heap.size w W ∧ Bx W w.heap.size 33 [.int .i64 m.cells, .slice ap m.pages.length cp, .slice ao m.order.length co, .int .i64 m.now, .slice at' m.twins.length ct, .int .i64 m.born, .slice as' m.said.length cs, .int .i64 m.code]) ⟨(Below.refl _ _).alloc (Nat.le_refl _) _, Bx.new w _ _⟩ ?_
  rintro W ⟨hb, hm⟩
  obtain ⟨⟨_, m1, _, _, _, _, _, _⟩, _⟩ := bx8 hm
  go_wp2_with fail
  go_loopg [3, 4] m.pages.length (fun g n i wr => ∃ k : Nat, k ≤ m.pages.length ∧ g = m.pages.length - k ∧ i = .int .i64 k ∧ n = .int .i64 (framesTo m.pages k : Int) ∧ wr = W)
  case atStart => exact ⟨0, Nat.zero_le _, rfl, rfl, by rw [framesTo_zero]; rfl, rfl⟩
  case round =>
    obtain ⟨k, hk, rfl, rfl, rfl, hw⟩ := hrel
    obtain rfl := hw.symm
    by_cases hlt : k < m.pages.length
    · obtain ⟨b, o, vf, rfl, hpg⟩ := hcp k hlt
      obtain ⟨af, cf, hvf⟩ := hpg.f.shape
      have d1 := cell_below hb hpg.c1
      rw [hvf] at d1
      have hkz : (k : Int) < (m.pages.length : Int) := by omega
      have hft : framesTo m.pages (k + 1) = framesTo m.pages k + m.pages[k].frames.length := framesTo_succ hlt
      have hfl := framesTo_leN m.pages (k := k + 1) hlt
      obtain ⟨nf, hnf⟩ : ∃ nf, m.pages[k].frames.length = nf := ⟨_, rfl⟩
      rw [hnf] at d1 hft
      have HFT : Hid (framesTo m.pages (k + 1) = framesTo m.pages k + nf) := hft
      have hfb : framesTo m.pages k + nf ≤ 1099511627776 := by omega
      clear hft hfl hnf hvf
      go_wp2
      go_roundg (m.pages.length - (k + 1))
      case measure => omega
      case rel => exact ⟨k + 1, by omega, rfl, by go_num, by rw [HFT.out]; simp, rfl⟩
    · obtain rfl : k = m.pages.length := by omega
      go_wp2
      go_ret
      exact ⟨rfl, hb⟩

end Go.Proofs.Ytldiccheboipeaa
