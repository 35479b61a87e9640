import Derived.Test.YthkjgfhheejaoaaGreatDoorPiece
import Derived.Test.YthkjgfhheejaoaaGreatDoorVImpl4
import Derived.Test.YthkjgfhheejaoaaGreatDoorLMem2
import Derived.Deep.RegionWith
import Derived.Deep.RegionHeld3

/-
  The program's step, its parts: the operation that is next, the kinds of what is taken, what is taken, who does it.
-/
namespace Go.Proofs.YthkjgfhheejaoaaGreatDoor
open Go.RowKit

set_option maxRecDepth 100000 in
set_option maxHeartbeats 2000000 in
theorem opAt_any (vp : Value) (ms : Ms) (m pc : Nat) (w : World) (hM : MethsAt w vp ms) (hm : m < ms.length) :
    Calls Tryz.prog 74 #[.agg #[vp], .int .i64 m, .int .i64 pc] w fun e w' => e = .returned (.tuple #[.agg #[.int .i64 (ms[m].2.2.getD pc (0, 0)).1, .int .i64 (ms[m].2.2.getD pc (0, 0)).2], .bool (decide (pc < ms[m].2.2.length))]) ∧ Below w.heap.size w w' := by
  have hA : Below w.heap.size w ((w.alloc (.cells #[vp] 25)).alloc (.cells #[.int .i64 0, .int .i64 0] 41)) := ((Below.refl _ _).alloc (Nat.le_refl _) _).alloc (by simp) _
  have hMA := hM.below hA
  obtain ⟨ap, cp, hvp, hlp, hms⟩ := id hMA
  obtain ⟨pb, po, vo, hap, p0, p1, p2, p3⟩ := hms m hm
  obtain ⟨oa, oc, hvo, hol, hops⟩ := id p3
  subst hvp hap hvo
  have r1 := two_new (w.alloc (.cells #[.slice (some ⟨pb, po, none⟩) ms.length cp] 25)) 41 (.int .i64 0) (.int .i64 0)
  simp only [World.size_alloc] at r1
  have hmz : (m : Int) < (ms.length : Int) := by omega
  clear hms hM hMA
  by_cases hpl : pc < ms[m].2.2.length
  · rw [decide_eq_true hpl, getD_at hpl]
    obtain ⟨ob, oo, hob, q0, q1⟩ := hops pc hpl
    subst hob
    have hpz : (pc : Int) < (ms[m].2.2.length : Int) := by omega
    have hp0 : (0 : Int) ≤ (pc : Int) := by omega
    clear hops p3
    generalize ms[m].2.2[pc] = op at *
    obtain ⟨kk, a⟩ := op
    generalize ms[m].2.2.length = no at *
    have r0 := (box_row w 25 (.slice (some ⟨pb, po, none⟩) ms.length cp)).alloc (.cells #[.int .i64 0, .int .i64 0] 41)
    go_enter Tryz.func74, Tryz.ntmps74
    go_upto_region 1 with fail
    generalize (w.alloc (.cells #[.slice (some ⟨pb, po, none⟩) ms.length cp] 25)).alloc (.cells #[.int .i64 0, .int .i64 0] 41) = W at *
    obtain ⟨⟨u0, u1⟩, uf0, uf1⟩ := two_cells r1
    have v0 := r0.cell (i := 0) (by decide)
    go_wp2_with (go_at_call 61; refine (isPlace_any _ _ _).mono ?_; rintro e w' ⟨rfl, hw⟩; obtain rfl := hw.symm; rw [inR_true.2 ⟨hp0, by omega⟩])
    have R9 : ((W.setCell ⟨w.heap.size + 1, 0, none⟩ (.int .i64 kk)).setCell ⟨w.heap.size + 1, 1, none⟩ (.int .i64 a)).rowIs (w.heap.size + 1) 41 2 (two (.int .i64 kk) (.int .i64 a)) := ((two_set0 r1 (.int .i64 kk)).set 1 (.int .i64 a)).congr fun i hi => by match i, hi with | 0, _ => rfl | 1, _ => rfl
    have B9 : Below w.heap.size w ((W.setCell ⟨w.heap.size + 1, 0, none⟩ (.int .i64 kk)).setCell ⟨w.heap.size + 1, 1, none⟩ (.int .i64 a)) := (hA.setCell (p := ⟨w.heap.size + 1, 0, none⟩) (Nat.le_succ _) _).setCell (p := ⟨w.heap.size + 1, 1, none⟩) (Nat.le_succ _) _
    obtain ⟨⟨s0, s1⟩, _⟩ := two_cells R9
    generalize (W.setCell ⟨w.heap.size + 1, 0, none⟩ (.int .i64 kk)).setCell ⟨w.heap.size + 1, 1, none⟩ (.int .i64 a) = W9 at *
    exact bodyPost_ret (v := .tuple #[.agg #[.int .i64 kk, .int .i64 a], .bool true]) (by simp [results, Tryz.results74, go_sem, s0, s1]) rfl ⟨rfl, B9⟩
  · rw [decide_eq_false hpl, List.getD_eq_getElem?_getD, List.getElem?_eq_none (by omega)]
    clear hops
    generalize ms[m].2.2.length = no at *
    have r0 := (box_row w 25 (.slice (some ⟨pb, po, none⟩) ms.length cp)).alloc (.cells #[.int .i64 0, .int .i64 0] 41)
    go_enter Tryz.func74, Tryz.ntmps74
    go_upto_region 1 with fail
    generalize (w.alloc (.cells #[.slice (some ⟨pb, po, none⟩) ms.length cp] 25)).alloc (.cells #[.int .i64 0, .int .i64 0] 41) = W at *
    obtain ⟨⟨u0, u1⟩, uf0, uf1⟩ := two_cells r1
    have v0 := r0.cell (i := 0) (by decide)
    go_wp2_with (go_at_call 61; refine (isPlace_any _ _ _).mono ?_; rintro e w' ⟨rfl, hw⟩; obtain rfl := hw.symm; rw [inR_false.2 (by omega)])
    have R9 : ((W.setCell ⟨w.heap.size + 1, 0, none⟩ (.int .i64 0)).setCell ⟨w.heap.size + 1, 1, none⟩ (.int .i64 0)).rowIs (w.heap.size + 1) 41 2 (two (.int .i64 0) (.int .i64 0)) := ((two_set0 r1 (.int .i64 0)).set 1 (.int .i64 0)).congr fun i hi => by match i, hi with | 0, _ => rfl | 1, _ => rfl
    have B9 : Below w.heap.size w ((W.setCell ⟨w.heap.size + 1, 0, none⟩ (.int .i64 0)).setCell ⟨w.heap.size + 1, 1, none⟩ (.int .i64 0)) := (hA.setCell (p := ⟨w.heap.size + 1, 0, none⟩) (Nat.le_succ _) _).setCell (p := ⟨w.heap.size + 1, 1, none⟩) (Nat.le_succ _) _
    obtain ⟨⟨s0, s1⟩, _⟩ := two_cells R9
    generalize (W.setCell ⟨w.heap.size + 1, 0, none⟩ (.int .i64 0)).setCell ⟨w.heap.size + 1, 1, none⟩ (.int .i64 0) = W9 at *
    exact bodyPost_ret (v := .tuple #[.agg #[.int .i64 0, .int .i64 0], .bool false]) (by simp [results, Tryz.results74, go_sem, s0, s1]) rfl ⟨rfl, B9⟩

end Go.Proofs.YthkjgfhheejaoaaGreatDoor

/-
  The program's step, its parts: the kinds of what is taken, what is taken.
-/
namespace Go.Proofs.YthkjgfhheejaoaaGreatDoor
open Go.RowKit

set_option maxRecDepth 100000 in
set_option maxHeartbeats 4000000 in
theorem kindsFit_any (k a : Int) (va : Value) (args : List (Int × Int)) (w : World) (hM : OpsAt w va args) (h5 : k = 5 → args.length = 2) (h1 : k = 12 ∨ k = 13 ∨ k = 14 ∨ k = 15 ∨ k = 17 ∨ k = 18 → 1 ≤ args.length) :
    Calls Tryz.prog 91 #[.agg #[.int .i64 k, .int .i64 a], va] w fun e w' => e = .returned (.bool (kindsOk k args)) ∧ Below w.heap.size w w' := by
  obtain ⟨aa, ca, rfl, hal, hc⟩ := hM
  have hA : Below w.heap.size w (w.alloc (.cells #[.int .i64 k, .int .i64 a] 41)) := (Below.refl _ _).alloc (Nat.le_refl _) _
  have ro := two_new w 41 (.int .i64 k) (.int .i64 a)
  by_cases e5 : k = 5
  · subst e5
    have hl := h5 rfl
    obtain ⟨b, o, rfl, p0, p1⟩ := hc 0 (by omega)
    obtain ⟨b', o', hbo, q0, q1⟩ := hc 1 (by omega)
    obtain ⟨rfl, rfl⟩ : b = b' ∧ o = o' := by injection hbo with e; injection e with e1 e2; exact ⟨e1, e2⟩
    have hz0 : (0 : Int) < (args.length : Int) := by omega
    have hz1 : (1 : Int) < (args.length : Int) := by omega
    have HK : Hid (kindsOk 5 args = ((args[0]'(by omega)).1 == 1 && (args[1]'(by omega)).1 == 1)) := by
      show _ = _
      unfold kindsOk
      rw [if_pos rfl, getD_at (by omega), getD_at (by omega)]
    have p0A := cell_below hA p0
    have q0A := cell_below hA q0
    simp only [Nat.zero_mul, Nat.add_zero, Nat.one_mul] at p0A q0A
    go_enter Tryz.func91, Tryz.ntmps91
    go_upto_region 1 with fail
    generalize w.alloc (.cells #[.int .i64 5, .int .i64 a] 41) = W at *
    obtain ⟨⟨o0, o1⟩, _⟩ := two_cells ro
    generalize hx : args[0].1 = X at *
    generalize hy : args[1].1 = Y at *
    by_cases ex : X = 1
    · subst ex
      go_wp2
      go_ret
      exact ⟨by rw [HK.out]; simp, hA⟩
    · have ex' : (X == 1) = false := beq_eq_false_iff_ne.2 ex
      go_wp2
      go_ret
      exact ⟨by rw [HK.out, ex']; simp, hA⟩
  have e5' : (k == 5) = false := beq_eq_false_iff_ne.2 e5
  by_cases ek : k = 12 ∨ k = 13 ∨ k = 14 ∨ k = 15 ∨ k = 17 ∨ k = 18
  · have hl := h1 ek
    obtain ⟨b, o, rfl, p0, p1⟩ := hc 0 (by omega)
    have hz0 : (0 : Int) < (args.length : Int) := by omega
    have HK : Hid (kindsOk k args = ((args[0]'(by omega)).1 == 2)) := by
      show _ = _
      unfold kindsOk
      rw [if_neg e5, if_pos ek, getD_at (by omega)]
    have p0A := cell_below hA p0
    simp only [Nat.zero_mul, Nat.add_zero] at p0A
    generalize args[0].1 = X at *
    rcases ek with e | e | e | e | e | e
    all_goals
      subst e
      go_enter Tryz.func91, Tryz.ntmps91
      go_upto_region 1 with fail
      generalize w.alloc _ = W at *
      obtain ⟨⟨o0, o1⟩, _⟩ := two_cells ro
      go_wp2
      go_ret
      exact ⟨by rw [HK.out]; rfl, hA⟩
  · have HK : Hid (kindsOk k args = true) := by
      show _ = _
      unfold kindsOk
      rw [if_neg e5, if_neg ek]
    have n12 : (k == 12) = false := beq_eq_false_iff_ne.2 (by omega)
    have n13 : (k == 13) = false := beq_eq_false_iff_ne.2 (by omega)
    have n14 : (k == 14) = false := beq_eq_false_iff_ne.2 (by omega)
    have n15 : (k == 15) = false := beq_eq_false_iff_ne.2 (by omega)
    have n17 : (k == 17) = false := beq_eq_false_iff_ne.2 (by omega)
    have n18 : (k == 18) = false := beq_eq_false_iff_ne.2 (by omega)
    clear e5 ek
    go_enter Tryz.func91, Tryz.ntmps91
    go_upto_region 1 with fail
    generalize w.alloc _ = W at *
    obtain ⟨⟨o0, o1⟩, _⟩ := two_cells ro
    go_wp2
    go_ret
    exact ⟨by rw [HK.out]; rfl, hA⟩

/-- how many an operation takes fits its kinds -/
theorem takes_kinds {ms : Ms} {kk a t l : Int} (e : takesOf ms kk a = (t, l)) {DR : List (Int × Int)} (hd : (DR.length : Int) = t) : (kk = 5 → DR.length = 2) ∧ (kk = 12 ∨ kk = 13 ∨ kk = 14 ∨ kk = 15 ∨ kk = 17 ∨ kk = 18 → 1 ≤ DR.length) := by
  refine ⟨fun q => ?_, fun q => ?_⟩
  · subst q
    rw [takes_num (by decide)] at e
    injection e with e1 e2
    have : tk 5 = 2 := rfl
    omega
  · rw [takes_num (by omega)] at e
    injection e with e1 e2
    have : 1 ≤ tk kk := by
      rcases q with q | q | q | q | q | q <;> subst q <;> decide
    omega

end Go.Proofs.YthkjgfhheejaoaaGreatDoor

/-
  The program's step, its parts: what is taken.
-/
namespace Go.Proofs.YthkjgfhheejaoaaGreatDoor
open Go.RowKit

set_option maxRecDepth 100000 in
set_option maxHeartbeats 4000000 in
theorem takenBy_no {B : Nat} (vp : Value) (ms : Ms) (hp : progOk ms = true) (kk a t l : Int) (ht : takesOf ms kk a = (t, l)) (sa : Option Addr) (sc : Nat) (st : List (Int × Int)) (w : World) (hM : MethsAt w vp ms) (hT : TabAt w) (hs : PairRow B w (.slice sa st.length sc) st) (hl : st.length ≤ 6)
    (hbad : ((st.length : Int) - t < 0 ∨ 6 < (st.length : Int) - t + l) ∨ kindsOk kk (st.drop ((st.length : Int) - t).toNat) = false) :
    Calls Tryz.prog 75 #[.agg #[vp], .agg #[.int .i64 kk, .int .i64 a], .slice sa st.length sc] w fun e w' => e = .returned (.tuple #[.slice none 0 0, .bool false]) ∧ Below w.heap.size w w' := by
  have hA : Below w.heap.size w ((w.alloc (.cells #[vp] 25)).alloc (.cells #[.int .i64 kk, .int .i64 a] 41)) := ((Below.refl _ _).alloc (Nat.le_refl _) _).alloc (by simp) _
  have hTB := takes_bound hp kk a
  rw [ht] at hTB
  simp only [] at hTB
  obtain ⟨ap, cp, hvp, _⟩ := id hM
  subst hvp
  have r0 := (box_row w 25 (.slice ap ms.length cp)).alloc (.cells #[.int .i64 kk, .int .i64 a] 41)
  have r1 := two_new (w.alloc (.cells #[.slice ap ms.length cp] 25)) 41 (.int .i64 kk) (.int .i64 a)
  simp only [World.size_alloc] at r1
  have HT := implTakes_any (.slice ap ms.length cp) ms kk a _ (hM.below hA) (hT.below hA)
  rw [ht] at HT
  simp only [] at HT
  have hsA := hs.below hA
  have HTK : Hid (takesOf ms kk a = (t, l)) := ht
  have hwl : IntKind.i64.wrap ((st.length : Int) - t) = (st.length : Int) - t := by rw [IntKind.wrap_i64]; omega
  have hwl2 : IntKind.i64.wrap ((st.length : Int) - t + l) = (st.length : Int) - t + l := by rw [IntKind.wrap_i64]; omega
  clear hM hT hs ht
  go_enter Tryz.func75, Tryz.ntmps75
  go_upto_region 1 with fail
  generalize (w.alloc (.cells #[.slice ap ms.length cp] 25)).alloc (.cells #[.int .i64 kk, .int .i64 a] 41) = W at *
  obtain ⟨⟨u0, u1⟩, _⟩ := two_cells r1
  have v0 := r0.cell (i := 0) (by decide)
  go_upto_region 2 with (go_at_call 90; refine HT.mono ?_; rintro e w2 ⟨rfl, hb2⟩)
  have s2 := hsA.below hb2
  obtain ⟨⟨x0, x1⟩, _⟩ := two_cells (row_below hb2 r1)
  have B2 : Below w.heap.size w w2 := hA.trans (hb2.mono hA.size)
  clear u0 u1 v0 r0 r1 HT hsA hA
  by_cases hneg : (st.length : Int) - t < 0
  · have hn' : decide ((st.length : Int) - t < 0) = true := decide_eq_true hneg
    go_wp2_with fail
    go_region
    go_wp2
    go_ret2
    exact ⟨rfl, B2.drew⟩
  by_cases hbig : 6 < (st.length : Int) - t + l
  · have hn' : decide ((st.length : Int) - t < 0) = false := decide_eq_false hneg
    have hg' : decide (6 < (st.length : Int) - t + l) = true := decide_eq_true hbig
    go_wp2_with fail
    go_region
    go_wp2
    go_ret2
    exact ⟨rfl, B2.drew⟩
  obtain ⟨L, hL⟩ : ∃ L : Nat, (st.length : Int) - t = (L : Int) := ⟨((st.length : Int) - t).toNat, by omega⟩
  have hLn : L ≤ st.length := by omega
  have hkb : kindsOk kk (st.drop L) = false := by
    rcases hbad with h | h
    · omega
    · rw [hL, Int.toNat_natCast] at h; exact h
  rw [hL] at hwl hwl2 hneg hbig
  have hLz : (L : Int) ≤ (st.length : Int) := by omega
  have hL0 : (0 : Int) ≤ (L : Int) := by omega
  obtain ⟨hpF, _⟩ := s2.piece (l := L) (k := st.length) hLn (Nat.le_refl _)
  rw [List.take_length] at hpF
  have hfrom : ∀ W, (Instr.slice 27 (.slice sa st.length sc) (some (.int .i64 (L : Int))) none none).run Tryz.prog W = .ok (sliced sa L st.length sc 2) W := fun W => val_from W sa _ sc L hLn
  generalize sliced sa L st.length sc 2 = VF at *
  have hK := kindsFit_any kk a VF (st.drop L) _ (hpF.below (Below.refl w2.heap.size w2).drew) (takes_kinds HTK.out (by simp; omega)).1 (takes_kinds HTK.out (by simp; omega)).2
  rw [hkb] at hK
  clear hbad hpF s2 hkb
  have hn' : decide ((L : Int) < 0) = false := decide_eq_false hneg
  have hg' : decide (6 < (L : Int) + l) = false := decide_eq_false hbig
  go_wp2_with fail
  go_region_held3 (fun w' => w'.cell? ⟨w.heap.size + 1, 0, none⟩ = some (.int .i64 kk) ∧ w'.cell? ⟨w.heap.size + 1, 1, none⟩ = some (.int .i64 a))
    (first | with_reducible exact ⟨x0, x1⟩ | exact ⟨cell_below hb3 (show w2.drew.cell? _ = _ from x0), cell_below hb3 (show w2.drew.cell? _ = _ from x1)⟩ | go_keep)
    (first | (go_at_call 91; refine hK.mono ?_; rintro e w3 ⟨rfl, hb3⟩))
  all_goals
    go_wp2
    go_ret2
    exact ⟨rfl, B2.drew.trans (hb3.mono B2.size)⟩

set_option maxRecDepth 100000 in
set_option maxHeartbeats 4000000 in
theorem takenBy_yes {B : Nat} (vp : Value) (ms : Ms) (hp : progOk ms = true) (kk a t l : Int) (ht : takesOf ms kk a = (t, l)) (sa : Option Addr) (sc : Nat) (st : List (Int × Int)) (w : World) (hM : MethsAt w vp ms) (hT : TabAt w) (hs : PairRow B w (.slice sa st.length sc) st) (hl : st.length ≤ 6)
    {L : Nat} (hL : (st.length : Int) - t = (L : Int)) (hbig : (L : Int) + l ≤ 6) (hkb : kindsOk kk (st.drop L) = true) :
    Calls Tryz.prog 75 #[.agg #[vp], .agg #[.int .i64 kk, .int .i64 a], .slice sa st.length sc] w fun e w' => ∃ v', e = .returned (.tuple #[v', .bool true]) ∧ PairRow w.heap.size w' v' (st.drop L) ∧ Below w.heap.size w w' := by
  have hA : Below w.heap.size w ((w.alloc (.cells #[vp] 25)).alloc (.cells #[.int .i64 kk, .int .i64 a] 41)) := ((Below.refl _ _).alloc (Nat.le_refl _) _).alloc (by simp) _
  have hTB := takes_bound hp kk a
  rw [ht] at hTB
  simp only [] at hTB
  obtain ⟨ap, cp, hvp, _⟩ := id hM
  subst hvp
  have r0 := (box_row w 25 (.slice ap ms.length cp)).alloc (.cells #[.int .i64 kk, .int .i64 a] 41)
  have r1 := two_new (w.alloc (.cells #[.slice ap ms.length cp] 25)) 41 (.int .i64 kk) (.int .i64 a)
  simp only [World.size_alloc] at r1
  have HT := implTakes_any (.slice ap ms.length cp) ms kk a _ (hM.below hA) (hT.below hA)
  rw [ht] at HT
  simp only [] at HT
  have hsA := hs.below hA
  have HTK : Hid (takesOf ms kk a = (t, l)) := ht
  have hwl : IntKind.i64.wrap ((st.length : Int) - t) = (st.length : Int) - t := by rw [IntKind.wrap_i64]; omega
  have hwl2 : IntKind.i64.wrap ((st.length : Int) - t + l) = (st.length : Int) - t + l := by rw [IntKind.wrap_i64]; omega
  clear hM hT hs ht
  go_enter Tryz.func75, Tryz.ntmps75
  go_upto_region 1 with fail
  generalize (w.alloc (.cells #[.slice ap ms.length cp] 25)).alloc (.cells #[.int .i64 kk, .int .i64 a] 41) = W at *
  obtain ⟨⟨u0, u1⟩, _⟩ := two_cells r1
  have v0 := r0.cell (i := 0) (by decide)
  go_upto_region 2 with (go_at_call 90; refine HT.mono ?_; rintro e w2 ⟨rfl, hb2⟩)
  have s2 := hsA.below hb2
  obtain ⟨⟨x0, x1⟩, _⟩ := two_cells (row_below hb2 r1)
  have B2 : Below w.heap.size w w2 := hA.trans (hb2.mono hA.size)
  clear u0 u1 v0 r0 r1 HT hsA hA
  have hLn : L ≤ st.length := by omega
  rw [hL] at hwl hwl2
  have hLz : (L : Int) ≤ (st.length : Int) := by omega
  have hL0 : (0 : Int) ≤ (L : Int) := by omega
  obtain ⟨hpF, _⟩ := s2.piece (l := L) (k := st.length) hLn (Nat.le_refl _)
  rw [List.take_length] at hpF
  have hfrom : ∀ W, (Instr.slice 27 (.slice sa st.length sc) (some (.int .i64 (L : Int))) none none).run Tryz.prog W = .ok (sliced sa L st.length sc 2) W := fun W => val_from W sa _ sc L hLn
  generalize sliced sa L st.length sc 2 = VF at *
  have hK := kindsFit_any kk a VF (st.drop L) _ (hpF.below (Below.refl w2.heap.size w2).drew) (takes_kinds HTK.out (by simp; omega)).1 (takes_kinds HTK.out (by simp; omega)).2
  rw [hkb] at hK
  clear s2 hkb
  have hn' : decide ((L : Int) < 0) = false := decide_eq_false (by omega)
  have hg' : decide (6 < (L : Int) + l) = false := decide_eq_false (by omega)
  go_wp2_with fail
  go_region_held3 (fun w' => w'.cell? ⟨w.heap.size + 1, 0, none⟩ = some (.int .i64 kk) ∧ w'.cell? ⟨w.heap.size + 1, 1, none⟩ = some (.int .i64 a))
    (first | with_reducible exact ⟨x0, x1⟩ | exact ⟨cell_below hb3 (show w2.drew.cell? _ = _ from x0), cell_below hb3 (show w2.drew.cell? _ = _ from x1)⟩ | go_keep)
    (first | (go_at_call 91; refine hK.mono ?_; rintro e w3 ⟨rfl, hb3⟩))
  all_goals
    have hpF3 := (hpF.below (Below.refl w2.heap.size w2).drew).below hb3
    have B3 : Below w.heap.size w w3 := B2.drew.trans (hb3.mono B2.size)
    go_wp2_with (go_at_call 33; refine (clone_any _ _ _ hpF3 (by simp; omega)).mono ?_; rintro e w4 ⟨v4, rfl, hr4, hb4⟩)
    go_ret2
    exact ⟨_, rfl, hr4.mono B3.size, B3.trans (hb4.mono B3.size)⟩

end Go.Proofs.YthkjgfhheejaoaaGreatDoor
