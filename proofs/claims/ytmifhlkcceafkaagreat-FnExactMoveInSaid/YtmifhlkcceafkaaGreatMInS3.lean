/-
  MoveIn of the model: each call is copied as a thing of its own, the one that runs is loaded onto the first page.
-/
import Derived.Test.YtmifhlkcceafkaaGreatMInS2
import Derived.Test.YtmifhlkcceafkaaGreatHHeapOk
import Derived.Test.YtmifhlkcceafkaaGreatSize
import Derived.Test.YtmifhlkcceafkaaGreatMvFacts2

namespace Go.Proofs.YtmifhlkcceafkaaGreat
open Go.RowKit
theorem na_inj {m pc sd : Value} {n1 n2 : Nat} {d : Value} {x y : (Option Addr × Nat) × Option Addr × Nat} (h : Value.agg #[m, pc, .slice x.1.1 n1 x.1.2, .slice x.2.1 n2 x.2.2, sd, d] = .agg #[m, pc, .slice y.1.1 n1 y.1.2, .slice y.2.1 n2 y.2.2, sd, d]) : x = y := by
  injection h with h
  have h2 := congrArg Array.toList h
  simp only [List.cons.injEq, Value.slice.injEq, true_and, and_true] at h2
  obtain ⟨⟨a1, a2⟩, b1, b2⟩ := x
  obtain ⟨⟨c1, c2⟩, d1, d2⟩ := y
  obtain ⟨⟨e1, e2⟩, e3, e4⟩ := h2
  dsimp only at e1 e2 e3 e4
  subst e1 e2 e3 e4
  rfl
theorem pages_none {C n gp op cp gE : Nat} {z : World} {L0 : List Value} (hr : CRow C 2 z (.slice (some ⟨gp, op, none⟩) n cp) n (rowV (.slice (some ⟨gE, 0, none⟩) 0 0 :: L0)))
    (hL0 : ∀ x ∈ L0, ∃ g, x = .slice (some ⟨g, 0, none⟩) 0 0) (hlen : (Value.slice (some ⟨gE, 0, none⟩) 0 0 :: L0).length = n * 1) (hn : n ≤ 4) : PagesAt z (.slice (some ⟨gp, op, none⟩) n cp) (List.replicate n pgE) := by
  have hl1 : L0.length + 1 = n := by simpa using hlen
  refine ⟨_, cp, by rw [List.length_replicate], by rw [List.length_replicate]; unfold maxLen; omega, fun i hi => ?_⟩
  have hi' : i < n := by simpa using hi
  have re := rowV_at (.slice (some ⟨gE, 0, none⟩) 0 0 :: L0) i (by simp; omega)
  obtain ⟨c0, _⟩ := hr.cell re.1
  obtain ⟨c1, _⟩ := hr.cell re.2
  obtain ⟨g, hg⟩ : ∃ g, (Value.slice (some ⟨gE, 0, none⟩) 0 0 :: L0)[i]'(by simp; omega) = .slice (some ⟨g, 0, none⟩) 0 0 := by
    cases i with
    | zero => exact ⟨gE, rfl⟩
    | succ i => exact hL0 _ (List.getElem_mem (by omega))
  rw [hg] at c1
  rw [← Nat.add_assoc] at c1
  rw [List.getElem_replicate]
  exact ⟨gp, op, _, rfl, c0, c1, _, 0, rfl, Nat.zero_le _, fun k hk => absurd hk (Nat.not_lt_zero _)⟩
theorem own_eq {a o n c g : Nat} (e : (Value.slice (some ⟨a, o, none⟩) n c).ownBlock = some g) : a = g := by injection e
theorem pair_empty {B g : Nat} {w : World} (h1 : B ≤ g) (h2 : g < w.heap.size) : PairRow B w (.slice (some ⟨g, 0, none⟩) 0 0) [] :=
  .inr ⟨g, 0, 0, rfl, h1, h2, Nat.le_refl _, by unfold maxLen; omega, fun i hi => absurd hi (by omega), fun i hi => absurd hi (Nat.not_lt_zero _)⟩
set_option maxRecDepth 100000 in
set_option maxHeartbeats 4000000 in
theorem specMoveIn_any (vp vc vs : Value) (ms : List (Int × Int × List (Int × Int))) (h : Hp) (r c : Int) (w : World) (hp : MethsAt w vp ms) (hh : HeapAt w vc vs h) (hn : h.calls.length ≤ 1048576) (hsd : h.said.length ≤ 1048576) :
    Calls Tryz.prog 6 #[.agg #[vp], .agg (hpCells vc vs h), .int .i64 r, .int .i64 c] w fun e w' => Below w.heap.size w w' ∧
      (((heapOk ms h && roomsB r c) = false ∧ e = .returned (.tuple #[.agg #[.int .i64 0, .slice none 0 0, .slice none 0 0, .int .i64 0, .slice none 0 0, .int .i64 0, .slice none 0 0, .int .i64 0], .bool false])) ∨
       ((heapOk ms h && roomsB r c) = true ∧ ∃ v1 v2 v3 v4, e = .returned (.tuple #[.agg (mcCells v1 v2 v3 v4 (mvIn h r.toNat c)).toArray, .bool true]) ∧ From w.heap.size w' (fun z => MachAt z v1 v2 v3 v4 (mvIn h r.toNat c)))) := by
  obtain ⟨ap0, cap0, rfl, _, _⟩ := id hp
  obtain ⟨ac, kc, hvc⟩ := hh.c.shape
  obtain ⟨aD, kD, hvs⟩ := hh.s.shape
  subst hvc hvs
  obtain ⟨fp, hfp⟩ : ∃ fp, heapOk ms h = fp := ⟨_, rfl⟩
  have HFP : Hid (heapOk ms h = fp) := hfp
  have HHH : Hid (HeapAt w (.slice ac h.calls.length kc) (.slice aD h.said.length kD) h) := hh
  have HOK := fun W (hb : Below w.heap.size w W) => specHeapOk_any _ _ _ ms h W (hp.below hb) (hh.below hb) hn
  have HNW := fun W (hb : Below w.heap.size w W) => specMachNew_own _ ms r c W (hp.below hb)
  rw [hfp] at HOK ⊢
  unfold hpCells at HOK ⊢
  have hpg : progOk ms = false → heapOk ms h = false := fun e => heapOk_head (by unfold headOk; rw [e]; rfl)
  have HPG : Hid (progOk ms = false → heapOk ms h = false) := hpg
  clear hfp hp hh hpg
  go_enter Tryz.func6, Tryz.ntmps6
  go_upto_region 1 with fail
  refine wp_gen (fun W => Below w.heap.size w W ∧ Bx W w.heap.size 41 [.slice ap0 ms.length cap0] ∧ Bx W (w.heap.size + 1) 45 [.slice ac h.calls.length kc, .int .i64 h.now, .int .i64 h.born, .slice aD h.said.length kD, .int .i64 h.code] ∧ Bx W (w.heap.size + 2) 36 [.int .i64 0, .slice none 0 0, .slice none 0 0, .int .i64 0, .slice none 0 0, .int .i64 0, .slice none 0 0, .int .i64 0]) ⟨(((Below.refl _ _).alloc (Nat.le_refl _) _).alloc (by simp) _).alloc (by simp; omega) _, ((Bx.new w _ _).alloc _).alloc _, (Bx.newAt _ _ _ (by simp)).alloc _, Bx.newAt _ _ _ (by simp)⟩ ?_
  rintro W0 ⟨B0, x0, y0, r0⟩
  have p0 := x0.cell 0 rfl
  have z0 := B0.size
  have hr0l := r0.lt
  go_wp2_with fail
  refine (HNW _ B0).mono ?_
  rintro e W1 ⟨t1, hdis⟩
  have x1 := x0.below t1
  have y1 := y0.below t1
  have r1 := r0.below t1
  have B1 := B0.trans (t1.mono z0)
  have z1 := B1.size
  clear HNW x0 y0 r0 B0 p0
  have hfalse : ∀ (e1 : Prop), True := fun _ => trivial
  clear hfalse
  rcases hdis with ⟨hno, rfl⟩ | ⟨hyes, v, vo, vt, vsd, rfl, _, hSN⟩
  · -- no machine
    have HF : Hid ((heapOk ms h && roomsB r c) = false) := by
      show _ = false
      by_cases e : progOk ms = true
      · rw [e, Bool.true_and] at hno
        rw [hno, Bool.and_false]
      · rw [HPG.out (by simpa using e), Bool.false_and]
    rw [HFP.out] at HF
    go_upto_region 2 with fail
    refine wp_gen (fun W => Below W1.heap.size W1 W) ((Below.refl _ _).alloc (Nat.le_refl _) _) ?_
    rintro W2 t2
    have x2 := x1.below t2
    have y2 := y1.below t2
    have r2 := r1.below t2
    have B2 := B1.trans (t2.mono z1)
    have z2 := B2.size
    have p0 := x2.cell 0 rfl
    have e0 := y2.cell 0 rfl
    have e1 := y2.cell 1 rfl
    have e2 := y2.cell 2 rfl
    have e3 := y2.cell 3 rfl
    have e4 := y2.cell 4 rfl
    go_wp2_with fail
    refine (HOK _ B2).mono ?_
    rintro e W3 ⟨rfl, t3⟩
    have r3 := r2.below t3
    have B3 := B2.trans (t3.mono z2)
    obtain ⟨⟨s0, s1, s2, s3, s4, s5, s6, s7⟩, ⟨g0, g1, g2, g3, g4, g5, g6, g7⟩⟩ := bx8 r3
    have HZ : Below w.heap.size w ((((((((W3.setCell ⟨w.heap.size + 2, 0, none⟩ (.int .i64 0)).setCell ⟨w.heap.size + 2, 1, none⟩ (.slice none 0 0)).setCell ⟨w.heap.size + 2, 2, none⟩ (.slice none 0 0)).setCell ⟨w.heap.size + 2, 3, none⟩ (.int .i64 0)).setCell ⟨w.heap.size + 2, 4, none⟩ (.slice none 0 0)).setCell ⟨w.heap.size + 2, 5, none⟩ (.int .i64 0)).setCell ⟨w.heap.size + 2, 6, none⟩ (.slice none 0 0)).setCell ⟨w.heap.size + 2, 7, none⟩ (.int .i64 0)) ∧ Bx ((((((((W3.setCell ⟨w.heap.size + 2, 0, none⟩ (.int .i64 0)).setCell ⟨w.heap.size + 2, 1, none⟩ (.slice none 0 0)).setCell ⟨w.heap.size + 2, 2, none⟩ (.slice none 0 0)).setCell ⟨w.heap.size + 2, 3, none⟩ (.int .i64 0)).setCell ⟨w.heap.size + 2, 4, none⟩ (.slice none 0 0)).setCell ⟨w.heap.size + 2, 5, none⟩ (.int .i64 0)).setCell ⟨w.heap.size + 2, 6, none⟩ (.slice none 0 0)).setCell ⟨w.heap.size + 2, 7, none⟩ (.int .i64 0)) (w.heap.size + 2) 36 [.int .i64 0, .slice none 0 0, .slice none 0 0, .int .i64 0, .slice none 0 0, .int .i64 0, .slice none 0 0, .int .i64 0] := by
      have HW := ((((((((Wr.refl1 (w.heap.size + 2) W3).set1 (o := 0) (.int .i64 0)).set1 (o := 1) (.slice none 0 0)).set1 (o := 2) (.slice none 0 0)).set1 (o := 3) (.int .i64 0)).set1 (o := 4) (.slice none 0 0)).set1 (o := 5) (.int .i64 0)).set1 (o := 6) (.slice none 0 0)).set1 (o := 7) (.int .i64 0)
      exact ⟨HW.below1 B3 (Nat.le_refl _) (Nat.le_add_right _ _), (((((((r3.set 0 _).set 1 _).set 2 _).set 3 _).set 4 _).set 5 _).set 6 _).set 7 _⟩
    have HZH : Hid _ := HZ
    clear HZ p0 e0 e1 e2 e3 e4
    cases fp
    all_goals
      go_wp2
      refine bp_gen (fun W => Below w.heap.size w W ∧ Bx W (w.heap.size + 2) 36 [.int .i64 0, .slice none 0 0, .slice none 0 0, .int .i64 0, .slice none 0 0, .int .i64 0, .slice none 0 0, .int .i64 0]) HZH.out ?_
      rintro W9 ⟨B9, x9⟩
      obtain ⟨⟨q0, q1, q2, q3, q4, q5, q6, q7⟩, _⟩ := bx8 x9
      exact bodyPost_ret (v := .tuple #[.agg #[.int .i64 0, .slice none 0 0, .slice none 0 0, .int .i64 0, .slice none 0 0, .int .i64 0, .slice none 0 0, .int .i64 0], .bool false]) (by simp [results, Tryz.results6, go_sem, q0, q1, q2, q3, q4, q5, q6, q7]) rfl ⟨B9, .inl ⟨HF.out, rfl⟩⟩
  have hRB : roomsB r c = true := by simp only [Bool.and_eq_true] at hyes; exact hyes.2
  obtain ⟨C, gp, op, cp, gT, gS, xf, L0, e1, e2, e3, hrow, hord, hog, hL0, hlen, hT1, hTS, hSC, hCW⟩ := hSN
  subst e1 e2 e3
  obtain ⟨hr1, hr4, _, _⟩ := roomsB_true hRB
  obtain ⟨n, rfl⟩ := Int.eq_ofNat_of_zero_le (show 0 ≤ r by omega)
  have hn1 : 1 ≤ n := by omega
  have hn4 : n ≤ 4 := by omega
  simp only [Int.toNat_natCast] at hrow hord hlen ⊢
  have HRB : Hid (roomsB (n : Int) c = true) := hRB
  clear hRB hyes hr1 hr4
  obtain ⟨ao, co, hvo, _⟩ := hord.slice
  subst hvo
  go_upto_region 2 with fail
  refine wp_gen (fun W => Below W1.heap.size W1 W ∧ Bx W W1.heap.size 36 [.int .i64 c, .slice (some ⟨gp, op, none⟩) n cp, .slice ao (ordTo n n).length co, .int .i64 0, .slice (some ⟨gT, 0, none⟩) 0 0, .int .i64 1, .slice (some ⟨gS, 0, none⟩) 0 0, .int .i64 0]) ⟨(Below.refl _ _).alloc (Nat.le_refl _) _, Bx.new _ _ _⟩ ?_
  rintro W2 ⟨t2, m2⟩
  have x2 := x1.below t2
  have y2 := y1.below t2
  have r2 := r1.below t2
  have B2 := B1.trans (t2.mono z1)
  have z2 := t2.size
  have hrow2 := hrow.below t2
  have hord2 := hord.below t2
  have hgm2 := m2.lt
  obtain ⟨gm, hgm⟩ : ∃ g, W1.heap.size = g := ⟨_, rfl⟩
  rw [hgm] at m2 hgm2 z2 hCW ⊢
  have hgp := hrow.lt gp rfl
  have hgo := hord.lt
  clear x1 y1 r1 B1 t2 hrow hord
  have p0 := x2.cell 0 rfl
  have e0 := y2.cell 0 rfl
  have e1 := y2.cell 1 rfl
  have e2 := y2.cell 2 rfl
  have e3 := y2.cell 3 rfl
  have e4 := y2.cell 4 rfl
  go_wp2_with fail
  refine (HOK _ B2).mono ?_
  rintro e W3 ⟨rfl, t3⟩
  have x3 := x2.below t3
  have y3 := y2.below t3
  have r3 := r2.below t3
  have m3 := m2.below t3
  have B3 := B2.trans (t3.mono B2.size)
  have z3 := t3.size
  have hrow3 := hrow2.below t3
  have hord3 := hord2.below t3
  clear x2 y2 r2 m2 hrow2 hord2 p0 e0 e1 e2 e3 e4 HOK
  cases fp
  · obtain ⟨⟨s0, s1, s2, s3, s4, s5, s6, s7⟩, ⟨g0, g1, g2, g3, g4, g5, g6, g7⟩⟩ := bx8 r3
    have HZ : Below w.heap.size w ((((((((W3.setCell ⟨w.heap.size + 2, 0, none⟩ (.int .i64 0)).setCell ⟨w.heap.size + 2, 1, none⟩ (.slice none 0 0)).setCell ⟨w.heap.size + 2, 2, none⟩ (.slice none 0 0)).setCell ⟨w.heap.size + 2, 3, none⟩ (.int .i64 0)).setCell ⟨w.heap.size + 2, 4, none⟩ (.slice none 0 0)).setCell ⟨w.heap.size + 2, 5, none⟩ (.int .i64 0)).setCell ⟨w.heap.size + 2, 6, none⟩ (.slice none 0 0)).setCell ⟨w.heap.size + 2, 7, none⟩ (.int .i64 0)) ∧ Bx ((((((((W3.setCell ⟨w.heap.size + 2, 0, none⟩ (.int .i64 0)).setCell ⟨w.heap.size + 2, 1, none⟩ (.slice none 0 0)).setCell ⟨w.heap.size + 2, 2, none⟩ (.slice none 0 0)).setCell ⟨w.heap.size + 2, 3, none⟩ (.int .i64 0)).setCell ⟨w.heap.size + 2, 4, none⟩ (.slice none 0 0)).setCell ⟨w.heap.size + 2, 5, none⟩ (.int .i64 0)).setCell ⟨w.heap.size + 2, 6, none⟩ (.slice none 0 0)).setCell ⟨w.heap.size + 2, 7, none⟩ (.int .i64 0)) (w.heap.size + 2) 36 [.int .i64 0, .slice none 0 0, .slice none 0 0, .int .i64 0, .slice none 0 0, .int .i64 0, .slice none 0 0, .int .i64 0] := by
      have HW := ((((((((Wr.refl1 (w.heap.size + 2) W3).set1 (o := 0) (.int .i64 0)).set1 (o := 1) (.slice none 0 0)).set1 (o := 2) (.slice none 0 0)).set1 (o := 3) (.int .i64 0)).set1 (o := 4) (.slice none 0 0)).set1 (o := 5) (.int .i64 0)).set1 (o := 6) (.slice none 0 0)).set1 (o := 7) (.int .i64 0)
      exact ⟨HW.below1 B3 (Nat.le_refl _) (Nat.le_add_right _ _), (((((((r3.set 0 _).set 1 _).set 2 _).set 3 _).set 4 _).set 5 _).set 6 _).set 7 _⟩
    have HZH : Hid _ := HZ
    clear HZ
    go_wp2
    refine bp_gen (fun W => Below w.heap.size w W ∧ Bx W (w.heap.size + 2) 36 [.int .i64 0, .slice none 0 0, .slice none 0 0, .int .i64 0, .slice none 0 0, .int .i64 0, .slice none 0 0, .int .i64 0]) HZH.out ?_
    rintro W9 ⟨B9, x9⟩
    obtain ⟨⟨q0, q1, q2, q3, q4, q5, q6, q7⟩, _⟩ := bx8 x9
    exact bodyPost_ret (v := .tuple #[.agg #[.int .i64 0, .slice none 0 0, .slice none 0 0, .int .i64 0, .slice none 0 0, .int .i64 0, .slice none 0 0, .int .i64 0], .bool false]) (by simp [results, Tryz.results6, go_sem, q0, q1, q2, q3, q4, q5, q6, q7]) rfl ⟨B9, .inl ⟨rfl, rfl⟩⟩
  have OK := ok_parts HFP.out
  have h30 : h.calls.length ≤ 30 := OK.n30
  -- the first page is empty
  obtain ⟨k1, l1⟩ := hrow3.cell (j := 1) (rowV_0 xf L0).2
  have hnz : (0 : Int) < (n : Int) := by omega
  have hn0 : ¬ n = 0 := by omega
  have hgp3 : gp < W3.heap.size := by omega
  have b1 := m3.cell 1 rfl
  go_upto_region 5 with fail
  obtain ⟨gE, hgE⟩ : ∃ g, W3.heap.size = g := ⟨_, rfl⟩
  refine wp_gen (fun W => Below w.heap.size w W ∧ Bx W w.heap.size 41 [.slice ap0 ms.length cap0] ∧ Bx W (w.heap.size + 1) 45 [.slice ac h.calls.length kc, .int .i64 h.now, .int .i64 h.born, .slice aD h.said.length kD, .int .i64 h.code] ∧ Bx W (w.heap.size + 2) 36 [.int .i64 0, .slice none 0 0, .slice none 0 0, .int .i64 0, .slice none 0 0, .int .i64 0, .slice none 0 0, .int .i64 0] ∧ Bx W gm 36 [.int .i64 c, .slice (some ⟨gp, op, none⟩) n cp, .slice ao (ordTo n n).length co, .int .i64 0, .slice (some ⟨gT, 0, none⟩) 0 0, .int .i64 1, .slice (some ⟨gS, 0, none⟩) 0 0, .int .i64 0] ∧ CRow C 2 W (.slice (some ⟨gp, op, none⟩) n cp) n (rowV (.slice (some ⟨gE, 0, none⟩) 0 0 :: L0)) ∧ IntRow C W (.slice ao (ordTo n n).length co) (ordTo n n) ∧ W3.heap.size ≤ W.heap.size) ?_ ?_
  · have HW := (Wr.refl1 gp W3).set1 (o := op + 1) (.slice (some ⟨W3.heap.size, 0, none⟩) 0 0)
    have N : Below (W3.setCell ⟨gp, op + 1, none⟩ (.slice (some ⟨W3.heap.size, 0, none⟩) 0 0)).heap.size (W3.setCell ⟨gp, op + 1, none⟩ (.slice (some ⟨W3.heap.size, 0, none⟩) 0 0)) ((W3.setCell ⟨gp, op + 1, none⟩ (.slice (some ⟨W3.heap.size, 0, none⟩) 0 0)).alloc (.cells #[] 105)) := (Below.refl _ _).alloc (Nat.le_refl _) _
    have R := (hrow3.set 1 (.slice (some ⟨W3.heap.size, 0, none⟩) 0 0)).below N
    have e0 : (rowV (xf :: L0)).set 1 (.slice (some ⟨W3.heap.size, 0, none⟩) 0 0) = rowV (.slice (some ⟨W3.heap.size, 0, none⟩) 0 0 :: L0) := by simp [rowV]
    rw [e0] at R
    rw [← hgE]
    exact ⟨(HW.below1 B3 (Nat.le_refl _) (by omega)).trans (N.mono (by rw [World.size_setCell]; exact B3.size)), (HW.bx x3 (by omega)).below N, (HW.bx y3 (by omega)).below N, (HW.bx r3 (by omega)).below N, (HW.bx m3 (by omega)).below N, R, (HW.ints hord3 (fun g e e2 => hog g e e2)).below N, by have := N.size; rw [World.size_setCell] at this; exact this⟩
  clear k1 l1 x3 y3 r3 m3 hrow3 hord3 B3 b1
  rintro W4 ⟨B4, x4, y4, r4, m4, R4, O4, z4⟩
  have e2 := y4.cell 2 rfl
  have f5 := m4.cell 5 rfl
  have g5 := m4.frozen 5
  go_upto_region 6 with fail
  refine wp_gen (fun W => Below w.heap.size w W ∧ Bx W w.heap.size 41 [.slice ap0 ms.length cap0] ∧ Bx W (w.heap.size + 1) 45 [.slice ac h.calls.length kc, .int .i64 h.now, .int .i64 h.born, .slice aD h.said.length kD, .int .i64 h.code] ∧ Bx W (w.heap.size + 2) 36 [.int .i64 0, .slice none 0 0, .slice none 0 0, .int .i64 0, .slice none 0 0, .int .i64 0, .slice none 0 0, .int .i64 0] ∧ Bx W gm 36 [.int .i64 c, .slice (some ⟨gp, op, none⟩) n cp, .slice ao (ordTo n n).length co, .int .i64 0, .slice (some ⟨gT, 0, none⟩) 0 0, .int .i64 h.born, .slice (some ⟨gS, 0, none⟩) 0 0, .int .i64 0] ∧ CRow C 2 W (.slice (some ⟨gp, op, none⟩) n cp) n (rowV (.slice (some ⟨gE, 0, none⟩) 0 0 :: L0)) ∧ IntRow C W (.slice ao (ordTo n n).length co) (ordTo n n) ∧ W3.heap.size ≤ W.heap.size) ?_ ?_
  · have HW := (Wr.refl1 gm W4).set1 (o := 5) (.int .i64 h.born)
    exact ⟨HW.below1 B4 (Nat.le_refl _) (by omega), HW.bx x4 (by omega), HW.bx y4 (by omega), HW.bx r4 (by omega), m4.set 5 _, R4.wr HW (fun g e e2 => by
      have h9 : gp = g := by injection e
      omega), HW.ints O4 (fun g e e2 => by have := (hgo g e).2; omega), by rw [World.size_setCell]; exact z4⟩
  clear x4 y4 r4 m4 R4 O4 B4 e2 f5 g5 z4
  rintro W5 ⟨B5, x5, y5, r5, m5, R5, O5, z5⟩
  have N5 : Below W5.heap.size W5 (W5.alloc (.cells #[] 82)) := (Below.refl _ _).alloc (Nat.le_refl _) _
  have PE : PairRow W5.heap.size (W5.alloc (.cells #[] 82)) (.slice (some ⟨W5.heap.size, 0, none⟩) 0 0) [] := pair_empty (Nat.le_refl _) (by simp)
  have SO : OpsAt (W5.alloc (.cells #[] 82)) (.slice aD h.said.length kD) h.said := (HHH.out.s.below B5).below N5
  have M5 := m5.below N5
  have e3 := (y5.below N5).cell 3 rfl
  have hm5 := m5.lt
  go_upto_region 7 with (at_builtin; refine append_vals _ (by rfl) _ _ (by rfl) W5.heap.size _ _ [] h.said (by rfl) (by rfl) PE SO (by simp; omega) (by simp) ?_; intro v6 w6 hrow6 hg6 hor6; have M6 := M5.grown hg6 (fun e => by have := own_eq e; omega); have f6 := M6.cell 6 rfl; have g6 := M6.frozen 6; rw [List.nil_append] at hrow6; obtain ⟨aS, cS, hv6, _⟩ := hrow6.slice; subst hv6)
  refine wp_gen (fun W => Below w.heap.size w W ∧ Bx W w.heap.size 41 [.slice ap0 ms.length cap0] ∧ Bx W (w.heap.size + 1) 45 [.slice ac h.calls.length kc, .int .i64 h.now, .int .i64 h.born, .slice aD h.said.length kD, .int .i64 h.code] ∧ Bx W (w.heap.size + 2) 36 [.int .i64 0, .slice none 0 0, .slice none 0 0, .int .i64 0, .slice none 0 0, .int .i64 0, .slice none 0 0, .int .i64 0] ∧ Bx W gm 36 [.int .i64 c, .slice (some ⟨gp, op, none⟩) n cp, .slice ao (ordTo n n).length co, .int .i64 0, .slice (some ⟨gT, 0, none⟩) 0 0, .int .i64 h.born, .slice aS h.said.length cS, .int .i64 0] ∧ CRow C 2 W (.slice (some ⟨gp, op, none⟩) n cp) n (rowV (.slice (some ⟨gE, 0, none⟩) 0 0 :: L0)) ∧ IntRow C W (.slice ao (ordTo n n).length co) (ordTo n n) ∧ W3.heap.size ≤ W.heap.size ∧ PairRow (gm + 1) W (.slice aS h.said.length cS) h.said) ?_ ?_
  · have HW := (Wr.refl1 gm w6).set1 (o := 6) (.slice aS h.said.length cS)
    have hlo := hrow6.lt
    have zN := N5.size
    have z6 := hg6.size
    have hne : ∀ g, g < W5.heap.size → (Value.slice (some ⟨W5.heap.size, 0, none⟩) 0 0).ownBlock ≠ some g := fun g hg e => by have := own_eq e; omega
    exact ⟨HW.below1 ((B5.trans (N5.mono B5.size)).grown hg6 (by omega) (fun q e => by have := own_eq e; have := B5.size; omega)) (Nat.le_refl _) (by omega), HW.bx ((x5.below N5).grown hg6 (hne _ x5.lt)) (by omega), HW.bx ((y5.below N5).grown hg6 (hne _ y5.lt)) (by omega), HW.bx ((r5.below N5).grown hg6 (hne _ r5.lt)) (by omega), M6.set 6 _, ((R5.below N5).grown hg6 (fun g e e2 => hne g (R5.lt g e).2 e2)).wr HW (fun g e e2 => by
      have h9 : gp = g := by injection e
      omega), HW.ints ((O5.below N5).grown hg6 (fun g e e2 => hne g (O5.lt g e).2 e2)) (fun g e e2 => by have := (hgo g e).2; omega), by rw [World.size_setCell]; omega, HW.pair (hrow6.mono (show gm + 1 ≤ W5.heap.size by omega)) (fun g e e2 => by have := (hlo g e).1; omega)⟩
  clear x5 y5 r5 m5 R5 O5 B5 e3 N5 PE SO M5 M6 f6 g6 hrow6 hg6 hor6 z5 hm5
  rintro W7 ⟨B7, x7, y7, r7, m7, R7, O7, z7, P7⟩
  have e4 := y7.cell 4 rfl
  have f7 := m7.cell 7 rfl
  have g7 := m7.frozen 7
  go_upto_region 8 with fail
  refine wp_gen (fun W => Below w.heap.size w W ∧ Bx W w.heap.size 41 [.slice ap0 ms.length cap0] ∧ Bx W (w.heap.size + 1) 45 [.slice ac h.calls.length kc, .int .i64 h.now, .int .i64 h.born, .slice aD h.said.length kD, .int .i64 h.code] ∧ Bx W (w.heap.size + 2) 36 [.int .i64 0, .slice none 0 0, .slice none 0 0, .int .i64 0, .slice none 0 0, .int .i64 0, .slice none 0 0, .int .i64 0] ∧ Bx W gm 36 [.int .i64 c, .slice (some ⟨gp, op, none⟩) n cp, .slice ao (ordTo n n).length co, .int .i64 0, .slice (some ⟨gT, 0, none⟩) 0 0, .int .i64 h.born, .slice aS h.said.length cS, .int .i64 h.code] ∧ CRow C 2 W (.slice (some ⟨gp, op, none⟩) n cp) n (rowV (.slice (some ⟨gE, 0, none⟩) 0 0 :: L0)) ∧ IntRow C W (.slice ao (ordTo n n).length co) (ordTo n n) ∧ W3.heap.size ≤ W.heap.size ∧ PairRow (gm + 1) W (.slice aS h.said.length cS) h.said) ?_ ?_
  · have HW := (Wr.refl1 gm W7).set1 (o := 7) (.int .i64 h.code)
    exact ⟨HW.below1 B7 (Nat.le_refl _) (by omega), HW.bx x7 (by omega), HW.bx y7 (by omega), HW.bx r7 (by omega), m7.set 7 _, R7.wr HW (fun g e e2 => by
      have h9 : gp = g := by injection e
      omega), HW.ints O7 (fun g e e2 => by have := (hgo g e).2; omega), by rw [World.size_setCell]; exact z7, HW.pair P7 (fun g e e2 => by have := (P7.lt g e).1; omega)⟩
  clear x7 y7 r7 m7 R7 O7 B7 e4 f7 g7 z7 P7
  rintro WL ⟨BL, xL, yL, rL, mL, RL, OL, zL, PL⟩
  obtain ⟨S, hS⟩ : ∃ S, WL.heap.size = S := ⟨_, rfl⟩
  obtain ⟨B, hB0⟩ : ∃ B, W0.heap.size = B := ⟨_, rfl⟩
  have hBS : B ≤ S := by omega
  have hTw : TwS B C S WL (.slice (some ⟨gT, 0, none⟩) 0 0) h 0 := TwS.nil (by omega) (by omega) (by omega)
  go_wp2_with fail
  go_loopg [12] h.calls.length (fun d q wr => ∃ (k : Nat) (vt : Value), k ≤ h.calls.length ∧ d = h.calls.length - k ∧ q = .int .i64 (k : Int) ∧ Below w.heap.size w wr ∧ Bx wr gm 36 [.int .i64 c, .slice (some ⟨gp, op, none⟩) n cp, .slice ao (ordTo n n).length co, .int .i64 0, vt, .int .i64 h.born, .slice aS h.said.length cS, .int .i64 h.code] ∧ TwS B C S wr (vt) h k ∧ S ≤ wr.heap.size ∧ ∀ g, g ≠ gm → (g < B ∨ (C ≤ g ∧ g < S)) → wr.heap[g]? = WL.heap[g]?)
  case atStart => exact ⟨0, _, Nat.zero_le _, rfl, rfl, BL, mL, hTw, by omega, fun _ _ _ => rfl⟩
  case round =>
    obtain ⟨k, vt, hk, rfl, rfl, hb, hm, ht, hSr, hkp⟩ := hrel
    have zr := hb.size
    have hmr := hm.lt
    obtain ⟨av, cv, hvt⟩ := ht.slice
    subst hvt
    clear hTw BL mL
    have yr := yL.kept (hkp (w.heap.size + 1) (by omega) (.inl (by omega)))
    have e0 := yr.cell 0 rfl
    by_cases hlt : k < h.calls.length
    · have hkz : (k : Int) < (h.calls.length : Int) := by omega
      obtain ⟨b, o, vt1, vs1, hac, hcl⟩ : ∃ b o vt1 vs1, ac = some ⟨b, o, none⟩ ∧ ClAt w b (o + k * 6) vt1 vs1 h.calls[k] := by
        obtain ⟨a9, c9, e, _, hcs⟩ := HHH.out.c
        cases e
        exact hcs k hlt
      subst hac
      obtain ⟨a1, k1, hv1⟩ := hcl.t.shape
      obtain ⟨a2, k2, hv2⟩ := hcl.s.shape
      subst hv1 hv2
      have hsm := OK.small k hlt
      have n0 := cell_below hb hcl.c0
      have n1 := cell_below hb hcl.c1
      have n2 := cell_below hb hcl.c2
      have n3 := cell_below hb hcl.c3
      have n4 := cell_below hb hcl.c4
      have n5 := cell_below hb hcl.c5
      have HTS : Hid (OpsAt w (.slice a1 h.calls[k].temps.length k1) h.calls[k].temps ∧ OpsAt w (.slice a2 h.calls[k].stack.length k2) h.calls[k].stack) := ⟨hcl.t, hcl.s⟩
      obtain ⟨Q, hQ⟩ : ∃ Q, h.calls[k] = Q := ⟨_, rfl⟩
      have HQ : Hid (h.calls[k] = Q) := hQ
      rw [hQ] at n0 n1 n2 n3 n4 n5 hsm HTS
      clear hQ hcl
      go_upto_region 11 with fail
      obtain ⟨W2, hW2⟩ : ∃ X, X = wr := ⟨_, rfl⟩
      subst hW2
      have hb2 := hb
      have z2 := zr
      have hm2 := hm
      have v2 := ht
      have m4 := hm.cell 4 rfl
      have HCO : Hid (∀ X, Below W2.heap.size W2 X → Calls Tryz.prog 22 #[.agg #[.int .i64 Q.m, .int .i64 Q.pc, .slice a1 Q.temps.length k1, .slice a2 Q.stack.length k2, .int .i64 Q.sender, .bool Q.dead]] X fun e w' => ∃ v1 v2, e = .returned (.agg #[.int .i64 Q.m, .int .i64 Q.pc, v1, v2, .int .i64 Q.sender, .bool Q.dead]) ∧ PairRow X.heap.size w' v1 Q.temps ∧ PairRow X.heap.size w' v2 Q.stack ∧ (∀ g, v1.ownBlock = some g → v2.ownBlock ≠ some g) ∧ Below X.heap.size X w') := fun X hX => by
        have q := l11Copy_any (.slice a1 Q.temps.length k1) (.slice a2 Q.stack.length k2) Q X ((HTS.out.1.below hb).below hX) ((HTS.out.2.below hb).below hX) (by omega)
        unfold clCells at q
        exact q
      refine wp_region_fu [[], [0], [], [2], [], [2, 3, 4], [2, 3, 4, 5], [2, 3, 4, 5, 6], [2, 3, 4, 5, 6, 7], [2, 3, 4, 5, 6, 7, 8], [0, 1, 2, 3, 4, 5, 6, 7, 8, 9], [0, 1, 2, 3, 4, 5, 6, 7, 8, 9, 10], [0, 1, 2, 3, 4, 5, 6, 7, 8, 9, 10, 11]] [[0], [1], [2], [3], [4], [5], [6], [7], [7, 8], [7, 9], [], [], []] [[], [], [], [], [], [], [], [], [], [], [], [], []] [fIs (.pointer (some ⟨gm, 4, none⟩)), fIs (.slice av k cv), fIs (.pointer (some ⟨(w.heap.size + 1), 0, none⟩)), fIs (.slice (some ⟨b, o, none⟩) h.calls.length kc), fIs (.int .i64 (k : Int)), fIs (.pointer (some ⟨b, o + k * 6, none⟩)), fIs (.agg #[.int .i64 Q.m, .int .i64 Q.pc, .slice a1 Q.temps.length k1, .slice a2 Q.stack.length k2, .int .i64 Q.sender, .bool Q.dead]), fGh 7 (fun (x : (Option Addr × Nat) × Option Addr × Nat) l => l = [.agg #[.int .i64 Q.m, .int .i64 Q.pc, .slice x.1.1 Q.temps.length x.1.2, .slice x.2.1 Q.stack.length x.2.2, .int .i64 Q.sender, .bool Q.dead]]) (fun x w1 => PairRow W2.heap.size w1 (.slice x.1.1 Q.temps.length x.1.2) Q.temps ∧ PairRow W2.heap.size w1 (.slice x.2.1 Q.stack.length x.2.2) Q.stack), fOf fun l => ∃ x : (Option Addr × Nat) × Option Addr × Nat, l = [.agg #[.int .i64 Q.m, .int .i64 Q.pc, .slice x.1.1 Q.temps.length x.1.2, .slice x.2.1 Q.stack.length x.2.2, .int .i64 Q.sender, .bool Q.dead], .agg #[.int .i64 (-1), .int .i64 0, .int .i64 Q.m, .int .i64 Q.pc, .slice x.1.1 Q.temps.length x.1.2, .slice x.2.1 Q.stack.length x.2.2, .int .i64 Q.sender, .bool Q.dead]], fGh 9 (fun (x : ((Option Addr × Nat) × Option Addr × Nat) × Nat) l => l = [.agg #[.int .i64 Q.m, .int .i64 Q.pc, .slice x.1.1.1 Q.temps.length x.1.1.2, .slice x.1.2.1 Q.stack.length x.1.2.2, .int .i64 Q.sender, .bool Q.dead], .slice (some ⟨x.2, 0, none⟩) 1 1]) (fun x w1 => ∀ i u, ([.int .i64 (-1), .int .i64 0, .int .i64 Q.m, .int .i64 Q.pc, .slice x.1.1.1 Q.temps.length x.1.1.2, .slice x.1.2.1 Q.stack.length x.1.2.2, .int .i64 Q.sender, .bool Q.dead] : List Value)[i]? = some u → w1.cell? ⟨x.2, i, none⟩ = some u), fOf fun _ => True, fOf fun _ => True, fOf fun _ => True] 10 2 rfl (by kernel_rfl) (by kernel_rfl) (by kernel_rfl) (by kernel_rfl) ?_ ?_
      · refine all_lt_succ (all_lt_succ (all_lt_succ (all_lt_succ (all_lt_succ (all_lt_succ (all_lt_succ (all_lt_succ (all_lt_succ (all_lt_succ (all_lt_zero) ?_) ?_) ?_) ?_) ?_) ?_) ?_) ?_) ?_) ?_
        · intro a wS val own hB hf hown hk
          have s10 := hf.at (d := 10) (v := .pointer (some ⟨gm, 0, none⟩)) (by kernel_rfl) rfl
          exact rf_pure (v := .pointer (some ⟨gm, 4, none⟩)) hB rfl rfl (by unfold execOp; go_simp) rfl
        · intro a wS val own hB hf hown hk
          obtain ⟨k0, f0⟩ := hk 0 (show 0 ∈ [0] by decide)
          have s53 := k0 53 rfl
          rw [fIs_out f0] at s53
          clear k0 f0
          have cm4 := cell_below hB m4
          exact rf_pure (v := .slice av k cv) hB rfl rfl (by unfold execOp; go_simp) rfl
        · intro a wS val own hB hf hown hk
          have s5 := hf.at (d := 5) (v := .pointer (some ⟨(w.heap.size + 1), 0, none⟩)) (by kernel_rfl) rfl
          exact rf_pure (v := .pointer (some ⟨(w.heap.size + 1), 0, none⟩)) hB rfl rfl (by unfold execOp; go_simp) rfl
        · intro a wS val own hB hf hown hk
          obtain ⟨k2, f2⟩ := hk 2 (show 2 ∈ [2] by decide)
          have s55 := k2 55 rfl
          rw [fIs_out f2] at s55
          clear k2 f2
          have ce0 := cell_below hB e0
          exact rf_pure (v := .slice (some ⟨b, o, none⟩) h.calls.length kc) hB rfl rfl (by unfold execOp; go_simp) rfl
        · intro a wS val own hB hf hown hk
          have s12 := hf.at (d := 12) (v := .int .i64 (k : Int)) (by kernel_rfl) rfl
          exact rf_pure (v := .int .i64 (k : Int)) hB rfl rfl (by unfold execOp; go_simp) rfl
        · intro a wS val own hB hf hown hk
          obtain ⟨k3, f3⟩ := hk 3 (show 3 ∈ [2, 3, 4] by decide)
          have s56 := k3 56 rfl
          rw [fIs_out f3] at s56
          clear k3 f3
          obtain ⟨k4, f4⟩ := hk 4 (show 4 ∈ [2, 3, 4] by decide)
          have s57 := k4 57 rfl
          rw [fIs_out f4] at s57
          clear k4 f4
          exact rf_pure (v := .pointer (some ⟨b, o + k * 6, none⟩)) hB rfl rfl (by unfold execOp; go_simp) rfl
        · intro a wS val own hB hf hown hk
          obtain ⟨k5, f5⟩ := hk 5 (show 5 ∈ [2, 3, 4, 5] by decide)
          have s58 := k5 58 rfl
          rw [fIs_out f5] at s58
          clear k5 f5
          have cn0 := cell_below hB n0
          have cn1 := cell_below hB n1
          have cn2 := cell_below hB n2
          have cn3 := cell_below hB n3
          have cn4 := cell_below hB n4
          have cn5 := cell_below hB n5
          exact rf_pure (v := .agg #[.int .i64 Q.m, .int .i64 Q.pc, .slice a1 Q.temps.length k1, .slice a2 Q.stack.length k2, .int .i64 Q.sender, .bool Q.dead]) hB rfl rfl (by unfold execOp; go_simp) rfl
        · intro a wS val own hB hf hown hk
          obtain ⟨k6, f6⟩ := hk 6 (show 6 ∈ [2, 3, 4, 5, 6] by decide)
          have s59 := k6 59 rfl
          rw [fIs_out f6] at s59
          clear k6 f6
          have hzB := hB.size
          refine rf_call hB rfl rfl (by unfold execOp; go_simp) ((HCO.out wS hB).mono ?_)
          rintro e w' ⟨v1, v2, rfl, r1, r2, _, hb'⟩
          obtain ⟨a0, c0, e0', _⟩ := r1.slice
          obtain ⟨b0, d0, e1', _⟩ := r2.slice
          subst e0' e1'
          refine ⟨_, rfl, hb', ((a0, c0), b0, d0), rfl, Made.new fun w1 hs hbw hr => ⟨?_, ?_⟩⟩
          · exact (r1.kept hs fun g e => hr g (r1.lt g e).1 (r1.lt g e).2).mono hzB
          · exact (r2.kept hs fun g e => hr g (r2.lt g e).1 (r2.lt g e).2).mono hzB
        · intro a wS val own hB hf hown hk
          obtain ⟨kc', xc, ec, mc⟩ := hk 7 (show 7 ∈ [2, 3, 4, 5, 6, 7] by decide)
          have vc := one_eq ec
          have s60 := kc' 60 rfl
          rw [vc] at s60
          clear kc' ec mc
          exact rf_pure (v := .agg #[.int .i64 (-1), .int .i64 0, .int .i64 Q.m, .int .i64 Q.pc, .slice xc.1.1 Q.temps.length xc.1.2, .slice xc.2.1 Q.stack.length xc.2.2, .int .i64 Q.sender, .bool Q.dead]) hB rfl rfl (by unfold execOp; go_simp) ⟨xc, by show [val 7, _] = _; rw [vc]; rfl⟩
        · intro a wS val own hB hf hown hk
          obtain ⟨kc', xc, ec, mc⟩ := hk 7 (show 7 ∈ [2, 3, 4, 5, 6, 7, 8] by decide)
          have vc := one_eq ec
          clear kc' ec mc
          obtain ⟨kd, xd, ed⟩ := hk 8 (show 8 ∈ [2, 3, 4, 5, 6, 7, 8] by decide)
          have ed' : [val 7, val 8] = _ := ed
          injection ed' with ed1 ed2
          have vd := one_eq ed2
          rw [vc] at ed1
          have hx78 : xc = xd := na_inj ed1
          subst hx78
          have s61 := kd 61 rfl
          rw [vd] at s61
          clear kd ed ed1 ed2 vd
          refine rf_new (v := .slice (some ⟨wS.heap.size, 0, none⟩) 1 1) (w' := wS.alloc (.cells #[.int .i64 (-1), .int .i64 0, .int .i64 Q.m, .int .i64 Q.pc, .slice xc.1.1 Q.temps.length xc.1.2, .slice xc.2.1 Q.stack.length xc.2.2, .int .i64 Q.sender, .bool Q.dead] 66)) hB rfl rfl (by unfold execOp; go_simp) ((Below.refl _ _).alloc (Nat.le_refl _) _) ⟨(xc, wS.heap.size), ?_, Made.new fun w1 _ _ hr => ?_⟩
          · show [val 7, _] = _
            rw [vc]
            rfl
          · exact fun i u hu => ((Bx.new wS 66 [.int .i64 (-1), .int .i64 0, .int .i64 Q.m, .int .i64 Q.pc, .slice xc.1.1 Q.temps.length xc.1.2, .slice xc.2.1 Q.stack.length xc.2.2, .int .i64 Q.sender, .bool Q.dead]).kept (hr _ (Nat.le_refl _) (by simp))).cell i hu
      intro aE w10 val own hB hf hown hk
      obtain ⟨kc', xc, ec, mc⟩ := hk 7 (by decide)
      have vc := one_eq ec
      obtain ⟨rt, rs⟩ := mc.here hB
      clear kc' ec mc
      obtain ⟨kb, xb, eb, mb⟩ := hk 9 (by decide)
      have eb' : [val 7, val 9] = _ := eb
      injection eb' with eba ebb
      have vb := one_eq ebb
      have s62 := kb 62 rfl
      rw [vb] at s62
      obtain ⟨ya, H⟩ := xb
      rw [vc] at eba
      have hx79 : xc = ya := na_inj eba
      subst hx79
      have mh := mb.here hB
      dsimp only at mh
      clear kb eb eba ebb vb mb vc
      obtain ⟨kq, fq⟩ := hk 1 (by decide)
      have s54 := kq 54 rfl
      rw [fIs_out fq] at s54
      clear kq fq
      have hB0 : Below W2.heap.size W2 w10 := hB
      have hz0' := hB0.size
      have v10 := v2.below hBS hB0
      rw [← HQ.out] at rt rs mh
      obtain ⟨a9, c9, W3, hrun, hP3, hg3⟩ := v10.append hlt rt rs (by omega) hBS (fun g e => by have := (v2.lt g e).2.1; omega) rfl rfl H mh (by omega) (by omega)
      have hown2 := fun q (e : (Value.slice av k cv).ownBlock = some q) => v10.lt q e
      have hb3 : Below w.heap.size w W3 := (hb2.trans (hB0.mono z2)).grown hg3 (by omega) fun q e => by have := (hown2 q e).1; omega
      have hm3 := (hm2.below hB0).grown hg3 (fun e => by have := (hown2 _ e).2.2; omega)
      have g1 := hm3.cell 4 rfl
      have gf1 := hm3.frozen 4
      have HE : Hid (Below w.heap.size w (W3.setCell ⟨gm, 4, none⟩ (.slice a9 (k + 1) c9)) ∧ Bx (W3.setCell ⟨gm, 4, none⟩ (.slice a9 (k + 1) c9)) gm 36 [.int .i64 c, .slice (some ⟨gp, op, none⟩) n cp, .slice ao (ordTo n n).length co, .int .i64 0, .slice a9 (k + 1) c9, .int .i64 h.born, .slice aS h.said.length cS, .int .i64 h.code] ∧ TwS B C S (W3.setCell ⟨gm, 4, none⟩ (.slice a9 (k + 1) c9)) (.slice a9 (k + 1) c9) h (k + 1) ∧ S ≤ (W3.setCell ⟨gm, 4, none⟩ (.slice a9 (k + 1) c9)).heap.size ∧ ∀ g, g ≠ gm → (g < B ∨ (C ≤ g ∧ g < S)) → (W3.setCell ⟨gm, 4, none⟩ (.slice a9 (k + 1) c9)).heap[g]? = WL.heap[g]?) := ⟨hb3.setCell (p := ⟨gm, 4, none⟩) (by show w.heap.size ≤ gm; omega) _, hm3.set 4 _, hP3.kept hBS (by rw [World.size_setCell]; exact Nat.le_refl _) fun g h1 h2 _ => Below.heap_setCell _ _ _ _ (by show g ≠ gm; omega), by rw [World.size_setCell]; have := hg3.size; omega, fun g h2 h3 => by rw [Below.heap_setCell _ _ _ _ (by show g ≠ gm; exact h2), hg3.block g (by omega) (fun e => by have := hown2 g e.symm; omega), hB0.block g (by omega)]; exact hkp g h2 h3⟩
      clear hP3 hb3 hm3 hown2 hg3 hB0 v10 rt rs mh
      have hu := frame_sets hf [53, 54, 55, 56, 57, 58, 59, 60, 61, 62] (by kernel_rfl)
      dsimp only at hu
      simp only [List.foldl_cons, List.foldl_nil, List.setIfInBounds_toArray, List.set_cons_succ, List.set_cons_zero] at hu
      rw [s54, s62] at hu
      generalize aE.tmps[53]?.getD undef = u53 at hu
      generalize aE.tmps[55]?.getD undef = u55 at hu
      generalize aE.tmps[56]?.getD undef = u56 at hu
      generalize aE.tmps[57]?.getD undef = u57 at hu
      generalize aE.tmps[58]?.getD undef = u58 at hu
      generalize aE.tmps[59]?.getD undef = u59 at hu
      generalize aE.tmps[60]?.getD undef = u60 at hu
      generalize aE.tmps[61]?.getD undef = u61 at hu
      obtain rfl := act_eq hu (show aE.defers = [] from hf.defers)
      clear hu hk hown hf s54 s62
      refine wpOp_val (v := .slice a9 (k + 1) c9) (w' := W3) rfl rfl (append_runD rfl (by go_simp) (by go_simp) hrun) ?_
      simp only [Act.put]
      refine wpOp_val (v := .pointer (some ⟨gm, 4, none⟩)) (w' := W3) rfl rfl (by unfold execOp; go_simp) ?_
      simp only [Act.put]
      refine wpOp_skip (w' := (W3.setCell ⟨gm, 4, none⟩ (.slice a9 (k + 1) c9))) rfl rfl (by unfold execOp; go_simp) ?_
      simp only [Act.put]
      clear hrun hB g1 gf1
      refine ex_gen (fun W9 => Below w.heap.size w W9 ∧ Bx W9 gm 36 [.int .i64 c, .slice (some ⟨gp, op, none⟩) n cp, .slice ao (ordTo n n).length co, .int .i64 0, .slice a9 (k + 1) c9, .int .i64 h.born, .slice aS h.said.length cS, .int .i64 h.code] ∧ TwS B C S W9 (.slice a9 (k + 1) c9) h (k + 1) ∧ S ≤ W9.heap.size ∧ ∀ g, g ≠ gm → (g < B ∨ (C ≤ g ∧ g < S)) → W9.heap[g]? = WL.heap[g]?) HE.out ?_
      rintro W9 ⟨q1, q2, q3, q4, q5⟩
      clear HE
      go_wp2
      go_roundg (h.calls.length - (k + 1))
      case measure => omega
      case rel => exact ⟨k + 1, _, by omega, rfl, by go_num, q1, q2, q3, q4, q5⟩
    · obtain rfl : k = h.calls.length := by omega
      have hge : ¬ ((h.calls.length : Int) < (h.calls.length : Int)) := by omega
      have xr := xL.kept (hkp w.heap.size (by omega) (.inl (by omega)))
      have rr := rL.kept (hkp (w.heap.size + 2) (by omega) (.inl (by omega)))
      have hRS : gp < S := by omega
      have hOS : ∀ g, (Value.slice ao (ordTo n n).length co).ownBlock = some g → C ≤ g ∧ g < S := fun g e => ⟨(OL.lt g e).1, by have := (OL.lt g e).2; omega⟩
      have hPS : ∀ g, (Value.slice aS h.said.length cS).ownBlock = some g → C ≤ g ∧ g < S := fun g e => ⟨by have := (PL.lt g e).1; omega, by have := (PL.lt g e).2; omega⟩
      have Rr := RL.kept (by omega) fun g e => hkp g (by have := own_eq e; omega) (.inr ⟨(RL.lt g e).1, by have := own_eq e; omega⟩)
      have Or' := OL.kept (by omega) fun g e => hkp g (by have := (hgo g e).2; omega) (.inr (hOS g e))
      have Pr := PL.kept (by omega) fun g e => hkp g (by have := (PL.lt g e).1; omega) (.inr (hPS g e))
      have p0 := xr.cell 0 rfl
      obtain ⟨⟨m0, m1, m2, m3, m4, m5, m6, m7⟩, _⟩ := bx8 hm
      go_upto_region 13 with fail
      obtain ⟨gw, hgw⟩ : ∃ g, wr.heap.size = g := ⟨_, rfl⟩
      rw [hgw]
      refine wp_gen (fun W => Below wr.heap.size wr W ∧ Bx W gw 69 [.slice ap0 ms.length cap0, .int .i64 c, .slice (some ⟨gp, op, none⟩) n cp, .slice ao (ordTo n n).length co, .int .i64 0, .slice av h.calls.length cv, .int .i64 h.born, .slice aS h.said.length cS, .int .i64 h.code]) ⟨(Below.refl _ _).alloc (Nat.le_refl _) _, Bx.newAt _ _ _ hgw⟩ ?_
      rintro W12 ⟨t12, b12⟩
      have z12 := t12.size
      have hgw12 := b12.lt
      have y12 := yr.below t12
      have r12 := rr.below t12
      have B12 := hb.trans (t12.mono zr)
      clear p0 m0 m1 m2 m3 m4 m5 m6 m7 e0 xr rr xL rL yL
      have HSH : Hid ((((n : Nat) : Int)).toNat = n) := rfl
      have hlen : (Value.slice (some ⟨gE, 0, none⟩) 0 0 :: L0).length = n * 1 := hlen
      rcases good_now (good_iff.1 HFP.out) with hj | ⟨j, hj, hjl, _⟩
      · rw [hj] at y12
        have e1 := y12.cell 1 rfl
        have u4 := b12.cell 4 rfl
        have v4 := b12.frozen 4
        go_upto_region 15 with fail
        refine wp_gen (fun W => Below w.heap.size w W ∧ Bx W gw 69 [.slice ap0 ms.length cap0, .int .i64 c, .slice (some ⟨gp, op, none⟩) n cp, .slice ao (ordTo n n).length co, .int .i64 (-1), .slice av h.calls.length cv, .int .i64 h.born, .slice aS h.said.length cS, .int .i64 h.code] ∧ Bx W (w.heap.size + 2) 36 [.int .i64 0, .slice none 0 0, .slice none 0 0, .int .i64 0, .slice none 0 0, .int .i64 0, .slice none 0 0, .int .i64 0] ∧ W12.heap.size ≤ W.heap.size ∧ ∀ g, g ≠ gw → W.heap[g]? = W12.heap[g]?) ?_ ?_
        · have HW := (Wr.refl1 gw W12).set1 (o := 4) (.int .i64 (-1))
          exact ⟨HW.below1 B12 (Nat.le_refl _) (by omega), b12.set 4 _, HW.bx r12 (by omega), HW.size, fun g hg => Below.heap_setCell _ ⟨gw, 4, none⟩ _ _ hg⟩
        clear u4 v4 e1
        rintro W13 ⟨BZ, b13, rZ, z13, kE'⟩
        have kE : ∀ g, g < gw → W13.heap[g]? = W12.heap[g]? := fun g hg => kE' g (by omega)
        obtain ⟨u1, u2, u3, u4, u5, u6, u7, u8⟩ : W13.cell? ⟨gw, 1, none⟩ = some (.int .i64 c) ∧ W13.cell? ⟨gw, 2, none⟩ = some (.slice (some ⟨gp, op, none⟩) n cp) ∧ W13.cell? ⟨gw, 3, none⟩ = some (.slice ao (ordTo n n).length co) ∧ W13.cell? ⟨gw, 4, none⟩ = some (.int .i64 (-1)) ∧ W13.cell? ⟨gw, 5, none⟩ = some (.slice av h.calls.length cv) ∧ W13.cell? ⟨gw, 6, none⟩ = some (.int .i64 h.born) ∧ W13.cell? ⟨gw, 7, none⟩ = some (.slice aS h.said.length cS) ∧ W13.cell? ⟨gw, 8, none⟩ = some (.int .i64 h.code) := ⟨b13.cell 1 rfl, b13.cell 2 rfl, b13.cell 3 rfl, b13.cell 4 rfl, b13.cell 5 rfl, b13.cell 6 rfl, b13.cell 7 rfl, b13.cell 8 rfl⟩
        obtain ⟨⟨s0, s1, s2, s3, s4, s5, s6, s7⟩, ⟨g0, g1, g2, g3, g4, g5, g6, g7⟩⟩ := bx8 rZ
        go_wp2
        refine bp_gen (fun W => Below w.heap.size w W ∧ Bx W (w.heap.size + 2) 36 [.int .i64 c, .slice (some ⟨gp, op, none⟩) n cp, .slice ao (ordTo n n).length co, .int .i64 (-1), .slice av h.calls.length cv, .int .i64 h.born, .slice aS h.said.length cS, .int .i64 h.code] ∧ W13.heap.size ≤ W.heap.size ∧ ∀ g, g ≠ w.heap.size + 2 → W.heap[g]? = W13.heap[g]?) ?_ ?_
        · have HW := ((((((((Wr.refl1 (w.heap.size + 2) W13).set1 (o := 0) (.int .i64 c)).set1 (o := 1) (.slice (some ⟨gp, op, none⟩) n cp)).set1 (o := 2) (.slice ao (ordTo n n).length co)).set1 (o := 3) (.int .i64 (-1))).set1 (o := 4) (.slice av h.calls.length cv)).set1 (o := 5) (.int .i64 h.born)).set1 (o := 6) (.slice aS h.said.length cS)).set1 (o := 7) (.int .i64 h.code)
          exact ⟨HW.below1 BZ (Nat.le_refl _) (Nat.le_add_right _ _), (((((((rZ.set 0 _).set 1 _).set 2 _).set 3 _).set 4 _).set 5 _).set 6 _).set 7 _, HW.size, fun g hg => (Below.heap_setCell _ ⟨w.heap.size + 2, 7, none⟩ _ _ hg).trans ((Below.heap_setCell _ ⟨w.heap.size + 2, 6, none⟩ _ _ hg).trans ((Below.heap_setCell _ ⟨w.heap.size + 2, 5, none⟩ _ _ hg).trans ((Below.heap_setCell _ ⟨w.heap.size + 2, 4, none⟩ _ _ hg).trans ((Below.heap_setCell _ ⟨w.heap.size + 2, 3, none⟩ _ _ hg).trans ((Below.heap_setCell _ ⟨w.heap.size + 2, 2, none⟩ _ _ hg).trans ((Below.heap_setCell _ ⟨w.heap.size + 2, 1, none⟩ _ _ hg).trans (Below.heap_setCell _ ⟨w.heap.size + 2, 0, none⟩ _ _ hg)))))))⟩
        clear s0 s1 s2 s3 s4 s5 s6 s7 g0 g1 g2 g3 g4 g5 g6 g7
        rintro W9 ⟨B9, x9, z9, k9⟩
        obtain ⟨⟨q0, q1, q2, q3, q4, q5, q6, q7⟩, _⟩ := bx8 x9
        have HMA : Hid (From w.heap.size W9 (fun z => MachAt z (.slice (some ⟨gp, op, none⟩) n cp) (.slice ao (ordTo n n).length co) (.slice av h.calls.length cv) (.slice aS h.said.length cS) (mvIn h n c))) := by
          intro z hz hk
          have hzr : wr.heap.size ≤ z.heap.size := by omega
          have hall : ∀ g, w.heap.size ≤ g → g ≠ w.heap.size + 2 → g < wr.heap.size → z.heap[g]? = wr.heap[g]? := fun g h1 h2 h3 => ((hk g h1 (by omega)).trans (k9 g h2)).trans ((kE g (by omega)).trans (t12.block g h3))
          rw [mvIn_end hj]
          exact ⟨pages_none (Rr.kept hzr fun g e => hall g (by have := (Rr.lt g e).1; omega) (by have := (Rr.lt g e).1; omega) (Rr.lt g e).2) hL0 hlen hn4, (Or'.kept hzr fun g e => hall g (by have := (Or'.lt g e).1; omega) (by have := (Or'.lt g e).1; omega) (Or'.lt g e).2).at,
            (ht.kept hBS hzr fun g h1 _ h3 => hall g (by omega) (by omega) h3).at, (Pr.kept hzr fun g e => hall g (by have := (Pr.lt g e).1; omega) (by have := (Pr.lt g e).1; omega) (Pr.lt g e).2).at⟩
        exact bodyPost_ret (v := .tuple #[.agg #[.int .i64 c, .slice (some ⟨gp, op, none⟩) n cp, .slice ao (ordTo n n).length co, .int .i64 (-1), .slice av h.calls.length cv, .int .i64 h.born, .slice aS h.said.length cS, .int .i64 h.code], .bool true]) (by simp [results, Tryz.results6, go_sem, q0, q1, q2, q3, q4, q5, q6, q7]) rfl ⟨B9, .inr ⟨by simpa using HRB.out, .slice (some ⟨gp, op, none⟩) n cp, .slice ao (ordTo n n).length co, .slice av h.calls.length cv, .slice aS h.said.length cS, by rw [mvIn_end hj]; rfl, HMA.out⟩⟩
      · obtain ⟨gt, ot, ct, hform, hgtD, hgtl⟩ : ∃ gt ot ct, Value.slice av h.calls.length cv = .slice (some ⟨gt, ot, none⟩) h.calls.length ct ∧ B ≤ gt ∧ gt < wr.heap.size := by
          obtain ⟨VT, VS, hc, _⟩ := ht
          exact hc.form (by omega)
        injection hform with hav _ hcv
        subst hav hcv
        have hgtO : gt < C ∨ S ≤ gt := (ht.lt gt rfl).2.2
        rw [hj] at y12
        have e1 := y12.cell 1 rfl
        have hjn : ¬ ((j : Int) < 0) := by omega
        have hmv : mvIn h n c = mvRun h (n - 1) c j h.calls[j] := by
          have q := mvIn_run (n := n - 1) (c := c) hjl hj
          rwa [Nat.sub_add_cancel hn1] at q
        have hBC : B ≤ C := by omega
        have HLD : Hid _ := specLoad_any h j hjl n hn1 W12 gw _ _ _ c h.born h.code gp op cp gt ot _ C B S _ L0 b12 (Rr.below t12) hL0 hlen (ht.below hBS t12) hRS (by omega) (by omega) (by omega) hBS (by omega) w.heap.size (by omega) (by omega)
        go_wp2_with fail
        refine Calls.mono HLD.out ?_
        rintro e W16 ⟨rfl, BL16, z16, kl, FL⟩
        have b16 := b12.kept (kl gw (by omega) (by omega) hgw12)
        have rZ := r12.kept (kl (w.heap.size + 2) (by omega) (by omega) (by omega))
        have BZ : Below w.heap.size w W16 := B12.trans BL16
        clear e1 HLD hjn
        obtain ⟨u1, u2, u3, u4, u5, u6, u7, u8⟩ : W16.cell? ⟨gw, 1, none⟩ = some (.int .i64 c) ∧ W16.cell? ⟨gw, 2, none⟩ = some (.slice (some ⟨gp, op, none⟩) n cp) ∧ W16.cell? ⟨gw, 3, none⟩ = some (.slice ao (ordTo n n).length co) ∧ W16.cell? ⟨gw, 4, none⟩ = some (.int .i64 0) ∧ W16.cell? ⟨gw, 5, none⟩ = some (.slice (some ⟨gt, ot, none⟩) h.calls.length cv) ∧ W16.cell? ⟨gw, 6, none⟩ = some (.int .i64 h.born) ∧ W16.cell? ⟨gw, 7, none⟩ = some (.slice aS h.said.length cS) ∧ W16.cell? ⟨gw, 8, none⟩ = some (.int .i64 h.code) := ⟨b16.cell 1 rfl, b16.cell 2 rfl, b16.cell 3 rfl, b16.cell 4 rfl, b16.cell 5 rfl, b16.cell 6 rfl, b16.cell 7 rfl, b16.cell 8 rfl⟩
        obtain ⟨⟨s0, s1, s2, s3, s4, s5, s6, s7⟩, ⟨g0, g1, g2, g3, g4, g5, g6, g7⟩⟩ := bx8 rZ
        go_wp2
        refine bp_gen (fun W => Below w.heap.size w W ∧ Bx W (w.heap.size + 2) 36 [.int .i64 c, .slice (some ⟨gp, op, none⟩) n cp, .slice ao (ordTo n n).length co, .int .i64 0, .slice (some ⟨gt, ot, none⟩) h.calls.length cv, .int .i64 h.born, .slice aS h.said.length cS, .int .i64 h.code] ∧ W16.heap.size ≤ W.heap.size ∧ ∀ g, g ≠ w.heap.size + 2 → W.heap[g]? = W16.heap[g]?) ?_ ?_
        · have HW := ((((((((Wr.refl1 (w.heap.size + 2) W16).set1 (o := 0) (.int .i64 c)).set1 (o := 1) (.slice (some ⟨gp, op, none⟩) n cp)).set1 (o := 2) (.slice ao (ordTo n n).length co)).set1 (o := 3) (.int .i64 0)).set1 (o := 4) (.slice (some ⟨gt, ot, none⟩) h.calls.length cv)).set1 (o := 5) (.int .i64 h.born)).set1 (o := 6) (.slice aS h.said.length cS)).set1 (o := 7) (.int .i64 h.code)
          exact ⟨HW.below1 BZ (Nat.le_refl _) (Nat.le_add_right _ _), (((((((rZ.set 0 _).set 1 _).set 2 _).set 3 _).set 4 _).set 5 _).set 6 _).set 7 _, HW.size, fun g hg => (Below.heap_setCell _ ⟨w.heap.size + 2, 7, none⟩ _ _ hg).trans ((Below.heap_setCell _ ⟨w.heap.size + 2, 6, none⟩ _ _ hg).trans ((Below.heap_setCell _ ⟨w.heap.size + 2, 5, none⟩ _ _ hg).trans ((Below.heap_setCell _ ⟨w.heap.size + 2, 4, none⟩ _ _ hg).trans ((Below.heap_setCell _ ⟨w.heap.size + 2, 3, none⟩ _ _ hg).trans ((Below.heap_setCell _ ⟨w.heap.size + 2, 2, none⟩ _ _ hg).trans ((Below.heap_setCell _ ⟨w.heap.size + 2, 1, none⟩ _ _ hg).trans (Below.heap_setCell _ ⟨w.heap.size + 2, 0, none⟩ _ _ hg)))))))⟩
        clear s0 s1 s2 s3 s4 s5 s6 s7 g0 g1 g2 g3 g4 g5 g6 g7
        rintro W9 ⟨B9, x9, z9, k9⟩
        obtain ⟨⟨q0, q1, q2, q3, q4, q5, q6, q7⟩, _⟩ := bx8 x9
        have HMA : Hid (From w.heap.size W9 (fun z => MachAt z (.slice (some ⟨gp, op, none⟩) n cp) (.slice ao (ordTo n n).length co) (.slice (some ⟨gt, ot, none⟩) h.calls.length cv) (.slice aS h.said.length cS) (mvIn h n c))) := by
          intro z hz hk
          have hz16 : W16.heap.size ≤ z.heap.size := by omega
          have hall : ∀ g, w.heap.size ≤ g → g ≠ w.heap.size + 2 → g < W16.heap.size → z.heap[g]? = W16.heap[g]? := fun g h1 h2 h3 => (hk g h1 (by omega)).trans (k9 g h2)
          have hPT := FL B hBC (Nat.le_refl _) z hz16 fun g h1 h2 => hall g (by omega) (by omega) h2
          have hback : ∀ g, w.heap.size ≤ g → g ≠ w.heap.size + 2 → g ≠ gp → g ≠ gt → g < wr.heap.size → z.heap[g]? = wr.heap[g]? := fun g h1 h2 h3 h4 h5 => (hall g h1 h2 (by omega)).trans ((kl g h3 h4 (by omega)).trans (t12.block g h5))
          have hzr : wr.heap.size ≤ z.heap.size := by omega
          obtain ⟨n', hn'⟩ : ∃ n', n = n' + 1 := ⟨n - 1, by omega⟩
          have hmv : mvIn h n c = mvRun h (n - 1) c j h.calls[j] := by
            have q := mvIn_run (n := n - 1) (c := c) hjl hj
            rwa [Nat.sub_add_cancel hn1] at q
          rw [hmv]
          refine ⟨hPT.1, ?_, hPT.2, (Pr.kept hzr fun g e => hback g (by have := (Pr.lt g e).1; omega) (by have := (Pr.lt g e).1; omega) (by have := (Pr.lt g e).1; omega) (by have := (Pr.lt g e).1; have := (Pr.lt g e).2; have := hPS g e; have := hgtO; omega) (Pr.lt g e).2).at⟩
          have O9 := (Or'.kept hzr fun g e => hback g (by have := (Or'.lt g e).1; omega) (by have := (Or'.lt g e).1; omega) (hog g e) (by have := (hgo g e); have := hgtO; omega) (Or'.lt g e).2).at
          show IntsAt z _ (ordTo (n - 1 + 1) (n - 1 + 1))
          rw [Nat.sub_add_cancel hn1]
          exact O9
        exact bodyPost_ret (v := .tuple #[.agg #[.int .i64 c, .slice (some ⟨gp, op, none⟩) n cp, .slice ao (ordTo n n).length co, .int .i64 0, .slice (some ⟨gt, ot, none⟩) h.calls.length cv, .int .i64 h.born, .slice aS h.said.length cS, .int .i64 h.code], .bool true]) (by simp [results, Tryz.results6, go_sem, q0, q1, q2, q3, q4, q5, q6, q7]) rfl ⟨B9, .inr ⟨by simpa using HRB.out, .slice (some ⟨gp, op, none⟩) n cp, .slice ao (ordTo n n).length co, .slice (some ⟨gt, ot, none⟩) h.calls.length cv, .slice aS h.said.length cS, by rw [HSH.out, hmv]; rfl, HMA.out⟩⟩
end Go.Proofs.YtmifhlkcceafkaaGreat
