/-
  The first call of a program on pages: emptyPages and MachNew of the program, MachNew of the model.
-/
import Derived.Test.YtmifhlkcceafkaaGreatMRow
import Derived.Test.YtmifhlkcceafkaaGreatIntsM
import Derived.Test.YtmifhlkcceafkaaGreatMThing4
import Derived.Deep.RegionLaw
import Derived.Deep.DeepCutAuto

namespace Go.Proofs.YtmifhlkcceafkaaGreat
open Go.RowKit
theorem held_valN {P : Program} {o : Oper} {y : Nat → Option Bool} {a : Act} {w w' : World} {v : Value} {K : Act → World → Prop} {Q : Exit → Act → World → Prop} {E : Prop} (hg : Region.wanted o y = true) (hr : (execOp a.eval o).run P w = .ok (.value v) w') (hK : K (a.put o.dst v) w') :
    if Region.wanted o y = true then Oper.wp P o a w K Q else E := by
  rw [if_pos hg]
  unfold Oper.wp
  rw [hr]
  exact hK
theorem append_runN {P : Program} {t : TypeId} {o : Oper} {act : Act} {w w' : World} {s x : Operand} {v xv v' : Value} (ho : o.op = .call { callee := .builtin .append, args := #[s, x], argTypes := #[t, t] }) (hs : act.eval s = v) (hx : act.eval x = xv)
    (hr : (Builtin.append_ #[t, t] o.type #[v, xv]).run P w = .ok v' w') : (execOp act.eval o).run P w = .ok (.value v') w' := by
  unfold execOp
  simp only [ho, resolve, invoke, builtin, Sem.run_bind, Sem.run_pure, Result.andThen_ok, List.map_toArray, List.map_cons, List.map_nil, hs, hx, hr]
def ordTo (n k : Nat) : List Int := (List.range k).map fun i => (((i + 1) % n : Nat) : Int)
theorem ordTo_succ (n k : Nat) : ordTo n (k + 1) = ordTo n k ++ [(((k + 1) % n : Nat) : Int)] := by simp [ordTo, List.range_succ]
theorem ordTo_length (n k : Nat) : (ordTo n k).length = k := by simp [ordTo]
def rowE (vf : Value) (k : Nat) : List Value := (List.replicate k [Value.int .i64 (-1), vf]).flatten
theorem rowE_succ (vf : Value) (k : Nat) : rowE vf (k + 1) = rowE vf k ++ [.int .i64 (-1), vf] := by simp [rowE, List.replicate_succ']
theorem rowE_at (vf : Value) : ∀ (k i : Nat), i < k → (rowE vf k)[i * 2]? = some (.int .i64 (-1)) ∧ (rowE vf k)[i * 2 + 1]? = some vf
  | 0, i, h => absurd h (Nat.not_lt_zero _)
  | k + 1, i, h => by
    cases i with
    | zero => simp [rowE, List.replicate_succ]
    | succ i =>
      have ih := rowE_at vf k i (by omega)
      have e : rowE vf (k + 1) = .int .i64 (-1) :: vf :: rowE vf k := by simp [rowE, List.replicate_succ]
      rw [e, show (i + 1) * 2 = i * 2 + 1 + 1 by omega]
      exact ih
theorem Tryz.infoPageN : (Tryz.prog.info? 61).map (fun i => (i.zero, i.size, i.bytes)) = some (some (.agg #[.int .i64 0, .slice none 0 0]), 2, 32) := by kernel_rfl
theorem Tryz.infoIntN : (Tryz.prog.info? 3).map (fun i => (i.zero, i.size, i.bytes)) = some (some (.int .i64 0), 1, 8) := by kernel_rfl
set_option maxRecDepth 100000 in
set_option maxHeartbeats 4000000 in
theorem emptyPages_any (n : Nat) (c : Int) (w : World) (hn : n ≤ 1000) :
    Calls Tryz.prog 29 #[.int .i64 (n : Int), .int .i64 c] w fun e w' => ∃ vp vo, e = .returned (.agg #[.int .i64 c, vp, vo, .int .i64 (-1), .slice none 0 0, .int .i64 0, .slice none 0 0, .int .i64 0]) ∧
      CRow w.heap.size 2 w' vp n (rowE (.slice none 0 0) n) ∧ IntRow w.heap.size w' vo (ordTo n n) ∧ (∀ g, vp.ownBlock = some g → vo.ownBlock ≠ some g) ∧ Below w.heap.size w w' := by
  obtain ⟨i0, hi, hz0, hz1, hz2⟩ := info_parts Tryz.infoPageN
  obtain ⟨j0, ji, jz0, jz1, jz2⟩ := info_parts Tryz.infoIntN
  go_enter Tryz.func29, Tryz.ntmps29
  go_upto_region 2 with fail
  refine wp_gen (fun W => Below w.heap.size w W ∧ Bx W w.heap.size 36 [.int .i64 0, .slice none 0 0, .slice none 0 0, .int .i64 0, .slice none 0 0, .int .i64 0, .slice none 0 0, .int .i64 0]
      ∧ Bx W (w.heap.size + 1) 36 [.int .i64 c, .slice none 0 0, .slice none 0 0, .int .i64 (-1), .slice none 0 0, .int .i64 0, .slice none 0 0, .int .i64 0] ∧ w.heap.size + 1 + 1 = W.heap.size) ⟨((Below.refl _ _).alloc (Nat.le_refl _) _).alloc (by simp) _, (Bx.new w _ _).alloc _, Bx.newAt _ _ _ (by simp), by simp⟩ ?_
  rintro W ⟨hb, hr, hx, hW⟩
  have hW2 : w.heap.size + 1 < W.heap.size := by omega
  clear hW
  go_wp2_with fail
  go_loopg [6, 10] n (fun d _ i wr => ∃ (k : Nat) (vp vo : Value), k ≤ n ∧ d = n - k ∧ i = .int .i64 (k : Int) ∧ CRow W.heap.size 2 wr vp k (rowE (.slice none 0 0) k) ∧ IntRow W.heap.size wr vo (ordTo n k) ∧ (∀ g, vp.ownBlock = some g → vo.ownBlock ≠ some g) ∧ Below w.heap.size w wr ∧ W.heap.size ≤ wr.heap.size
      ∧ Bx wr w.heap.size 36 [.int .i64 0, .slice none 0 0, .slice none 0 0, .int .i64 0, .slice none 0 0, .int .i64 0, .slice none 0 0, .int .i64 0]
      ∧ Bx wr (w.heap.size + 1) 36 [.int .i64 c, vp, vo, .int .i64 (-1), .slice none 0 0, .int .i64 0, .slice none 0 0, .int .i64 0])
  case atStart => exact ⟨0, .slice none 0 0, .slice none 0 0, Nat.zero_le _, rfl, rfl, CRow.nil _ _ _, IntRow.nil _ _, fun g e => by simp [Value.ownBlock] at e, hb, Nat.le_refl _, hr, hx⟩
  case round =>
    clear hb hr hx
    obtain ⟨k, vp, vo, hk, rfl, rfl, hrow, hord, hap, hb, hz, hr, hx⟩ := hrel
    obtain ⟨ap, cp, hvp, _⟩ := hrow.slice
    obtain ⟨ao, co, hvo, _⟩ := hord.slice
    subst hvp hvo
    by_cases hlt : k < n
    · have hkz : (k : Int) < (n : Int) := by omega
      have N1 := (Below.refl wr.heap.size wr).alloc (Nat.le_refl _) (.cells #[.int .i64 (-1), .slice none 0 0] 61)
      have y1 := Bx.new wr 61 [.int .i64 (-1), .slice none 0 0]
      have r1 := hrow.below N1
      have x1 := hx.below N1
      have z1 := N1.size
      obtain ⟨⟨_, p1, p2, _, _, _, _, _⟩, ⟨_, f1, f2, _, _, _, _, _⟩⟩ := bx8 hx
      have hhi : ∀ g, (Value.slice ap k cp).ownBlock = some g → W.heap.size ≤ g ∧ g < wr.heap.size := hrow.lt
      have hho : ∀ g, (Value.slice ao (ordTo n k).length co).ownBlock = some g → W.heap.size ≤ g ∧ g < wr.heap.size := hord.lt
      go_upto_region 6 with (at_builtin; refine append_el Tryz.underlying31 hi hz0 hz1 rfl (by rw [hz2]; omega) _ (by rfl) _ _ (by rfl) _ k _ [.int .i64 (-1), .slice none 0 0] (by rfl) wr.heap.size 1 (by rfl) r1 rfl (fun u hu => by simp at hu; rcases hu with rfl | rfl <;> rfl) (fun j u hu => y1.cell j hu) (by omega) (by omega) ?_; intro v2 w2 hrow2 hg2 hor2; have hx2 := x1.grown hg2 (fun e => by have := (hhi _ e).1; omega); have x8' := hx2.cell 1 rfl; have f8' := hx2.frozen 1; obtain ⟨a2, c2, hv2, _⟩ := hrow2.slice; subst hv2)
      have hs2 : W.heap.size ≤ w2.heap.size := by have := hg2.size; omega
      have o1 := hord.below N1
      have hcov : ∀ g, (Value.slice a2 (k + 1) c2).ownBlock = some g → W.heap.size ≤ g ∧ (Value.slice ao (ordTo n k).length co).ownBlock ≠ some g := fun g e => by
        refine ⟨(hrow2.lt g e).1, fun e2 => ?_⟩
        rcases hor2 with h | h
        · exact hap g (h ▸ e) e2
        · rw [h] at e
          injection e with e
          have := (hho g e2).2
          omega
      refine wp_gen (fun W' => Below w.heap.size w W' ∧ CRow W.heap.size 2 W' (.slice a2 (k + 1) c2) (k + 1) (rowE (.slice none 0 0) (k + 1)) ∧ IntRow W.heap.size W' (.slice ao (ordTo n k).length co) (ordTo n k) ∧ W.heap.size ≤ W'.heap.size
        ∧ Bx W' w.heap.size 36 [.int .i64 0, .slice none 0 0, .slice none 0 0, .int .i64 0, .slice none 0 0, .int .i64 0, .slice none 0 0, .int .i64 0] ∧ Bx W' (w.heap.size + 1) 36 [.int .i64 c, .slice a2 (k + 1) c2, .slice ao (ordTo n k).length co, .int .i64 (-1), .slice none 0 0, .int .i64 0, .slice none 0 0, .int .i64 0]) ?_ ?_
      · have HW := (Wr.refl1 (w.heap.size + 1) w2).set1 (o := 1) (.slice a2 (k + 1) c2)
        have hbz := hb.size
        exact ⟨HW.below1 ((hb.trans (N1.mono hbz)).grown hg2 (by omega) (fun q e => by have := (hhi _ e).1; omega)) (Nat.le_refl _) (Nat.le_succ _), by rw [rowE_succ]; exact hrow2.wr HW (fun g e e2 => by have := (hcov g e).1; omega), HW.ints (o1.grown hg2 (fun g e e2 => hap g e2 e)) (fun g e e2 => by have := (hho g e).1; omega), by rw [World.size_setCell]; exact hs2, HW.bx ((hr.below N1).grown hg2 (fun e => by have := (hhi _ e).1; omega)) (by omega), hx2.set 1 _⟩
      clear hx2 x8' f8' hrow2 hg2 hor2 o1 hs2 hhi p1 p2 f1 f2 z1 x1 r1 y1 N1 hx hr hz hb hrow hord hap
      rintro w3 ⟨hb, hrow, hord, hz, hr, hx⟩
      obtain ⟨L, hL⟩ : ∃ L, ordTo n k = L := ⟨_, rfl⟩
      have HLS : Hid (ordTo n (k + 1) = L ++ [(((k + 1) % n : Nat) : Int)]) := by show _ = _; rw [← hL]; exact ordTo_succ _ _
      have hll : L.length + 1 ≤ 3000000 := by rw [← hL, ordTo_length]; omega
      rw [hL] at hord hx hcov hho
      clear hL
      obtain ⟨q, hq⟩ : ∃ q, (k + 1) % n = q := ⟨_, rfl⟩
      have hqt : ((k : Int) + 1).tmod (n : Int) = (q : Int) := by rw [← hq]; exact_mod_cast (Int.ofNat_tmod (k + 1) n).symm
      rw [hq] at HLS
      obtain ⟨⟨_, _, p2, _, _, _, _, _⟩, ⟨_, _, f2, _, _, _, _, _⟩⟩ := bx8 hx
      have N1 : Below w3.heap.size w3 (w3.alloc (.cells #[.int .i64 (q : Int)] 3)).drew := ((Below.refl _ _).alloc (Nat.le_refl _) _).drew
      have hnew : ∀ j, (hj : j < [(q : Int)].length) → (w3.alloc (.cells #[.int .i64 (q : Int)] 3)).drew.cell? ((⟨w3.heap.size, 0, none⟩ : Addr).add j) = some (.int .i64 [(q : Int)][j]) := fun j hj => by
        obtain rfl : j = 0 := by simpa using hj
        simp [go_sem, Addr.add]
      obtain ⟨g4, o4, c4, w4, hrun4, hrow4, hg4, hor4⟩ := run_append_intsM (P := Tryz.prog) (ty := 32) Tryz.underlying32 ji jz0 jz1 jz2 (hord.below N1) ⟨w3.heap.size, 0, none⟩ 1 1 [(q : Int)] rfl hnew (.inl (by omega)) hll (Nat.le_trans (by omega) N1.size)
      have hx4 := (hx.below N1).grown hg4 (fun e => by have h9 : W.heap.size ≤ w.heap.size + 1 := (hord.lt _ e).1; omega)
      have p4 := hx4.cell 2 rfl
      have f4 := hx4.frozen 2
      have hlt3 : w.heap.size + 1 < w3.heap.size := hx.lt
      have hnz : ¬ (n = 0) := by omega
      have hwk : IntKind.i64.wrap ((k : Int) + 1) = (k : Int) + 1 := by rw [IntKind.wrap_i64]; omega
      have HE : Hid (CRow W.heap.size 2 (w4.setCell ⟨w.heap.size + 1, 2, none⟩ (.slice (some ⟨g4, o4, none⟩) (L.length + 1) c4)) (.slice a2 (k + 1) c2) (k + 1) (rowE (.slice none 0 0) (k + 1)) ∧ IntRow W.heap.size (w4.setCell ⟨w.heap.size + 1, 2, none⟩ (.slice (some ⟨g4, o4, none⟩) (L.length + 1) c4)) (.slice (some ⟨g4, o4, none⟩) (L.length + 1) c4) (ordTo n (k + 1)) ∧
          (∀ g, (Value.slice a2 (k + 1) c2).ownBlock = some g → (Value.slice (some ⟨g4, o4, none⟩) (L.length + 1) c4).ownBlock ≠ some g) ∧ Below w.heap.size w (w4.setCell ⟨w.heap.size + 1, 2, none⟩ (.slice (some ⟨g4, o4, none⟩) (L.length + 1) c4)) ∧ W.heap.size ≤ (w4.setCell ⟨w.heap.size + 1, 2, none⟩ (.slice (some ⟨g4, o4, none⟩) (L.length + 1) c4)).heap.size ∧
          Bx (w4.setCell ⟨w.heap.size + 1, 2, none⟩ (.slice (some ⟨g4, o4, none⟩) (L.length + 1) c4)) w.heap.size 36 [.int .i64 0, .slice none 0 0, .slice none 0 0, .int .i64 0, .slice none 0 0, .int .i64 0, .slice none 0 0, .int .i64 0] ∧ Bx (w4.setCell ⟨w.heap.size + 1, 2, none⟩ (.slice (some ⟨g4, o4, none⟩) (L.length + 1) c4)) (w.heap.size + 1) 36 [.int .i64 c, .slice a2 (k + 1) c2, .slice (some ⟨g4, o4, none⟩) (L.length + 1) c4, .int .i64 (-1), .slice none 0 0, .int .i64 0, .slice none 0 0, .int .i64 0]) := by
        have HW := (Wr.refl1 (w.heap.size + 1) w4).set1 (o := 2) (.slice (some ⟨g4, o4, none⟩) (L.length + 1) c4)
        have hlo : ∀ g, (Value.slice ao L.length co).ownBlock = some g → W.heap.size ≤ g := fun g e => (hord.lt g e).1
        have hbz := hb.size
        have hn1 := N1.size
        refine ⟨((hrow.below N1).grown hg4 (fun g e e2 => (hcov g e).2 e2)).wr HW (fun g e e2 => by have := (hcov g e).1; omega), by rw [HLS.out]; exact HW.ints hrow4 (fun g e e2 => by have := (hrow4.lt g e).1; omega), fun g e e2 => ?_, HW.below1 ((hb.trans (N1.mono hbz)).grown hg4 (by omega) (fun q e => by have := hlo q e; omega)) (Nat.le_refl _) (Nat.le_succ _), by rw [World.size_setCell]; have := hg4.size; omega, HW.bx ((hr.below N1).grown hg4 (fun e => by have := hlo _ e; omega)) (by omega), hx4.set 2 _⟩
        have e3 : g4 = g := by injection e2
        subst e3
        rcases hor4 with h | h
        · exact (hcov g4 e).2 h
        · have := (hrow.lt g4 e).2
          omega
      clear hx4 hrow4 hg4 hor4 hnew N1 hord hrow hb hr hx hcov hho hz
      go_wp2_with fail
      go_region_law (refine held_valN (by simp [Region.wanted]) (append_runN rfl (by go_simp) (by go_simp) hrun4) ?_)
      all_goals
        go_wp2
        go_roundg (n - (k + 1))
        case measure => omega
        case rel => exact ⟨k + 1, _, _, by omega, rfl, by go_num, HE.out⟩
    · obtain rfl : k = n := by omega
      have hkz : ¬ ((k : Int) < (k : Int)) := by omega
      obtain ⟨⟨r0, r1, r2, r3, r4, r5, r6, r7⟩, ⟨g0, g1, g2, g3, g4, g5, g6, g7⟩⟩ := bx8 hr
      obtain ⟨⟨p0, p1, p2, p3, p4, p5, p6, p7⟩, _⟩ := bx8 hx
      go_wp2
      refine bp_gen (fun W' => Below w.heap.size w W' ∧ CRow w.heap.size 2 W' (.slice ap k cp) k (rowE (.slice none 0 0) k) ∧ IntRow w.heap.size W' (.slice ao (ordTo k k).length co) (ordTo k k) ∧ Bx W' w.heap.size 36 [.int .i64 c, .slice ap k cp, .slice ao (ordTo k k).length co, .int .i64 (-1), .slice none 0 0, .int .i64 0, .slice none 0 0, .int .i64 0]) ?_ ?_
      · have HW := ((((((((Wr.refl1 w.heap.size wr).set1 (o := 0) (.int .i64 c)).set1 (o := 1) (.slice ap k cp)).set1 (o := 2) (.slice ao (ordTo k k).length co)).set1 (o := 3) (.int .i64 (-1))).set1 (o := 4) (.slice none 0 0)).set1 (o := 5) (.int .i64 0)).set1 (o := 6) (.slice none 0 0)).set1 (o := 7) (.int .i64 0)
        exact ⟨HW.below1 hb (Nat.le_refl _) (Nat.le_refl _), (hrow.wr HW (fun g e e2 => by have := (hrow.lt g e).1; omega)).mono (by omega), (HW.ints hord (fun g e e2 => by have := (hord.lt g e).1; omega)).mono (by omega), (((((((hr.set 0 _).set 1 _).set 2 _).set 3 _).set 4 _).set 5 _).set 6 _).set 7 _⟩
      rintro W9 ⟨hb9, hrow9, hord9, hx9⟩
      obtain ⟨⟨q0, q1, q2, q3, q4, q5, q6, q7⟩, _⟩ := bx8 hx9
      exact bodyPost_ret (v := .agg #[.int .i64 c, .slice ap k cp, .slice ao (ordTo k k).length co, .int .i64 (-1), .slice none 0 0, .int .i64 0, .slice none 0 0, .int .i64 0]) (by simp [results, Tryz.results29, go_sem, q0, q1, q2, q3, q4, q5, q6, q7]) rfl ⟨_, _, rfl, hrow9, hord9, hap, hb9⟩
def roomsB (r c : Int) : Bool := inR r 1 4 && inR c 14 60
theorem roomsB_true {r c : Int} (h : roomsB r c = true) : 1 ≤ r ∧ r ≤ 4 ∧ 14 ≤ c ∧ c ≤ 60 := by
  unfold roomsB at h
  simp only [Bool.and_eq_true] at h
  have h1 := inR_true.1 h.1
  have h2 := inR_true.1 h.2
  omega
set_option maxRecDepth 100000 in
theorem roomsOk_any (r c : Int) (w : World) : Calls Tryz.prog 28 #[.int .i64 r, .int .i64 c] w fun e w' => e = .returned (.bool (roomsB r c)) ∧ w' = w := by
  go_enter Tryz.func28, Tryz.ntmps28
  by_cases h1 : 1 ≤ r
  · by_cases h2 : r ≤ 4
    · by_cases h3 : 14 ≤ c
      · by_cases h4 : c ≤ 60
        · go_wp2
          go_ret
          exact ⟨by simp [roomsB, inR, h1, h2, h3, h4], rfl⟩
        · go_wp2
          go_ret
          exact ⟨by simp [roomsB, inR, h1, h2, h3, h4], rfl⟩
      · go_wp2
        go_ret
        exact ⟨by simp [roomsB, inR, h1, h2]; omega, rfl⟩
    · go_wp2
      go_ret
      exact ⟨by simp [roomsB, inR, h1]; omega, rfl⟩
  · go_wp2
    go_ret
    exact ⟨by simp [roomsB, inR]; omega, rfl⟩
def newPages (n t : Nat) : List Pg := (List.range n).map fun i => ⟨-1, if i = 0 then [⟨0, 0, -1, List.replicate t (0, 0), []⟩] else []⟩
def newMc (n t : Nat) (c : Int) : Mc := ⟨c, newPages n t, ordTo n n, 0, [], 1, [], 0⟩
structure NewM (B : Nat) (w : World) (n t : Nat) (vp vo : Value) (gf : Nat) (vt vs : Value) : Prop where
  p : CRow B 2 w vp n (.int .i64 (-1) :: .slice (some ⟨gf, 0, none⟩) 1 1 :: rowE (.slice none 0 0) (n - 1))
  f : Bx w gf 105 [.int .i64 0, .int .i64 0, .int .i64 (-1), vt, vs]
  t : PairRow B w vt (List.replicate t (0, 0))
  s : PairRow B w vs []
  o : IntRow B w vo (ordTo n n)
  low : B ≤ gf
  a1 : vp.ownBlock ≠ some gf
  a2 : ∀ g, vp.ownBlock = some g → vo.ownBlock ≠ some g
  a3 : ∀ g, vp.ownBlock = some g → vt.ownBlock ≠ some g
  a4 : vo.ownBlock ≠ some gf
  a5 : vt.ownBlock ≠ some gf
  a6 : ∀ g, vo.ownBlock = some g → vt.ownBlock ≠ some g
  sn : vs = .slice none 0 0
theorem NewM.wr {B : Nat} {w w' : World} {n t gf k gp op cp gt ct : Nat} {vo vs : Value} (h : NewM B w n t (.slice (some ⟨gp, op, none⟩) n cp) vo gf (.slice (some ⟨gt, 0, none⟩) t ct) vs) (hw : Wr (fun g => g = k) w w') (h1 : gp ≠ k) (h2 : gf ≠ k) (h3 : vo.ownBlock = some k → False) (h4 : gt ≠ k) (h5 : vs.ownBlock ≠ some k) :
    NewM B w' n t (.slice (some ⟨gp, op, none⟩) n cp) vo gf (.slice (some ⟨gt, 0, none⟩) t ct) vs :=
  ⟨h.p.wr hw (fun g e e2 => h1 (by have h9 : gp = g := by { injection e }; omega)), hw.bx h.f h2, hw.pair h.t (fun g e e2 => h4 (by have h9 : gt = g := by { injection e }; omega)), hw.pair h.s (fun g e e2 => h5 (e2 ▸ e)), hw.ints h.o (fun g e e2 => h3 (e2 ▸ e)), h.low, h.a1, h.a2, h.a3, h.a4, h.a5, h.a6, h.sn⟩
end Go.Proofs.YtmifhlkcceafkaaGreat
