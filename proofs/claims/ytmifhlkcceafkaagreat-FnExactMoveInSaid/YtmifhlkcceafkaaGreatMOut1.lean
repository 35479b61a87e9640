/-
  A machine at work is handed out: a call, the frames of a page.
-/
import Derived.Test.YtmifhlkcceafkaaGreatMPut2
import Derived.Test.YtmifhlkcceafkaaGreatRFV

namespace Go.Proofs.YtmifhlkcceafkaaGreat
open Go.RowKit
theorem flatM_at {sz : Nat} {f : Nat → List Value} (hf : ∀ i, (f i).length = sz) : ∀ (n i c : Nat), i < n → c < sz → ((List.range n).flatMap f)[i * sz + c]? = (f i)[c]?
  | 0, _, _, h, _ => absurd h (Nat.not_lt_zero _)
  | n + 1, i, c, h, hc => by
    have hl : ((List.range n).flatMap f).length = n * sz := by
      clear h
      induction n with
      | zero => simp
      | succ n ih => rw [List.range_succ, List.flatMap_append, List.length_append, ih]; simp [hf]; rw [Nat.succ_mul]
    rw [List.range_succ, List.flatMap_append]
    by_cases e : i = n
    · subst e
      rw [List.getElem?_append_right (by rw [hl]; omega), hl]
      simp
    · have h1 : i * sz + c < n * sz := by
        have : (i + 1) * sz ≤ n * sz := Nat.mul_le_mul_right _ (by omega)
        rw [Nat.succ_mul] at this
        omega
      rw [List.getElem?_append_left (by rw [hl]; exact h1)]
      exact flatM_at hf n i c (by omega) hc
theorem flat_snoc (f : Nat → List Value) (n : Nat) : (List.range (n + 1)).flatMap f = (List.range n).flatMap f ++ f n := by simp [List.range_succ]
theorem LvAt.lists {B : Nat} {ρ : Nat → Rl} {w : World} {P : Lay} (h : LvAt B ρ w P) {k : Nat} (hk : k < P.L.bodies.length) : ∃ a1 c1 a2 c2, P.T k = (.slice a1 P.L.bodies[k].temps.length c1, .slice a2 P.L.bodies[k].stack.length c2) := by
  obtain ⟨a1, c1, e1, _⟩ := (h (.temps k) hk).1.slice
  obtain ⟨a2, c2, e2, _⟩ := (h (.stack k) hk).1.slice
  exact ⟨a1, c1, a2, c2, Prod.ext e1 e2⟩
set_option maxRecDepth 100000 in
set_option maxHeartbeats 4000000 in
theorem bodyCall_mach {d : Nat} {b : LvB} {a1 a2 : Option Addr} {n1 n2 c1 c2 : Nat} (s : Int) (w : World) (hb : Bx w d 152 (bdCells (.slice a1 n1 c1, .slice a2 n2 c2) b)) :
    Calls Tryz.prog 76 #[.pointer (some ⟨d, 0, none⟩), .int .i64 s] w fun e w' => e = .returned (.agg #[.int .i64 b.m, .int .i64 b.pc, .slice a1 n1 c1, .slice a2 n2 c2, .int .i64 s, .bool b.dead]) ∧ Below w.heap.size w w' := by
  unfold bdCells at hb
  have x0 := hb.cell 0 rfl
  have x1 := hb.cell 1 rfl
  have x2 := hb.cell 2 rfl
  have x3 := hb.cell 3 rfl
  have x4 := hb.cell 4 rfl
  have hdl := hb.lt
  go_enter Tryz.func76, Tryz.ntmps76
  go_upto_region 1 with fail
  refine wp_gen (fun W => Below w.heap.size w W ∧ Bx W w.heap.size 63 [.int .i64 0, .int .i64 0, .slice none 0 0, .slice none 0 0, .int .i64 0, .bool false] ∧ Bx W d 152 [.int .i64 b.m, .int .i64 b.pc, .slice a1 n1 c1, .slice a2 n2 c2, .bool b.dead]) ⟨(Below.refl _ _).alloc (Nat.le_refl _) _, Bx.new _ _ _, hb.alloc _⟩ ?_
  rintro W ⟨hbW, y, hx⟩
  clear x0 x1 x2 x3 x4
  have x0 := hx.cell 0 rfl
  have x1 := hx.cell 1 rfl
  have x2 := hx.cell 2 rfl
  have x3 := hx.cell 3 rfl
  have x4 := hx.cell 4 rfl
  have y0 := y.cell 0 rfl
  have y1 := y.cell 1 rfl
  have y2 := y.cell 2 rfl
  have y3 := y.cell 3 rfl
  have y4 := y.cell 4 rfl
  have y5 := y.cell 5 rfl
  have f0 := y.frozen 0
  have f1 := y.frozen 1
  have f2 := y.frozen 2
  have f3 := y.frozen 3
  have f4 := y.frozen 4
  have f5 := y.frozen 5
  have hz := hbW.size
  go_region
  all_goals
    go_wp2
    refine bp_gen (fun W' => Below w.heap.size w W' ∧ Bx W' w.heap.size 63 [.int .i64 b.m, .int .i64 b.pc, .slice a1 n1 c1, .slice a2 n2 c2, .int .i64 s, .bool b.dead])
      ⟨((((((hbW.setCell (p := ⟨w.heap.size, 0, none⟩) (Nat.le_refl _) _).setCell (p := ⟨w.heap.size, 1, none⟩) (Nat.le_refl _) _).setCell (p := ⟨w.heap.size, 2, none⟩) (Nat.le_refl _) _).setCell (p := ⟨w.heap.size, 3, none⟩) (Nat.le_refl _) _).setCell (p := ⟨w.heap.size, 4, none⟩) (Nat.le_refl _) _).setCell (p := ⟨w.heap.size, 5, none⟩) (Nat.le_refl _) _).drew,
        ((((((y.set 0 _).set 1 _).set 2 _).set 3 _).set 4 _).set 5 _).drew⟩ ?_
    rintro W9 ⟨hb9, r⟩
    have r0 := r.cell 0 rfl
    have r1 := r.cell 1 rfl
    have r2 := r.cell 2 rfl
    have r3 := r.cell 3 rfl
    have r4 := r.cell 4 rfl
    have r5 := r.cell 5 rfl
    exact bodyPost_ret (v := .agg #[.int .i64 b.m, .int .i64 b.pc, .slice a1 n1 c1, .slice a2 n2 c2, .int .i64 s, .bool b.dead]) (by simp [results, Tryz.results76, go_sem, r0, r1, r2, r3, r4, r5]) rfl ⟨rfl, hb9⟩
def frOut (P : Lay) (fs : List LvF) (q : Nat) : List Value :=
  [.int .i64 (P.L.bodies.getD (fs.getD q ⟨0, -1⟩).body LvB.none).m, .int .i64 (P.L.bodies.getD (fs.getD q ⟨0, -1⟩).body LvB.none).pc, .int .i64 (fs.getD q ⟨0, -1⟩).twin, (P.T (fs.getD q ⟨0, -1⟩).body).1, (P.T (fs.getD q ⟨0, -1⟩).body).2]
theorem frOut_len (P : Lay) (fs : List LvF) (q : Nat) : (frOut P fs q).length = 5 := rfl
theorem Tryz.infoFrameO : (Tryz.prog.info? 105).map (fun i => (i.zero, i.size, i.bytes)) = some (some (.agg #[.int .i64 0, .int .i64 0, .int .i64 0, .slice none 0 0, .slice none 0 0]), 5, 72) := by kernel_rfl
set_option maxRecDepth 100000 in
set_option maxHeartbeats 4000000 in
theorem pageList_any {B : Nat} {ρ : Nat → Rl} {w : World} {P : Lay} (h : LvAt B ρ w P) (hwf : P.L.wf) (i : Nat) (hi : i < P.L.pages.length) (base : Int) (hfew : P.L.pages[i].frames.length ≤ 1000) :
    Calls Tryz.prog 75 #[.agg #[.int .i64 base, P.F i]] w fun e w' => ∃ v', e = .returned v' ∧ CRow w.heap.size 5 w' v' P.L.pages[i].frames.length ((List.range P.L.pages[i].frames.length).flatMap (frOut P P.L.pages[i].frames)) ∧ Below w.heap.size w w' := by
  have HL : Hid (LvAt B ρ w P) := h
  have HW := hwf.fr i hi
  obtain ⟨fs, hfs⟩ : ∃ fs, P.L.pages[i].frames = fs := ⟨_, rfl⟩
  have hrow := (h (.frames i) hi).1
  rw [hfs] at hrow hfew HW ⊢
  have HWF : Hid (∀ k, (hk : k < fs.length) → fs[k].body < P.L.bodies.length) := fun k hk => by
    have e := hfs
    subst e
    exact hwf.fr i hi k hk
  clear HW hfs
  obtain ⟨aF, cF, hvF⟩ := hrow.slice
  obtain ⟨hvF, hmF⟩ := hvF
  rw [hvF] at hrow ⊢
  obtain ⟨i0, hii, hz0, hz1, hz2⟩ := info_parts Tryz.infoFrameO
  clear h hwf
  go_enter Tryz.func75, Tryz.ntmps75
  go_upto_region 1 with fail
  refine wp_gen (fun W => Below w.heap.size w W ∧ Bx W w.heap.size 127 [.int .i64 base, .slice aF fs.length cF]) ⟨(Below.refl _ _).alloc (Nat.le_refl _) _, Bx.new _ _ _⟩ ?_
  rintro W ⟨hbW, y⟩
  have y1 := y.cell 1 rfl
  have hzW := hbW.size
  go_wp2_with fail
  go_loopg [3, 5, 9] fs.length (fun d v _ q wr => ∃ k : Nat, k ≤ fs.length ∧ d = fs.length - k ∧ q = .int .i64 (k : Int) ∧ CRow w.heap.size 5 wr v k ((List.range k).flatMap (frOut P fs)) ∧ Below w.heap.size w wr)
  case atStart => exact ⟨0, Nat.zero_le _, rfl, rfl, CRow.nil _ _ _, hbW⟩
  case round =>
    obtain ⟨k, hk, rfl, rfl, hv, hbr⟩ := hrel
    obtain ⟨av, cv, hve, hmv⟩ := hv.slice
    subst hve
    have zr := hbr.size
    by_cases hlt : k < fs.length
    · obtain ⟨gf, of, cf, hform, _, _⟩ := hrow.form (by omega)
      cases hform
      have hkz : (k : Int) < (fs.length : Int) := by omega
      obtain ⟨q0, q1⟩ := cells2_at (frPairs P.D fs) k (by simp [frPairs]; exact hlt)
      have e0 : (frPairs P.D fs)[k]'(by simp [frPairs]; exact hlt) = (.pointer (some ⟨P.D fs[k].body, 0, none⟩), .int .i64 fs[k].twin) := by simp [frPairs]
      rw [e0] at q0 q1
      have c0 := cell_below hbr (hrow.cell q0).1
      have c1 := cell_below hbr (hrow.cell q1).1
      rw [← Nat.add_assoc] at c1
      have hbk := HWF.out k hlt
      obtain ⟨F, hF⟩ : ∃ F, fs[k] = F := ⟨_, rfl⟩
      rw [hF] at c0 c1 hbk
      obtain ⟨a1, k1, a2, k2, hT⟩ := HL.out.lists hbk
      have hbody := (HL.out (.body F.body) hbk).1
      rw [hT] at hbody
      unfold bdCells at hbody
      obtain ⟨b, hb⟩ : ∃ b, P.L.bodies[F.body] = b := ⟨_, rfl⟩
      rw [hb] at hbody hT
      have hfo : frOut P fs k = [.int .i64 b.m, .int .i64 b.pc, .int .i64 F.twin, .slice a1 b.temps.length k1, .slice a2 b.stack.length k2] := by
        unfold frOut
        have h1 : fs.getD k ⟨0, -1⟩ = F := by simp [hlt, hF]
        have h2 : P.L.bodies.getD F.body LvB.none = b := by simp [hbk, hb]
        rw [h1, h2, hT]
      clear q0 q1 e0 hF hb hT hbk
      go_upto_region 5 with fail
      refine wp_gen (fun W' => Below wr.heap.size wr W' ∧ Bx W' wr.heap.size 133 [.pointer (some ⟨P.D F.body, 0, none⟩), .int .i64 F.twin]) ⟨(Below.refl _ _).alloc (Nat.le_refl _) _, Bx.new _ _ _⟩ ?_
      rintro W2 ⟨t2, y2⟩
      have hb2 := hbr.trans (t2.mono zr)
      have z2 := hb2.size
      have v2 := hv.below t2
      have hB2 := hbody.below hb2
      have n0 := y2.cell 0 rfl
      have n1 := y2.cell 1 rfl
      have d0 := hB2.cell 0 rfl
      have d1 := hB2.cell 1 rfl
      have d2 := hB2.cell 2 rfl
      have d3 := hB2.cell 3 rfl
      clear c0 c1 t2
      have hblt := hB2.lt
      have hylt := y2.lt
      clear hv hrow hbody
      refine wp_region_fu [[], [], [1], [1, 2], [1, 2, 3], [1, 2, 3, 4], [], [6], [6, 7], [6, 7, 8], [6, 7, 8, 9], [], [11], [], [13], [13, 14], [13, 14, 15], [13, 14, 15, 16], [], [18], [18, 19], [18, 19, 20], [18, 19, 20, 21], [1, 2, 3, 4, 5, 6, 7, 8, 9, 10, 11, 12, 13, 14, 15, 16, 17, 18, 19, 20, 21, 22], [1, 2, 3, 4, 5, 6, 7, 8, 9, 10, 11, 12, 13, 14, 15, 16, 17, 18, 19, 20, 21, 22, 23], [0, 1, 2, 3, 4, 5, 6, 7, 8, 9, 10, 11, 12, 13, 14, 15, 16, 17, 18, 19, 20, 21, 22, 23, 24], [0, 1, 2, 3, 4, 5, 6, 7, 8, 9, 10, 11, 12, 13, 14, 15, 16, 17, 18, 19, 20, 21, 22, 23, 24, 25]] [[0], [1], [2], [3], [4], [5], [6], [7], [8], [9], [10], [11], [12], [13], [14], [15], [16], [17], [18], [19], [20], [21], [22], [23], [24], [], []] [[], [], [], [], [], [], [], [], [], [], [], [], [], [], [], [], [], [], [], [], [], [], [], [], [], [], []] [fIs (.slice av k cv), fIs (.pointer (some ⟨wr.heap.size, 0, none⟩)), fIs (.pointer (some ⟨P.D F.body, 0, none⟩)), fIs (.pointer (some ⟨P.D F.body, 0, none⟩)), fIs (.pointer (some ⟨P.D F.body, 0, none⟩)), fIs (.int .i64 b.m), fIs (.pointer (some ⟨wr.heap.size, 0, none⟩)), fIs (.pointer (some ⟨P.D F.body, 0, none⟩)), fIs (.pointer (some ⟨P.D F.body, 0, none⟩)), fIs (.pointer (some ⟨P.D F.body, 1, none⟩)), fIs (.int .i64 b.pc), fIs (.pointer (some ⟨wr.heap.size, 1, none⟩)), fIs (.int .i64 F.twin), fIs (.pointer (some ⟨wr.heap.size, 0, none⟩)), fIs (.pointer (some ⟨P.D F.body, 0, none⟩)), fIs (.pointer (some ⟨P.D F.body, 0, none⟩)), fIs (.pointer (some ⟨P.D F.body, 2, none⟩)), fIs (.slice a1 b.temps.length k1), fIs (.pointer (some ⟨wr.heap.size, 0, none⟩)), fIs (.pointer (some ⟨P.D F.body, 0, none⟩)), fIs (.pointer (some ⟨P.D F.body, 0, none⟩)), fIs (.pointer (some ⟨P.D F.body, 3, none⟩)), fIs (.slice a2 b.stack.length k2), fIs (.agg #[.int .i64 b.m, .int .i64 b.pc, .int .i64 F.twin, .slice a1 b.temps.length k1, .slice a2 b.stack.length k2]), fGh 24 (fun (x : Nat) l => l = [.slice (some ⟨x, 0, none⟩) 1 1]) (fun x w1 => ∀ j u, ([.int .i64 b.m, .int .i64 b.pc, .int .i64 F.twin, .slice a1 b.temps.length k1, .slice a2 b.stack.length k2] : List Value)[j]? = some u → w1.cell? ⟨x, j, none⟩ = some u), fOf fun _ => True, fOf fun _ => True] 25 1 rfl (by kernel_rfl) (by kernel_rfl) (by kernel_rfl) (by kernel_rfl) ?_ ?_
      · refine all_lt_succ (all_lt_succ (all_lt_succ (all_lt_succ (all_lt_succ (all_lt_succ (all_lt_succ (all_lt_succ (all_lt_succ (all_lt_succ (all_lt_succ (all_lt_succ (all_lt_succ (all_lt_succ (all_lt_succ (all_lt_succ (all_lt_succ (all_lt_succ (all_lt_succ (all_lt_succ (all_lt_succ (all_lt_succ (all_lt_succ (all_lt_succ (all_lt_succ (all_lt_zero) ?_) ?_) ?_) ?_) ?_) ?_) ?_) ?_) ?_) ?_) ?_) ?_) ?_) ?_) ?_) ?_) ?_) ?_) ?_) ?_) ?_) ?_) ?_) ?_) ?_
        · intro a w val own hB hf hown hk
          have s3 := hf.at (d := 3) (v := .slice av k cv) (by kernel_rfl) rfl
          exact rf_pure (v := .slice av k cv) hB rfl rfl (by unfold execOp; go_simp) rfl
        · intro a w val own hB hf hown hk
          have s5 := hf.at (d := 5) (v := .pointer (some ⟨wr.heap.size, 0, none⟩)) (by kernel_rfl) rfl
          exact rf_pure (v := .pointer (some ⟨wr.heap.size, 0, none⟩)) hB rfl rfl (by unfold execOp; go_simp) rfl
        · intro a w val own hB hf hown hk
          obtain ⟨k1, f1⟩ := hk 1 (show 1 ∈ [1] by decide)
          have s14 := k1 14 rfl
          rw [fIs_out f1] at s14
          clear k1 f1
          have cn0 := cell_below hB n0
          exact rf_pure (v := .pointer (some ⟨P.D F.body, 0, none⟩)) hB rfl rfl (by unfold execOp; go_simp) rfl
        · intro a w val own hB hf hown hk
          obtain ⟨k2, f2⟩ := hk 2 (show 2 ∈ [1, 2] by decide)
          have s15 := k2 15 rfl
          rw [fIs_out f2] at s15
          clear k2 f2
          exact rf_pure (v := .pointer (some ⟨P.D F.body, 0, none⟩)) hB rfl rfl (by unfold execOp; go_simp) rfl
        · intro a w val own hB hf hown hk
          obtain ⟨k3, f3⟩ := hk 3 (show 3 ∈ [1, 2, 3] by decide)
          have s16 := k3 16 rfl
          rw [fIs_out f3] at s16
          clear k3 f3
          exact rf_pure (v := .pointer (some ⟨P.D F.body, 0, none⟩)) hB rfl rfl (by unfold execOp; go_simp) rfl
        · intro a w val own hB hf hown hk
          obtain ⟨k4, f4⟩ := hk 4 (show 4 ∈ [1, 2, 3, 4] by decide)
          have s17 := k4 17 rfl
          rw [fIs_out f4] at s17
          clear k4 f4
          have cd0 := cell_below hB d0
          exact rf_pure (v := .int .i64 b.m) hB rfl rfl (by unfold execOp; go_simp) rfl
        · intro a w val own hB hf hown hk
          have s5 := hf.at (d := 5) (v := .pointer (some ⟨wr.heap.size, 0, none⟩)) (by kernel_rfl) rfl
          exact rf_pure (v := .pointer (some ⟨wr.heap.size, 0, none⟩)) hB rfl rfl (by unfold execOp; go_simp) rfl
        · intro a w val own hB hf hown hk
          obtain ⟨k6, f6⟩ := hk 6 (show 6 ∈ [6] by decide)
          have s19 := k6 19 rfl
          rw [fIs_out f6] at s19
          clear k6 f6
          have cn0 := cell_below hB n0
          exact rf_pure (v := .pointer (some ⟨P.D F.body, 0, none⟩)) hB rfl rfl (by unfold execOp; go_simp) rfl
        · intro a w val own hB hf hown hk
          obtain ⟨k7, f7⟩ := hk 7 (show 7 ∈ [6, 7] by decide)
          have s20 := k7 20 rfl
          rw [fIs_out f7] at s20
          clear k7 f7
          exact rf_pure (v := .pointer (some ⟨P.D F.body, 0, none⟩)) hB rfl rfl (by unfold execOp; go_simp) rfl
        · intro a w val own hB hf hown hk
          obtain ⟨k8, f8⟩ := hk 8 (show 8 ∈ [6, 7, 8] by decide)
          have s21 := k8 21 rfl
          rw [fIs_out f8] at s21
          clear k8 f8
          exact rf_pure (v := .pointer (some ⟨P.D F.body, 1, none⟩)) hB rfl rfl (by unfold execOp; go_simp) rfl
        · intro a w val own hB hf hown hk
          obtain ⟨k9, f9⟩ := hk 9 (show 9 ∈ [6, 7, 8, 9] by decide)
          have s22 := k9 22 rfl
          rw [fIs_out f9] at s22
          clear k9 f9
          have cd1 := cell_below hB d1
          exact rf_pure (v := .int .i64 b.pc) hB rfl rfl (by unfold execOp; go_simp) rfl
        · intro a w val own hB hf hown hk
          have s5 := hf.at (d := 5) (v := .pointer (some ⟨wr.heap.size, 0, none⟩)) (by kernel_rfl) rfl
          exact rf_pure (v := .pointer (some ⟨wr.heap.size, 1, none⟩)) hB rfl rfl (by unfold execOp; go_simp) rfl
        · intro a w val own hB hf hown hk
          obtain ⟨k11, f11⟩ := hk 11 (show 11 ∈ [11] by decide)
          have s24 := k11 24 rfl
          rw [fIs_out f11] at s24
          clear k11 f11
          have cn1 := cell_below hB n1
          exact rf_pure (v := .int .i64 F.twin) hB rfl rfl (by unfold execOp; go_simp) rfl
        · intro a w val own hB hf hown hk
          have s5 := hf.at (d := 5) (v := .pointer (some ⟨wr.heap.size, 0, none⟩)) (by kernel_rfl) rfl
          exact rf_pure (v := .pointer (some ⟨wr.heap.size, 0, none⟩)) hB rfl rfl (by unfold execOp; go_simp) rfl
        · intro a w val own hB hf hown hk
          obtain ⟨k13, f13⟩ := hk 13 (show 13 ∈ [13] by decide)
          have s26 := k13 26 rfl
          rw [fIs_out f13] at s26
          clear k13 f13
          have cn0 := cell_below hB n0
          exact rf_pure (v := .pointer (some ⟨P.D F.body, 0, none⟩)) hB rfl rfl (by unfold execOp; go_simp) rfl
        · intro a w val own hB hf hown hk
          obtain ⟨k14, f14⟩ := hk 14 (show 14 ∈ [13, 14] by decide)
          have s27 := k14 27 rfl
          rw [fIs_out f14] at s27
          clear k14 f14
          exact rf_pure (v := .pointer (some ⟨P.D F.body, 0, none⟩)) hB rfl rfl (by unfold execOp; go_simp) rfl
        · intro a w val own hB hf hown hk
          obtain ⟨k15, f15⟩ := hk 15 (show 15 ∈ [13, 14, 15] by decide)
          have s28 := k15 28 rfl
          rw [fIs_out f15] at s28
          clear k15 f15
          exact rf_pure (v := .pointer (some ⟨P.D F.body, 2, none⟩)) hB rfl rfl (by unfold execOp; go_simp) rfl
        · intro a w val own hB hf hown hk
          obtain ⟨k16, f16⟩ := hk 16 (show 16 ∈ [13, 14, 15, 16] by decide)
          have s29 := k16 29 rfl
          rw [fIs_out f16] at s29
          clear k16 f16
          have cd2 := cell_below hB d2
          exact rf_pure (v := .slice a1 b.temps.length k1) hB rfl rfl (by unfold execOp; go_simp) rfl
        · intro a w val own hB hf hown hk
          have s5 := hf.at (d := 5) (v := .pointer (some ⟨wr.heap.size, 0, none⟩)) (by kernel_rfl) rfl
          exact rf_pure (v := .pointer (some ⟨wr.heap.size, 0, none⟩)) hB rfl rfl (by unfold execOp; go_simp) rfl
        · intro a w val own hB hf hown hk
          obtain ⟨k18, f18⟩ := hk 18 (show 18 ∈ [18] by decide)
          have s31 := k18 31 rfl
          rw [fIs_out f18] at s31
          clear k18 f18
          have cn0 := cell_below hB n0
          exact rf_pure (v := .pointer (some ⟨P.D F.body, 0, none⟩)) hB rfl rfl (by unfold execOp; go_simp) rfl
        · intro a w val own hB hf hown hk
          obtain ⟨k19, f19⟩ := hk 19 (show 19 ∈ [18, 19] by decide)
          have s32 := k19 32 rfl
          rw [fIs_out f19] at s32
          clear k19 f19
          exact rf_pure (v := .pointer (some ⟨P.D F.body, 0, none⟩)) hB rfl rfl (by unfold execOp; go_simp) rfl
        · intro a w val own hB hf hown hk
          obtain ⟨k20, f20⟩ := hk 20 (show 20 ∈ [18, 19, 20] by decide)
          have s33 := k20 33 rfl
          rw [fIs_out f20] at s33
          clear k20 f20
          exact rf_pure (v := .pointer (some ⟨P.D F.body, 3, none⟩)) hB rfl rfl (by unfold execOp; go_simp) rfl
        · intro a w val own hB hf hown hk
          obtain ⟨k21, f21⟩ := hk 21 (show 21 ∈ [18, 19, 20, 21] by decide)
          have s34 := k21 34 rfl
          rw [fIs_out f21] at s34
          clear k21 f21
          have cd3 := cell_below hB d3
          exact rf_pure (v := .slice a2 b.stack.length k2) hB rfl rfl (by unfold execOp; go_simp) rfl
        · intro a w val own hB hf hown hk
          obtain ⟨k5, f5⟩ := hk 5 (show 5 ∈ [1, 2, 3, 4, 5, 6, 7, 8, 9, 10, 11, 12, 13, 14, 15, 16, 17, 18, 19, 20, 21, 22] by decide)
          have s18 := k5 18 rfl
          rw [fIs_out f5] at s18
          clear k5 f5
          obtain ⟨k10, f10⟩ := hk 10 (show 10 ∈ [1, 2, 3, 4, 5, 6, 7, 8, 9, 10, 11, 12, 13, 14, 15, 16, 17, 18, 19, 20, 21, 22] by decide)
          have s23 := k10 23 rfl
          rw [fIs_out f10] at s23
          clear k10 f10
          obtain ⟨k12, f12⟩ := hk 12 (show 12 ∈ [1, 2, 3, 4, 5, 6, 7, 8, 9, 10, 11, 12, 13, 14, 15, 16, 17, 18, 19, 20, 21, 22] by decide)
          have s25 := k12 25 rfl
          rw [fIs_out f12] at s25
          clear k12 f12
          obtain ⟨k17, f17⟩ := hk 17 (show 17 ∈ [1, 2, 3, 4, 5, 6, 7, 8, 9, 10, 11, 12, 13, 14, 15, 16, 17, 18, 19, 20, 21, 22] by decide)
          have s30 := k17 30 rfl
          rw [fIs_out f17] at s30
          clear k17 f17
          obtain ⟨k22, f22⟩ := hk 22 (show 22 ∈ [1, 2, 3, 4, 5, 6, 7, 8, 9, 10, 11, 12, 13, 14, 15, 16, 17, 18, 19, 20, 21, 22] by decide)
          have s35 := k22 35 rfl
          rw [fIs_out f22] at s35
          clear k22 f22
          exact rf_pure (v := .agg #[.int .i64 b.m, .int .i64 b.pc, .int .i64 F.twin, .slice a1 b.temps.length k1, .slice a2 b.stack.length k2]) hB rfl rfl (by unfold execOp; go_simp) rfl
        · intro a w val own hB hf hown hk
          obtain ⟨k23, f23⟩ := hk 23 (show 23 ∈ [1, 2, 3, 4, 5, 6, 7, 8, 9, 10, 11, 12, 13, 14, 15, 16, 17, 18, 19, 20, 21, 22, 23] by decide)
          have s36 := k23 36 rfl
          rw [fIs_out f23] at s36
          clear k23 f23
          refine rf_new (v := .slice (some ⟨w.heap.size, 0, none⟩) 1 1) (w' := w.alloc (.cells #[.int .i64 b.m, .int .i64 b.pc, .int .i64 F.twin, .slice a1 b.temps.length k1, .slice a2 b.stack.length k2] 105)) hB rfl rfl (by unfold execOp; go_simp) ((Below.refl _ _).alloc (Nat.le_refl _) _) ⟨w.heap.size, rfl, Made.new fun w1 _ _ hr => ?_⟩
          exact fun j u hu => ((Bx.new w 105 [.int .i64 b.m, .int .i64 b.pc, .int .i64 F.twin, .slice a1 b.temps.length k1, .slice a2 b.stack.length k2]).kept (hr _ (Nat.le_refl _) (by simp))).cell j hu
      intro aE w10 val own hB hf hown hk
      obtain ⟨kb, H, eb, mb⟩ := hk 24 (by decide)
      have vb := one_eq eb
      have s37 := kb 37 rfl
      rw [vb] at s37
      have mh := mb.here hB
      obtain ⟨kq, fq⟩ := hk 0 (by decide)
      have s13 := kq 13 rfl
      rw [fIs_out fq] at s13
      clear kq fq
      have hB0 : Below W2.heap.size W2 w10 := hB
      obtain ⟨v', W3, hrun, hrow3, hg3, _⟩ := run_append_el (P := Tryz.prog) (t := 59) (ty := 59) Tryz.underlying59 hii hz0 hz1 rfl (by omega) (v2.below hB0) [.int .i64 b.m, .int .i64 b.pc, .int .i64 F.twin, .slice a1 b.temps.length k1, .slice a2 b.stack.length k2] rfl (by intro u hu; simp at hu; rcases hu with rfl | rfl | rfl | rfl | rfl <;> rfl) H 1 mh (by omega) (Nat.le_trans z2 hB0.size)
      have hb3 : Below w.heap.size w W3 := (hb2.trans (hB0.mono z2)).grown hg3 (Nat.le_trans z2 hB0.size) fun q e => (v2.lt q e).1
      rw [← hfo, ← flat_snoc] at hrow3
      obtain ⟨a9, c9, hv9, _⟩ := hrow3.slice
      subst hv9
      have HE : Hid (CRow w.heap.size 5 W3 (.slice a9 (k + 1) c9) (k + 1) ((List.range (k + 1)).flatMap (frOut P fs)) ∧ Below w.heap.size w W3) := ⟨hrow3, hb3⟩
      clear hrow3 hg3 hb3 hB0
      clear kb eb vb mb mh
      have hu := frame_sets hf [13, 14, 15, 16, 17, 18, 19, 20, 21, 22, 23, 24, 25, 26, 27, 28, 29, 30, 31, 32, 33, 34, 35, 36, 37] (by kernel_rfl)
      dsimp only at hu
      simp only [List.foldl_cons, List.foldl_nil, List.setIfInBounds_toArray, List.set_cons_succ, List.set_cons_zero] at hu
      rw [s13, s37] at hu
      generalize aE.tmps[14]?.getD undef = u14 at hu
      generalize aE.tmps[15]?.getD undef = u15 at hu
      generalize aE.tmps[16]?.getD undef = u16 at hu
      generalize aE.tmps[17]?.getD undef = u17 at hu
      generalize aE.tmps[18]?.getD undef = u18 at hu
      generalize aE.tmps[19]?.getD undef = u19 at hu
      generalize aE.tmps[20]?.getD undef = u20 at hu
      generalize aE.tmps[21]?.getD undef = u21 at hu
      generalize aE.tmps[22]?.getD undef = u22 at hu
      generalize aE.tmps[23]?.getD undef = u23 at hu
      generalize aE.tmps[24]?.getD undef = u24 at hu
      generalize aE.tmps[25]?.getD undef = u25 at hu
      generalize aE.tmps[26]?.getD undef = u26 at hu
      generalize aE.tmps[27]?.getD undef = u27 at hu
      generalize aE.tmps[28]?.getD undef = u28 at hu
      generalize aE.tmps[29]?.getD undef = u29 at hu
      generalize aE.tmps[30]?.getD undef = u30 at hu
      generalize aE.tmps[31]?.getD undef = u31 at hu
      generalize aE.tmps[32]?.getD undef = u32 at hu
      generalize aE.tmps[33]?.getD undef = u33 at hu
      generalize aE.tmps[34]?.getD undef = u34 at hu
      generalize aE.tmps[35]?.getD undef = u35 at hu
      generalize aE.tmps[36]?.getD undef = u36 at hu
      obtain rfl := act_eq hu (show aE.defers = [] from hf.defers)
      clear hu hk hown hf s13 s37
      refine wpOp_val (v := .slice a9 (k + 1) c9) (w' := W3) rfl rfl (append_runD rfl (by go_simp) (by go_simp) hrun) ?_
      simp only [Act.put]
      refine wpOp_val (v := .slice a9 (k + 1) c9) (w' := W3) rfl rfl (by unfold execOp; go_simp) ?_
      simp only [Act.put]
      clear hrun hB
      refine ex_gen (fun W9 => CRow w.heap.size 5 W9 (.slice a9 (k + 1) c9) (k + 1) ((List.range (k + 1)).flatMap (frOut P fs)) ∧ Below w.heap.size w W9) HE.out ?_
      rintro W9 hW9
      clear HE
      go_wp2
      go_roundg (fs.length - (k + 1))
      case measure => omega
      case rel => exact ⟨k + 1, by omega, rfl, by go_num, hW9.1, hW9.2⟩
    · obtain rfl : k = fs.length := by omega
      go_wp2
      go_ret
      exact ⟨_, rfl, hv, hbr⟩
end Go.Proofs.YtmifhlkcceafkaaGreat
