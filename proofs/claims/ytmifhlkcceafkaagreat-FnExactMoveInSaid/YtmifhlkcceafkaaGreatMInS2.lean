/-
  load of the model's machine: a call that is a thing of its own is put on the first page.
-/
import Derived.Test.YtmifhlkcceafkaaGreatMvFacts2
import Derived.Test.YtmifhlkcceafkaaGreatRFV

namespace Go.Proofs.YtmifhlkcceafkaaGreat
open Go.RowKit
theorem rowV_0 (x : Value) (L : List Value) : (rowV (x :: L))[0]? = some (.int .i64 (-1)) ∧ (rowV (x :: L))[1]? = some x := by simp [rowV]
theorem flat_len8 (f : Nat → List Value) (hf : ∀ i, (f i).length = 8) : ∀ n, ((List.range n).flatMap f).length = n * 8
  | 0 => rfl
  | n + 1 => by rw [flat_snoc, List.length_append, flat_len8 f hf n, hf]; omega
def set8 (TL : List Value) (m : Nat) (a0 a1 a2 a3 a4 a5 a6 a7 : Value) : List Value := (((((((TL.set (m + 0) a0).set (m + 1) a1).set (m + 2) a2).set (m + 3) a3).set (m + 4) a4).set (m + 5) a5).set (m + 6) a6).set (m + 7) a7
theorem set8_at {TL : List Value} {m : Nat} {a0 a1 a2 a3 a4 a5 a6 a7 : Value} (i : Nat) (h8 : i < 8) (hi : m + 7 < TL.length) : (set8 TL m a0 a1 a2 a3 a4 a5 a6 a7)[m + i]? = [a0, a1, a2, a3, a4, a5, a6, a7][i]? := by
  unfold set8
  match i, h8 with
  | 0, _ => simp [show m < TL.length by omega]
  | 1, _ => simp [show m + 1 < TL.length by omega]
  | 2, _ => simp [show m + 2 < TL.length by omega]
  | 3, _ => simp [show m + 3 < TL.length by omega]
  | 4, _ => simp [show m + 4 < TL.length by omega]
  | 5, _ => simp [show m + 5 < TL.length by omega]
  | 6, _ => simp [show m + 6 < TL.length by omega]
  | 7, _ => simp [show m + 7 < TL.length by omega]
theorem set8_ne {TL : List Value} {m q : Nat} {a0 a1 a2 a3 a4 a5 a6 a7 : Value} (h : q < m ∨ m + 8 ≤ q) : (set8 TL m a0 a1 a2 a3 a4 a5 a6 a7)[q]? = TL[q]? := by
  unfold set8
  rw [List.getElem?_set_ne (by omega), List.getElem?_set_ne (by omega), List.getElem?_set_ne (by omega), List.getElem?_set_ne (by omega), List.getElem?_set_ne (by omega), List.getElem?_set_ne (by omega), List.getElem?_set_ne (by omega), List.getElem?_set_ne (by omega)]
theorem pages_load {C n gp op cp xd k1 k2 : Nat} {z : World} {a1 a2 : Option Addr} {Q : Cl} {j : Nat} {xf : Value} {L0 : List Value} (hr : CRow C 2 z (.slice (some ⟨gp, op, none⟩) n cp) n (((rowV (xf :: L0)).set 0 (.int .i64 Q.sender)).set 1 (.slice (some ⟨xd, 0, none⟩) 1 1)))
    (hL0 : ∀ x ∈ L0, ∃ g, x = .slice (some ⟨g, 0, none⟩) 0 0) (hlen : (xf :: L0).length = n * 1) (hn : n ≤ 1000) (hF : Bx z xd 105 [.int .i64 Q.m, .int .i64 Q.pc, .int .i64 (j : Int), .slice a1 Q.temps.length k1, .slice a2 Q.stack.length k2]) (hl : OpsAt z (.slice a1 Q.temps.length k1) Q.temps ∧ OpsAt z (.slice a2 Q.stack.length k2) Q.stack) :
    PagesAt z (.slice (some ⟨gp, op, none⟩) n cp) (⟨Q.sender, [⟨Q.m, Q.pc, (j : Int), Q.temps, Q.stack⟩]⟩ :: List.replicate (n - 1) pgE) := by
  have hl1 : L0.length + 1 = n := by simpa using hlen
  have hpl : ((⟨Q.sender, [⟨Q.m, Q.pc, (j : Int), Q.temps, Q.stack⟩]⟩ : Pg) :: List.replicate (n - 1) pgE).length = n := by simp; omega
  refine ⟨_, cp, by rw [hpl], by rw [hpl]; unfold maxLen; omega, fun i hi => ?_⟩
  have hi' : i < n := by rw [← hpl]; exact hi
  cases i with
  | zero =>
    obtain ⟨c0, _⟩ := hr.cell (j := 0) (u := .int .i64 Q.sender) (by simp [rowV])
    obtain ⟨c1, _⟩ := hr.cell (j := 1) (u := .slice (some ⟨xd, 0, none⟩) 1 1) (by simp [rowV])
    refine ⟨gp, op, _, rfl, by simpa using c0, by simpa using c1, _, 1, rfl, by show 1 ≤ maxLen; unfold maxLen; omega, fun k hk => ?_⟩
    have hk0 : k = 0 := by simpa using hk
    subst hk0
    exact ⟨xd, 0, _, _, rfl, ⟨by simpa using hF.cell 0 rfl, by simpa using hF.cell 1 rfl, by simpa using hF.cell 2 rfl, by simpa using hF.cell 3 rfl, by simpa using hF.cell 4 rfl, hl.1, hl.2⟩⟩
  | succ i =>
    have hil : i < L0.length := by omega
    have re := rowV_at (xf :: L0) (i + 1) (by simp; omega)
    obtain ⟨c0, _⟩ := hr.cell (j := (i + 1) * 2) (by rw [List.getElem?_set_ne (by omega), List.getElem?_set_ne (by omega)]; exact re.1)
    obtain ⟨c1, _⟩ := hr.cell (j := (i + 1) * 2 + 1) (by rw [List.getElem?_set_ne (by omega), List.getElem?_set_ne (by omega)]; exact re.2)
    obtain ⟨g, hg⟩ := hL0 L0[i] (List.getElem_mem hil)
    rw [List.getElem_cons_succ, hg] at c1
    rw [← Nat.add_assoc] at c1
    rw [List.getElem_cons_succ, List.getElem_replicate]
    exact ⟨gp, op, _, rfl, c0, c1, _, 0, rfl, Nat.zero_le _, fun k hk => absurd hk (Nat.not_lt_zero _)⟩
theorem twins_load {D nt gt ot ct eA eB : Nat} {z : World} {h : Hp} {j : Nat} {VT VS : Nat → Value} {TL : List Value} (hj : j < h.calls.length) (hnt : h.calls.length = nt) (hTL : (List.range h.calls.length).flatMap (twRow h VT VS) = TL)
    (hr : CRow D 8 z (.slice (some ⟨gt, ot, none⟩) nt ct) nt (set8 TL (j * 8) (.int .i64 0) (.int .i64 0) (.int .i64 0) (.int .i64 0) (.slice (some ⟨eA, 0, none⟩) 0 0) (.slice (some ⟨eB, 0, none⟩) 0 0) (.int .i64 0) (.bool false))) (hl : ∀ i, i < h.calls.length → OpsAt z (VT i) (clA h i).temps ∧ OpsAt z (VS i) (clA h i).stack) :
    TwinsAt z (.slice (some ⟨gt, ot, none⟩) h.calls.length ct) ((h.calls.map twC).set j twGone) := by
  subst hnt
  obtain ⟨_, _, hv, hm⟩ := hr.slice
  have hTLl : TL.length = h.calls.length * 8 := by rw [← hTL]; exact flat_len8 _ (fun i => rfl) _
  refine ⟨_, ct, by rw [List.length_set, List.length_map], by rw [List.length_set, List.length_map]; exact hm, fun q hq => ?_⟩
  have hq' : q < h.calls.length := by simpa using hq
  have em : ((h.calls.map twC).set j twGone)[q] = if q = j then twGone else twC h.calls[q] := (List.getElem?_eq_some_iff.1 (run_twins hj hq')).2
  rw [em]
  by_cases e : q = j
  · subst e
    rw [if_pos rfl]
    have cell : ∀ i x, i < 8 → ([.int .i64 0, .int .i64 0, .int .i64 0, .int .i64 0, .slice (some ⟨eA, 0, none⟩) 0 0, .slice (some ⟨eB, 0, none⟩) 0 0, .int .i64 0, .bool false] : List Value)[i]? = some x → z.cell? ⟨gt, ot + q * 8 + i, none⟩ = some x := fun i x hi hx => by
      have := (hr.cell (j := q * 8 + i) ((set8_at i hi (by omega)).trans hx)).1
      rwa [← Nat.add_assoc] at this
    have on : ∀ g, OpsAt z (.slice (some ⟨g, 0, none⟩) 0 0) [] := fun g => ⟨_, 0, rfl, Nat.zero_le _, fun _ h => absurd h (Nat.not_lt_zero _)⟩
    exact ⟨gt, ot, _, _, rfl, cell 0 _ (by omega) rfl, cell 1 _ (by omega) rfl, cell 2 _ (by omega) rfl, cell 3 _ (by omega) rfl, cell 4 _ (by omega) rfl, cell 5 _ (by omega) rfl, cell 6 _ (by omega) rfl, cell 7 _ (by omega) rfl, on _, on _⟩
  · rw [if_neg e]
    have ht : twRow h VT VS q = [.int .i64 (-1), .int .i64 0, .int .i64 h.calls[q].m, .int .i64 h.calls[q].pc, VT q, VS q, .int .i64 h.calls[q].sender, .bool h.calls[q].dead] := by unfold twRow; simp [hq']
    have cell : ∀ i x, i < 8 → (twRow h VT VS q)[i]? = some x → z.cell? ⟨gt, ot + q * 8 + i, none⟩ = some x := fun i x hi hx => by
      have h1 : TL[q * 8 + i]? = some x := by
        rw [← hTL]
        exact (flatM_at (f := twRow h VT VS) (sz := 8) (fun i => rfl) h.calls.length q i hq' hi).trans hx
      have := (hr.cell (j := q * 8 + i) ((set8_ne (by omega)).trans h1)).1
      rwa [← Nat.add_assoc] at this
    have o := hl q hq'
    rw [clA_at hq'] at o
    exact ⟨gt, ot, _, _, rfl, cell 0 _ (by omega) (by rw [ht]; rfl), cell 1 _ (by omega) (by rw [ht]; rfl), cell 2 _ (by omega) (by rw [ht]; rfl), cell 3 _ (by omega) (by rw [ht]; rfl), cell 4 _ (by omega) (by rw [ht]; rfl), cell 5 _ (by omega) (by rw [ht]; rfl), cell 6 _ (by omega) (by rw [ht]; rfl), cell 7 _ (by omega) (by rw [ht]; rfl), o.1, o.2⟩
set_option maxRecDepth 100000 in
set_option maxHeartbeats 4000000 in
theorem specLoad_any (h : Hp) (j : Nat) (hj : j < h.calls.length) (n : Nat) (hn : 1 ≤ n) (w : World) (gw : Nat) (vq vo vs : Value) (c born code : Int) (gp op cp gt ot ct C D S : Nat) (xf : Value) (L0 : List Value)
    (hbw : Bx w gw 69 [vq, .int .i64 c, .slice (some ⟨gp, op, none⟩) n cp, vo, .int .i64 0, .slice (some ⟨gt, ot, none⟩) h.calls.length ct, .int .i64 born, vs, .int .i64 code])
    (hrow : CRow C 2 w (.slice (some ⟨gp, op, none⟩) n cp) n (rowV (xf :: L0))) (hL0 : ∀ x ∈ L0, ∃ g, x = .slice (some ⟨g, 0, none⟩) 0 0) (hlen : (xf :: L0).length = n * 1) (htw : TwS D C S w (.slice (some ⟨gt, ot, none⟩) h.calls.length ct) h h.calls.length) (hgpS : gp < S) (hn4 : n ≤ 1000) (hwp : gw ≠ gp) (_ : gw ≠ gt) (_ : D ≤ S) (_ : C ≤ S) (E0 : Nat) (hEC : E0 ≤ C) (hED : E0 ≤ D) :
    Calls Tryz.prog 23 #[.pointer (some ⟨gw, 0, none⟩), .int .i64 (j : Int), .int .i64 0] w fun e w' => e = .returned (.tuple #[]) ∧ Below E0 w w' ∧ w.heap.size ≤ w'.heap.size ∧ (∀ g, g ≠ gp → g ≠ gt → g < w.heap.size → w'.heap[g]? = w.heap[g]?) ∧
      ∀ B, B ≤ C → B ≤ D → From B w' (fun z => PagesAt z (.slice (some ⟨gp, op, none⟩) n cp) (⟨h.calls[j].sender, [⟨h.calls[j].m, h.calls[j].pc, (j : Int), h.calls[j].temps, h.calls[j].stack⟩]⟩ :: List.replicate (n - 1) pgE) ∧ TwinsAt z (.slice (some ⟨gt, ot, none⟩) h.calls.length ct) ((h.calls.map twC).set j twGone)) := by
  obtain ⟨VT, VS, hT, hTo, hTl⟩ := htw
  obtain ⟨TL, hTL⟩ : ∃ TL, (List.range h.calls.length).flatMap (twRow h VT VS) = TL := ⟨_, rfl⟩
  have hcell : ∀ i, i < 8 → TL[j * 8 + i]? = (twRow h VT VS j)[i]? := fun i hi => by rw [← hTL]; exact flatM_at (f := twRow h VT VS) (sz := 8) (fun i => rfl) h.calls.length j i hj hi
  have HTL : Hid ((List.range h.calls.length).flatMap (twRow h VT VS) = TL) := hTL
  rw [hTL] at hT
  have hgpC := hrow.lt gp rfl
  have hgtD := hT.lt gt rfl
  have hgne : gp ≠ gt := by have := hTo gt rfl; omega
  obtain ⟨o1, o2, _, _⟩ := hTl j hj
  rw [clA_at hj] at o1 o2
  have hto : twRow h VT VS j = [.int .i64 (-1), .int .i64 0, .int .i64 h.calls[j].m, .int .i64 h.calls[j].pc, VT j, VS j, .int .i64 h.calls[j].sender, .bool h.calls[j].dead] := by unfold twRow; simp [hj]
  obtain ⟨a1, k1, hv1, _⟩ := o1.slice
  obtain ⟨a2, k2, hv2, _⟩ := o2.slice
  have HV : Hid (VT j = .slice a1 h.calls[j].temps.length k1 ∧ VS j = .slice a2 h.calls[j].stack.length k2) := ⟨hv1, hv2⟩
  rw [hv1, hv2] at hto
  obtain ⟨Q, hQ⟩ : ∃ Q, h.calls[j] = Q := ⟨_, rfl⟩
  have HQ : Hid (h.calls[j] = Q) := hQ
  rw [hQ] at hto o1 o2
  have HTS : Hid (∀ i, i < h.calls.length → PairRow S w (VT i) (clA h i).temps ∧ PairRow S w (VS i) (clA h i).stack ∧ (∀ g, (VT i).ownBlock = some g → (Value.slice (some ⟨gt, ot, none⟩) h.calls.length ct).ownBlock ≠ some g) ∧ ∀ g, (VS i).ownBlock = some g → (Value.slice (some ⟨gt, ot, none⟩) h.calls.length ct).ownBlock ≠ some g) := hTl
  have q2 := (hT.cell (j := j * 8 + 2) ((hcell 2 (by omega)).trans (by rw [hto]; rfl))).1
  have q3 := (hT.cell (j := j * 8 + 3) ((hcell 3 (by omega)).trans (by rw [hto]; rfl))).1
  have q4 := (hT.cell (j := j * 8 + 4) ((hcell 4 (by omega)).trans (by rw [hto]; rfl))).1
  have q5 := (hT.cell (j := j * 8 + 5) ((hcell 5 (by omega)).trans (by rw [hto]; rfl))).1
  have q6 := (hT.cell (j := j * 8 + 6) ((hcell 6 (by omega)).trans (by rw [hto]; rfl))).1
  have q7 := (hT.cell (j := j * 8 + 7) ((hcell 7 (by omega)).trans (by rw [hto]; rfl))).1
  rw [← Nat.add_assoc] at q2 q3 q4 q5 q6 q7
  have hcell' : ∀ i, i < 8 → TL[j * 8 + i]? = some ((twRow h VT VS j).getD i undef) := fun i hi => by
    rw [hcell i hi, hto]
    match i, hi with
    | 0, _ => rfl
    | 1, _ => rfl
    | 2, _ => rfl
    | 3, _ => rfl
    | 4, _ => rfl
    | 5, _ => rfl
    | 6, _ => rfl
    | 7, _ => rfl
  clear hcell
  have hcell := hcell'
  clear hcell'
  have HTO : Hid (twRow h VT VS j = [.int .i64 (-1), .int .i64 0, .int .i64 Q.m, .int .i64 Q.pc, .slice a1 Q.temps.length k1, .slice a2 Q.stack.length k2, .int .i64 Q.sender, .bool Q.dead]) := hto
  obtain ⟨nt, hnt⟩ : ∃ q, h.calls.length = q := ⟨_, rfl⟩
  have HNT : Hid (h.calls.length = nt) := hnt
  have hjz : (j : Int) < (nt : Int) := by omega
  rw [hnt] at hbw hT
  have b5 := hbw.cell 5 rfl
  have hgwl := hbw.lt
  have r01 := rowV_0 xf L0
  have hr0 := r01.1
  have hr1 := r01.2
  clear hto hv1 hv2 hQ hTL hTl r01 hnt
  obtain ⟨wI, hwI⟩ : ∃ wI, wI = w := ⟨_, rfl⟩
  subst hwI
  go_enter Tryz.func23, Tryz.ntmps23
  go_upto_region 1 with fail
  refine wp_gen (fun W => Below wI.heap.size wI W ∧ Bx W wI.heap.size 63 [.int .i64 Q.m, .int .i64 Q.pc, .slice a1 Q.temps.length k1, .slice a2 Q.stack.length k2, .int .i64 Q.sender, .bool Q.dead]) ⟨(Below.refl _ _).alloc (Nat.le_refl _) _, Bx.new _ _ _⟩ ?_
  rintro W2 ⟨t2, x2⟩
  have z2 := t2.size
  have hrow2 := hrow.below t2
  have hbw2 := hbw.below t2
  have b2 := hbw2.cell 2 rfl
  have n0 := x2.cell 0 rfl
  have n1 := x2.cell 1 rfl
  have n2 := x2.cell 2 rfl
  have n3 := x2.cell 3 rfl
  have n4 := x2.cell 4 rfl
  clear b5 q2 q3 q4 q5 q6 q7
  refine wp_region_fu [[], [0], [0, 1], [0, 1, 2], [0, 1, 2, 3], [], [], [6], [], [8], [], [10], [], [], [13], [], [15], [8, 9, 10, 11, 12, 13, 14, 15, 16], [8, 9, 10, 11, 12, 13, 14, 15, 16, 17], [6, 7, 8, 9, 10, 11, 12, 13, 14, 15, 16, 17, 18], [0, 1, 2, 3, 4, 5, 6, 7, 8, 9, 10, 11, 12, 13, 14, 15, 16, 17, 18, 19], [0, 1, 2, 3, 4, 5, 6, 7, 8, 9, 10, 11, 12, 13, 14, 15, 16, 17, 18, 19, 20]] [[0], [1], [2], [3], [4], [5], [6], [7], [8], [9], [10], [11], [12], [13], [14], [15], [16], [17], [18], [18, 19], [], []] [[], [], [], [], [], [], [], [], [], [], [], [], [], [], [], [], [], [], [], [], [], []] [fIs (.pointer (some ⟨gw, 0, none⟩)), fIs (.pointer (some ⟨gw, 0, none⟩)), fIs (.pointer (some ⟨gw, 1, none⟩)), fIs (.pointer (some ⟨gw, 2, none⟩)), fIs (.slice (some ⟨gp, op, none⟩) n cp), fIs (.int .i64 0), fIs (.pointer (some ⟨wI.heap.size, 4, none⟩)), fIs (.int .i64 Q.sender), fIs (.pointer (some ⟨wI.heap.size, 0, none⟩)), fIs (.int .i64 Q.m), fIs (.pointer (some ⟨wI.heap.size, 1, none⟩)), fIs (.int .i64 Q.pc), fIs (.int .i64 (j : Int)), fIs (.pointer (some ⟨wI.heap.size, 2, none⟩)), fIs (.slice a1 Q.temps.length k1), fIs (.pointer (some ⟨wI.heap.size, 3, none⟩)), fIs (.slice a2 Q.stack.length k2), fIs (.agg #[.int .i64 Q.m, .int .i64 Q.pc, .int .i64 (j : Int), .slice a1 Q.temps.length k1, .slice a2 Q.stack.length k2]), fGh 18 (fun (x : Nat) l => l = [.slice (some ⟨x, 0, none⟩) 1 1]) (fun x w1 => Bx w1 x 105 [.int .i64 Q.m, .int .i64 Q.pc, .int .i64 (j : Int), .slice a1 Q.temps.length k1, .slice a2 Q.stack.length k2] ∧ W2.heap.size ≤ x), fOf fun l => ∃ x : Nat, l = [.slice (some ⟨x, 0, none⟩) 1 1, .agg #[.int .i64 Q.sender, .slice (some ⟨x, 0, none⟩) 1 1]], fOf fun _ => True, fOf fun _ => True] 20 1 rfl (by kernel_rfl) (by kernel_rfl) (by kernel_rfl) (by kernel_rfl) ?_ ?_
  · refine all_lt_succ (all_lt_succ (all_lt_succ (all_lt_succ (all_lt_succ (all_lt_succ (all_lt_succ (all_lt_succ (all_lt_succ (all_lt_succ (all_lt_succ (all_lt_succ (all_lt_succ (all_lt_succ (all_lt_succ (all_lt_succ (all_lt_succ (all_lt_succ (all_lt_succ (all_lt_succ (all_lt_zero) ?_) ?_) ?_) ?_) ?_) ?_) ?_) ?_) ?_) ?_) ?_) ?_) ?_) ?_) ?_) ?_) ?_) ?_) ?_) ?_
    · intro a wS val own hB hf hown hk
      have s0 := hf.at (d := 0) (v := .pointer (some ⟨gw, 0, none⟩)) (by kernel_rfl) rfl
      exact rf_pure (v := .pointer (some ⟨gw, 0, none⟩)) hB rfl rfl (by unfold execOp; go_simp) rfl
    · intro a wS val own hB hf hown hk
      obtain ⟨k0, f0⟩ := hk 0 (show 0 ∈ [0] by decide)
      have s16 := k0 16 rfl
      rw [fIs_out f0] at s16
      clear k0 f0
      exact rf_pure (v := .pointer (some ⟨gw, 0, none⟩)) hB rfl rfl (by unfold execOp; go_simp) rfl
    · intro a wS val own hB hf hown hk
      obtain ⟨k1, f1⟩ := hk 1 (show 1 ∈ [0, 1] by decide)
      have s17 := k1 17 rfl
      rw [fIs_out f1] at s17
      clear k1 f1
      exact rf_pure (v := .pointer (some ⟨gw, 1, none⟩)) hB rfl rfl (by unfold execOp; go_simp) rfl
    · intro a wS val own hB hf hown hk
      obtain ⟨k2, f2⟩ := hk 2 (show 2 ∈ [0, 1, 2] by decide)
      have s18 := k2 18 rfl
      rw [fIs_out f2] at s18
      clear k2 f2
      exact rf_pure (v := .pointer (some ⟨gw, 2, none⟩)) hB rfl rfl (by unfold execOp; go_simp) rfl
    · intro a wS val own hB hf hown hk
      obtain ⟨k3, f3⟩ := hk 3 (show 3 ∈ [0, 1, 2, 3] by decide)
      have s19 := k3 19 rfl
      rw [fIs_out f3] at s19
      clear k3 f3
      have cb2 := cell_below hB b2
      exact rf_pure (v := .slice (some ⟨gp, op, none⟩) n cp) hB rfl rfl (by unfold execOp; go_simp) rfl
    · intro a wS val own hB hf hown hk
      have s2 := hf.at (d := 2) (v := .int .i64 0) (by kernel_rfl) rfl
      exact rf_pure (v := .int .i64 0) hB rfl rfl (by unfold execOp; go_simp) rfl
    · intro a wS val own hB hf hown hk
      have s6 := hf.at (d := 6) (v := .pointer (some ⟨wI.heap.size, 0, none⟩)) (by kernel_rfl) rfl
      exact rf_pure (v := .pointer (some ⟨wI.heap.size, 4, none⟩)) hB rfl rfl (by unfold execOp; go_simp) rfl
    · intro a wS val own hB hf hown hk
      obtain ⟨k6, f6⟩ := hk 6 (show 6 ∈ [6] by decide)
      have s22 := k6 22 rfl
      rw [fIs_out f6] at s22
      clear k6 f6
      have cn4 := cell_below hB n4
      exact rf_pure (v := .int .i64 Q.sender) hB rfl rfl (by unfold execOp; go_simp) rfl
    · intro a wS val own hB hf hown hk
      have s6 := hf.at (d := 6) (v := .pointer (some ⟨wI.heap.size, 0, none⟩)) (by kernel_rfl) rfl
      exact rf_pure (v := .pointer (some ⟨wI.heap.size, 0, none⟩)) hB rfl rfl (by unfold execOp; go_simp) rfl
    · intro a wS val own hB hf hown hk
      obtain ⟨k8, f8⟩ := hk 8 (show 8 ∈ [8] by decide)
      have s24 := k8 24 rfl
      rw [fIs_out f8] at s24
      clear k8 f8
      have cn0 := cell_below hB n0
      exact rf_pure (v := .int .i64 Q.m) hB rfl rfl (by unfold execOp; go_simp) rfl
    · intro a wS val own hB hf hown hk
      have s6 := hf.at (d := 6) (v := .pointer (some ⟨wI.heap.size, 0, none⟩)) (by kernel_rfl) rfl
      exact rf_pure (v := .pointer (some ⟨wI.heap.size, 1, none⟩)) hB rfl rfl (by unfold execOp; go_simp) rfl
    · intro a wS val own hB hf hown hk
      obtain ⟨k10, f10⟩ := hk 10 (show 10 ∈ [10] by decide)
      have s26 := k10 26 rfl
      rw [fIs_out f10] at s26
      clear k10 f10
      have cn1 := cell_below hB n1
      exact rf_pure (v := .int .i64 Q.pc) hB rfl rfl (by unfold execOp; go_simp) rfl
    · intro a wS val own hB hf hown hk
      have s1 := hf.at (d := 1) (v := .int .i64 (j : Int)) (by kernel_rfl) rfl
      exact rf_pure (v := .int .i64 (j : Int)) hB rfl rfl (by unfold execOp; go_simp) rfl
    · intro a wS val own hB hf hown hk
      have s6 := hf.at (d := 6) (v := .pointer (some ⟨wI.heap.size, 0, none⟩)) (by kernel_rfl) rfl
      exact rf_pure (v := .pointer (some ⟨wI.heap.size, 2, none⟩)) hB rfl rfl (by unfold execOp; go_simp) rfl
    · intro a wS val own hB hf hown hk
      obtain ⟨k13, f13⟩ := hk 13 (show 13 ∈ [13] by decide)
      have s29 := k13 29 rfl
      rw [fIs_out f13] at s29
      clear k13 f13
      have cn2 := cell_below hB n2
      exact rf_pure (v := .slice a1 Q.temps.length k1) hB rfl rfl (by unfold execOp; go_simp) rfl
    · intro a wS val own hB hf hown hk
      have s6 := hf.at (d := 6) (v := .pointer (some ⟨wI.heap.size, 0, none⟩)) (by kernel_rfl) rfl
      exact rf_pure (v := .pointer (some ⟨wI.heap.size, 3, none⟩)) hB rfl rfl (by unfold execOp; go_simp) rfl
    · intro a wS val own hB hf hown hk
      obtain ⟨k15, f15⟩ := hk 15 (show 15 ∈ [15] by decide)
      have s31 := k15 31 rfl
      rw [fIs_out f15] at s31
      clear k15 f15
      have cn3 := cell_below hB n3
      exact rf_pure (v := .slice a2 Q.stack.length k2) hB rfl rfl (by unfold execOp; go_simp) rfl
    · intro a wS val own hB hf hown hk
      obtain ⟨k9, f9⟩ := hk 9 (show 9 ∈ [8, 9, 10, 11, 12, 13, 14, 15, 16] by decide)
      have s25 := k9 25 rfl
      rw [fIs_out f9] at s25
      clear k9 f9
      obtain ⟨k11, f11⟩ := hk 11 (show 11 ∈ [8, 9, 10, 11, 12, 13, 14, 15, 16] by decide)
      have s27 := k11 27 rfl
      rw [fIs_out f11] at s27
      clear k11 f11
      obtain ⟨k12, f12⟩ := hk 12 (show 12 ∈ [8, 9, 10, 11, 12, 13, 14, 15, 16] by decide)
      have s28 := k12 28 rfl
      rw [fIs_out f12] at s28
      clear k12 f12
      obtain ⟨k14, f14⟩ := hk 14 (show 14 ∈ [8, 9, 10, 11, 12, 13, 14, 15, 16] by decide)
      have s30 := k14 30 rfl
      rw [fIs_out f14] at s30
      clear k14 f14
      obtain ⟨k16, f16⟩ := hk 16 (show 16 ∈ [8, 9, 10, 11, 12, 13, 14, 15, 16] by decide)
      have s32 := k16 32 rfl
      rw [fIs_out f16] at s32
      clear k16 f16
      exact rf_pure (v := .agg #[.int .i64 Q.m, .int .i64 Q.pc, .int .i64 (j : Int), .slice a1 Q.temps.length k1, .slice a2 Q.stack.length k2]) hB rfl rfl (by unfold execOp; go_simp) rfl
    · intro a wS val own hB hf hown hk
      obtain ⟨k17, f17⟩ := hk 17 (show 17 ∈ [8, 9, 10, 11, 12, 13, 14, 15, 16, 17] by decide)
      have s33 := k17 33 rfl
      rw [fIs_out f17] at s33
      clear k17 f17
      have hzB := hB.size
      refine rf_new (v := .slice (some ⟨wS.heap.size, 0, none⟩) 1 1) (w' := wS.alloc (.cells #[.int .i64 Q.m, .int .i64 Q.pc, .int .i64 (j : Int), .slice a1 Q.temps.length k1, .slice a2 Q.stack.length k2] 105)) hB rfl rfl (by unfold execOp; go_simp) ((Below.refl _ _).alloc (Nat.le_refl _) _) ⟨wS.heap.size, rfl, Made.new fun w1 _ _ hr => ⟨?_, hzB⟩⟩
      exact (Bx.new wS 105 [.int .i64 Q.m, .int .i64 Q.pc, .int .i64 (j : Int), .slice a1 Q.temps.length k1, .slice a2 Q.stack.length k2]).kept (hr _ (Nat.le_refl _) (by simp))
    · intro a wS val own hB hf hown hk
      obtain ⟨k7, f7⟩ := hk 7 (show 7 ∈ [6, 7, 8, 9, 10, 11, 12, 13, 14, 15, 16, 17, 18] by decide)
      have s23 := k7 23 rfl
      rw [fIs_out f7] at s23
      clear k7 f7
      obtain ⟨kc, xc, ec, mc⟩ := hk 18 (show 18 ∈ [6, 7, 8, 9, 10, 11, 12, 13, 14, 15, 16, 17, 18] by decide)
      have vc := one_eq ec
      have s34 := kc 34 rfl
      rw [vc] at s34
      clear kc ec mc
      exact rf_pure (v := .agg #[.int .i64 Q.sender, .slice (some ⟨xc, 0, none⟩) 1 1]) hB rfl rfl (by unfold execOp; go_simp) ⟨xc, by show [val 18, _] = _; rw [vc]; rfl⟩
  intro aE w10 val own hB hf hown hk
  obtain ⟨kc, gF, ec, mc⟩ := hk 18 (by decide)
  have vc := one_eq ec
  obtain ⟨bF, hgF⟩ := mc.here hB
  clear kc ec mc
  obtain ⟨kd, xd, ed⟩ := hk 19 (by decide)
  have ed' : [val 18, val 19] = _ := ed
  injection ed' with ed1 ed2
  have vd := one_eq ed2
  rw [vc] at ed1
  have s35 := kd 35 rfl
  rw [vd] at s35
  clear kd ed ed2 vd vc
  have hxx : xd = gF := by injection ed1 with ed1; injection ed1 with ed1; injection ed1 with ed1; exact ed1.symm
  subst hxx
  clear ed1
  obtain ⟨kq, fq⟩ := hk 4 (by decide)
  have s20 := kq 20 rfl
  rw [fIs_out fq] at s20
  clear kq fq
  obtain ⟨kq, fq⟩ := hk 5 (by decide)
  have s21 := kq 21 rfl
  rw [fIs_out fq] at s21
  clear kq fq
  have hB0 : Below W2.heap.size W2 w10 := hB
  have hz0' := hB0.size
  have hrow10 := hrow2.below hB0
  have hbF := bF.lt
  obtain ⟨p0, f0⟩ := hrow10.cell (j := 0) (hr0)
  obtain ⟨p1, f1⟩ := hrow10.cell (j := 1) (hr1)
  rw [Nat.add_zero] at p0 f0
  have HE : Hid (CRow C 2 ((w10.setCell ⟨gp, op, none⟩ (.int .i64 Q.sender)).setCell ⟨gp, op + 1, none⟩ (.slice (some ⟨xd, 0, none⟩) 1 1)) (.slice (some ⟨gp, op, none⟩) n cp) n (((rowV (xf :: L0)).set 0 (.int .i64 Q.sender)).set 1 (.slice (some ⟨xd, 0, none⟩) 1 1)) ∧ Bx ((w10.setCell ⟨gp, op, none⟩ (.int .i64 Q.sender)).setCell ⟨gp, op + 1, none⟩ (.slice (some ⟨xd, 0, none⟩) 1 1)) xd 105 [.int .i64 Q.m, .int .i64 Q.pc, .int .i64 (j : Int), .slice a1 Q.temps.length k1, .slice a2 Q.stack.length k2] ∧ W2.heap.size ≤ xd ∧ W2.heap.size ≤ ((w10.setCell ⟨gp, op, none⟩ (.int .i64 Q.sender)).setCell ⟨gp, op + 1, none⟩ (.slice (some ⟨xd, 0, none⟩) 1 1)).heap.size ∧ (∀ g, g ≠ gp → g < W2.heap.size → ((w10.setCell ⟨gp, op, none⟩ (.int .i64 Q.sender)).setCell ⟨gp, op + 1, none⟩ (.slice (some ⟨xd, 0, none⟩) 1 1)).heap[g]? = W2.heap[g]?) ∧ Below E0 W2 ((w10.setCell ⟨gp, op, none⟩ (.int .i64 Q.sender)).setCell ⟨gp, op + 1, none⟩ (.slice (some ⟨xd, 0, none⟩) 1 1))) :=
    ⟨((by have h9 := hrow10.set 0 (.int .i64 Q.sender); rw [Nat.add_zero] at h9; exact h9 : CRow C 2 (w10.setCell ⟨gp, op, none⟩ (.int .i64 Q.sender)) _ n _).set 1 (.slice (some ⟨xd, 0, none⟩) 1 1)), (bF.other (by omega) _).other (by omega) _, hgF, by simp only [World.size_setCell]; exact hz0', fun g h1 h2 => by rw [Below.heap_setCell _ _ _ _ (by show g ≠ gp; exact h1), Below.heap_setCell _ _ _ _ (by show g ≠ gp; exact h1)]; exact hB0.block g h2, ((hB0.mono (by omega)).setCell (p := ⟨gp, op, none⟩) (by show E0 ≤ gp; omega) _).setCell (p := ⟨gp, op + 1, none⟩) (by show E0 ≤ gp; omega) _⟩
  clear hrow10 bF hgF
  have hu := frame_sets hf [16, 17, 18, 19, 20, 21, 22, 23, 24, 25, 26, 27, 28, 29, 30, 31, 32, 33, 34, 35] (by kernel_rfl)
  dsimp only at hu
  simp only [List.foldl_cons, List.foldl_nil, List.setIfInBounds_toArray, List.set_cons_succ, List.set_cons_zero] at hu
  rw [s20, s21, s35] at hu
  generalize aE.tmps[16]?.getD undef = u16 at hu
  generalize aE.tmps[17]?.getD undef = u17 at hu
  generalize aE.tmps[18]?.getD undef = u18 at hu
  generalize aE.tmps[19]?.getD undef = u19 at hu
  generalize aE.tmps[22]?.getD undef = u22 at hu
  generalize aE.tmps[23]?.getD undef = u23 at hu
  generalize aE.tmps[24]?.getD undef = u24 at hu
  generalize aE.tmps[25]?.getD undef = u25 at hu
  generalize aE.tmps[26]?.getD undef = u26 at hu
  generalize aE.tmps[27]?.getD undef = u27 at hu
  generalize aE.tmps[28]?.getD undef = u28 at hu
  generalize aE.tmps[29]?.getD undef = u29 at hu
  generalize aE.tmps[30]?.getD undef = u30 at hu
  generalize aE.tmps[31]?.getD undef = u31 at hu
  generalize aE.tmps[32]?.getD undef = u32 at hu
  generalize aE.tmps[33]?.getD undef = u33 at hu
  generalize aE.tmps[34]?.getD undef = u34 at hu
  obtain rfl := act_eq hu (show aE.defers = [] from hf.defers)
  clear hu hk hown hf s20 s21 s35
  have hnz : (0 : Int) < (n : Int) := by omega
  have hn0 : ¬ n = 0 := by omega
  refine wpOp_val (v := .pointer (some ⟨gp, op, none⟩)) (w' := w10) rfl rfl (by unfold execOp; go_simp) ?_
  simp only [Act.put]
  refine wpOp_skip (w' := ((w10.setCell ⟨gp, op, none⟩ (.int .i64 Q.sender)).setCell ⟨gp, op + 1, none⟩ (.slice (some ⟨xd, 0, none⟩) 1 1))) rfl rfl (by unfold execOp; go_simp) ?_
  simp only [Act.put]
  clear hB p0 f0 p1 f1
  refine ex_gen (fun W => CRow C 2 W (.slice (some ⟨gp, op, none⟩) n cp) n (((rowV (xf :: L0)).set 0 (.int .i64 Q.sender)).set 1 (.slice (some ⟨xd, 0, none⟩) 1 1)) ∧ Bx W xd 105 [.int .i64 Q.m, .int .i64 Q.pc, .int .i64 (j : Int), .slice a1 Q.temps.length k1, .slice a2 Q.stack.length k2] ∧ W2.heap.size ≤ xd ∧ W2.heap.size ≤ W.heap.size ∧ (∀ g, g ≠ gp → g < W2.heap.size → W.heap[g]? = W2.heap[g]?) ∧ Below E0 W2 W) HE.out ?_
  rintro W4 ⟨R4, F4, hxd, z4, k4, B4⟩
  clear HE
  have hbw4 := hbw2.kept (k4 gw hwp (by omega))
  have b5 := hbw4.cell 5 rfl
  have R5 : CRow D 8 W4 (.slice (some ⟨gt, ot, none⟩) nt ct) nt TL := (hT.below t2).kept z4 fun g e => k4 g (by
    have h9 : gt = g := by injection e
    omega) (by
    have h9 : gt = g := by injection e
    omega)
  clear n0 n1 n2 n3 n4 b2
  obtain ⟨p0, f0⟩ := R5.cell (j := j * 8 + 0) (hcell 0 (by omega))
  obtain ⟨p1, f1⟩ := R5.cell (j := j * 8 + 1) (hcell 1 (by omega))
  obtain ⟨p2, f2⟩ := R5.cell (j := j * 8 + 2) (hcell 2 (by omega))
  obtain ⟨p3, f3⟩ := R5.cell (j := j * 8 + 3) (hcell 3 (by omega))
  obtain ⟨p4, f4⟩ := R5.cell (j := j * 8 + 4) (hcell 4 (by omega))
  obtain ⟨p5, f5⟩ := R5.cell (j := j * 8 + 5) (hcell 5 (by omega))
  obtain ⟨p6, f6⟩ := R5.cell (j := j * 8 + 6) (hcell 6 (by omega))
  obtain ⟨p7, f7⟩ := R5.cell (j := j * 8 + 7) (hcell 7 (by omega))
  rw [← Nat.add_assoc] at p0 p1 p2 p3 p4 p5 p6 p7 f0 f1 f2 f3 f4 f5 f6 f7
  rw [Nat.add_zero] at p0 f0
  have hgt4 : gt < W4.heap.size := by omega
  go_wp2
  refine bp_gen (fun W => CRow D 8 W (.slice (some ⟨gt, ot, none⟩) nt ct) nt (set8 TL (j * 8) (.int .i64 0) (.int .i64 0) (.int .i64 0) (.int .i64 0) (.slice (some ⟨W4.heap.size, 0, none⟩) 0 0) (.slice (some ⟨W4.heap.size + 1, 0, none⟩) 0 0) (.int .i64 0) (.bool false)) ∧ W4.heap.size ≤ W.heap.size ∧ (∀ g, g ≠ gt → g < W4.heap.size → W.heap[g]? = W4.heap[g]?) ∧ Below E0 W4 W) ?_ ?_
  · have hrw1 := R5.set (j * 8 + 0) (.int .i64 0)
    have hrw2 := hrw1.set (j * 8 + 1) (.int .i64 0)
    have hrw3 := hrw2.set (j * 8 + 2) (.int .i64 0)
    have hrw4 := hrw3.set (j * 8 + 3) (.int .i64 0)
    have hrw5 := hrw4.set (j * 8 + 4) (.slice (some ⟨W4.heap.size, 0, none⟩) 0 0)
    have hrw6 := hrw5.set (j * 8 + 5) (.slice (some ⟨W4.heap.size + 1, 0, none⟩) 0 0)
    have hrw7 := hrw6.set (j * 8 + 6) (.int .i64 0)
    have hrw8 := hrw7.set (j * 8 + 7) (.bool false)
    rw [← Nat.add_assoc, ← Nat.add_assoc, ← Nat.add_assoc, ← Nat.add_assoc, ← Nat.add_assoc, ← Nat.add_assoc, ← Nat.add_assoc, ← Nat.add_assoc, Nat.add_zero] at hrw8
    obtain ⟨X, hX⟩ : ∃ X, ((((((((W4.setCell ⟨gt, ot + j * 8, none⟩ (.int .i64 0)).setCell ⟨gt, ot + j * 8 + 1, none⟩ (.int .i64 0)).setCell ⟨gt, ot + j * 8 + 2, none⟩ (.int .i64 0)).setCell ⟨gt, ot + j * 8 + 3, none⟩ (.int .i64 0)).setCell ⟨gt, ot + j * 8 + 4, none⟩ (.slice (some ⟨W4.heap.size, 0, none⟩) 0 0)).setCell ⟨gt, ot + j * 8 + 5, none⟩ (.slice (some ⟨W4.heap.size + 1, 0, none⟩) 0 0)).setCell ⟨gt, ot + j * 8 + 6, none⟩ (.int .i64 0)).setCell ⟨gt, ot + j * 8 + 7, none⟩ (.bool false)) = X := ⟨_, rfl⟩
    have hXs : X.heap.size = W4.heap.size := by rw [← hX]; simp only [World.size_setCell]
    have hXb : ∀ g, g ≠ gt → X.heap[g]? = W4.heap[g]? := fun g h1 => by rw [← hX]; exact (Below.heap_setCell _ ⟨gt, ot + j * 8 + 7, none⟩ _ _ h1).trans ((Below.heap_setCell _ ⟨gt, ot + j * 8 + 6, none⟩ _ _ h1).trans ((Below.heap_setCell _ ⟨gt, ot + j * 8 + 5, none⟩ _ _ h1).trans ((Below.heap_setCell _ ⟨gt, ot + j * 8 + 4, none⟩ _ _ h1).trans ((Below.heap_setCell _ ⟨gt, ot + j * 8 + 3, none⟩ _ _ h1).trans ((Below.heap_setCell _ ⟨gt, ot + j * 8 + 2, none⟩ _ _ h1).trans ((Below.heap_setCell _ ⟨gt, ot + j * 8 + 1, none⟩ _ _ h1).trans (Below.heap_setCell _ ⟨gt, ot + j * 8, none⟩ _ _ h1)))))))
    have hXe : Below E0 W4 X := by rw [← hX]; exact ((((((((Below.refl _ _).setCell (p := ⟨gt, ot + j * 8, none⟩) (by show E0 ≤ gt; omega) _).setCell (p := ⟨gt, ot + j * 8 + 1, none⟩) (by show E0 ≤ gt; omega) _).setCell (p := ⟨gt, ot + j * 8 + 2, none⟩) (by show E0 ≤ gt; omega) _).setCell (p := ⟨gt, ot + j * 8 + 3, none⟩) (by show E0 ≤ gt; omega) _).setCell (p := ⟨gt, ot + j * 8 + 4, none⟩) (by show E0 ≤ gt; omega) _).setCell (p := ⟨gt, ot + j * 8 + 5, none⟩) (by show E0 ≤ gt; omega) _).setCell (p := ⟨gt, ot + j * 8 + 6, none⟩) (by show E0 ≤ gt; omega) _).setCell (p := ⟨gt, ot + j * 8 + 7, none⟩) (by show E0 ≤ gt; omega) _
    rw [hX] at hrw8 ⊢
    have N : Below X.heap.size X ((X.alloc (.cells #[] 82)).alloc (.cells #[] 82)) := ((Below.refl _ _).alloc (Nat.le_refl _) _).alloc (by simp) _
    exact ⟨hrw8.below N, by have := N.size; omega, fun g h1 h2 => (N.block g (by omega)).trans (hXb g h1), hXe.trans (N.mono (by omega))⟩
  rintro W6 ⟨R6, z6, k6, B6⟩
  have hkeep : ∀ g, g ≠ gp → g ≠ gt → g < wI.heap.size → W6.heap[g]? = wI.heap[g]? := fun g g1 g2 g3 => ((k6 g g2 (by omega)).trans (k4 g g1 (by omega))).trans (t2.block g g3)
  refine bodyPost_end (results_none rfl _ _ _) rfl ⟨rfl, ((t2.mono (by omega)).trans B4).trans B6, by omega, hkeep, fun B hBC hBD z hz hk => ?_⟩
  have hzI : wI.heap.size ≤ z.heap.size := by omega
  have hl : ∀ i, i < h.calls.length → OpsAt z (VT i) (clA h i).temps ∧ OpsAt z (VS i) (clA h i).stack := fun i hi => by
    obtain ⟨s1, s2, s3, s4⟩ := HTS.out i hi
    exact ⟨(s1.kept hzI fun g e => (hk g (by have := (s1.lt g e).1; omega) (by have := (s1.lt g e).2; omega)).trans (hkeep g (by have := (s1.lt g e).1; omega) (fun e2 => s3 g e (by rw [e2]; rfl)) (s1.lt g e).2)).at,
      (s2.kept hzI fun g e => (hk g (by have := (s2.lt g e).1; omega) (by have := (s2.lt g e).2; omega)).trans (hkeep g (by have := (s2.lt g e).1; omega) (fun e2 => s4 g e (by rw [e2]; rfl)) (s2.lt g e).2)).at⟩
  have hgp6 : gp < W4.heap.size := by omega
  have Rp : CRow C 2 z (.slice (some ⟨gp, op, none⟩) n cp) n (((rowV (xf :: L0)).set 0 (.int .i64 Q.sender)).set 1 (.slice (some ⟨xd, 0, none⟩) 1 1)) := (R4.kept z6 fun g e => by
    have h9 : gp = g := by injection e
    subst h9
    exact k6 gp hgne hgp6).kept hz fun g e => by
    have h9 : gp = g := by injection e
    subst h9
    exact hk gp (by omega) (by omega)
  have Rt : CRow D 8 z (.slice (some ⟨gt, ot, none⟩) nt ct) nt (set8 TL (j * 8) (.int .i64 0) (.int .i64 0) (.int .i64 0) (.int .i64 0) (.slice (some ⟨W4.heap.size, 0, none⟩) 0 0) (.slice (some ⟨W4.heap.size + 1, 0, none⟩) 0 0) (.int .i64 0) (.bool false)) := R6.kept hz fun g e => by
    have h9 : gt = g := by injection e
    subst h9
    exact hk gt (by omega) (by omega)
  have hxd4 := F4.lt
  have Fz : Bx z xd 105 [.int .i64 Q.m, .int .i64 Q.pc, .int .i64 (j : Int), .slice a1 Q.temps.length k1, .slice a2 Q.stack.length k2] := (F4.kept (k6 xd (by omega) hxd4)).kept (hk xd (by omega) (by omega))
  have hlj := hl j hj
  rw [clA_at hj, HV.out.1, HV.out.2, HQ.out] at hlj
  rw [HQ.out]
  refine ⟨pages_load Rp hL0 hlen hn4 Fz hlj, ?_⟩
  have hTC := twins_load (h := h) (j := j) hj HNT.out (TL := TL) HTL.out Rt hl
  exact hTC
end Go.Proofs.YtmifhlkcceafkaaGreat
