/-
  Rows of values of their own: values are appended to them; l11None and l11Call of the model.
-/
import Derived.Test.YtlpbklgkafjfmaaGreatDoorProg
import Derived.Test.YtlpbklgkafjfmaaGreatDoorCRow
import Derived.Test.YtlpbklgkafjfmaaGreatDoorHCopy

namespace Go.Proofs.YtlpbklgkafjfmaaGreatDoor
open Go.RowKit
def pcells (ops : List (Int × Int)) : List Value := ops.flatMap fun o => [.int .i64 o.1, .int .i64 o.2]
theorem pcells_append (a b : List (Int × Int)) : pcells (a ++ b) = pcells a ++ pcells b := by simp [pcells]
theorem pcells_length (a : List (Int × Int)) : (pcells a).length = a.length * 2 := by
  induction a with
  | nil => rfl
  | cons x l ih => simp [pcells] at ih ⊢; omega
theorem pcells_at (a : List (Int × Int)) : ∀ (i : Nat) (h : i < a.length), (pcells a)[i * 2]? = some (.int .i64 a[i].1) ∧ (pcells a)[i * 2 + 1]? = some (.int .i64 a[i].2) := by
  induction a with
  | nil => intro i h; exact absurd h (Nat.not_lt_zero _)
  | cons x l ih =>
    intro i h
    cases i with
    | zero => exact ⟨rfl, rfl⟩
    | succ i =>
      have := ih i (by simpa using h)
      rw [show (i + 1) * 2 = i * 2 + 2 by omega]
      exact this
theorem pcells_one (M : List (Int × Int)) : ∀ u ∈ pcells M, u.oneCell' = true := by
  intro u hu
  simp only [pcells, List.mem_flatMap] at hu
  obtain ⟨x, _, hx⟩ := hu
  simp at hx
  rcases hx with rfl | rfl <;> rfl
theorem PairRow.crow {B : Nat} {w : World} {v : Value} {ops : List (Int × Int)} (h : PairRow B w v ops) : CRow B 2 w v ops.length (pcells ops) := by
  refine ⟨pcells_length ops, ?_⟩
  rcases h with ⟨rfl, rfl⟩ | ⟨g, off, cap, rfl, hB, hg, hl, hc, hsp, hx⟩
  · exact .inl ⟨rfl, rfl⟩
  · refine .inr ⟨g, off, cap, rfl, hB, hg, hl, hc, hsp, fun i hi => ?_⟩
    rw [pcells_length] at hi
    have h2 := pcells_at ops (i / 2) (by omega)
    have h3 := hx (i / 2) (by omega)
    rcases Nat.mod_two_eq_zero_or_one i with hm | hm
    · rw [show i / 2 * 2 = i by omega] at h2
      rw [show off + i / 2 * 2 = off + i by omega] at h3
      rw [h3.1, ← h2.1, List.getElem?_eq_getElem]
    · rw [show i / 2 * 2 + 1 = i by omega] at h2
      rw [show off + i / 2 * 2 + 1 = off + i by omega] at h3
      rw [h3.2, ← h2.2, List.getElem?_eq_getElem]
theorem CRow.pair {B : Nat} {w : World} {v : Value} {n : Nat} {ops : List (Int × Int)} (hn : n = ops.length) (h : CRow B 2 w v n (pcells ops)) : PairRow B w v ops := by
  subst hn
  rcases h.2 with ⟨rfl, e⟩ | ⟨g, off, cap, rfl, hB, hg, hl, hc, hsp, hx⟩
  · exact .inl ⟨rfl, List.eq_nil_of_length_eq_zero e⟩
  · refine .inr ⟨g, off, cap, rfl, hB, hg, hl, hc, hsp, fun i hi => ?_⟩
    have h2 := pcells_at ops i hi
    have hp := pcells_length ops
    have h3 := hx (i * 2) (by omega)
    have h4 := hx (i * 2 + 1) (by omega)
    rw [← Nat.add_assoc] at h4
    rw [h3, h4, ← List.getElem?_eq_getElem, ← List.getElem?_eq_getElem, h2.1, h2.2]
    exact ⟨rfl, rfl⟩
theorem src_vals {P : Program} {tx e' : TypeId} (hk : P.underlying tx = some (.slice e')) {w : World} {v : Value} {ops : List (Int × Int)} (h : OpsAt w v ops) : Src P 2 tx v ops.length (pcells ops) w := by
  obtain ⟨a, cap, rfl, hl, hc⟩ := h
  cases a with
  | none =>
    cases ops with
    | nil => exact Src.ofNil w hk cap
    | cons x l =>
      obtain ⟨b, o, e, _⟩ := hc 0 (by simp)
      cases e
  | some ad =>
    refine Src.ofSlice w hk ad _ cap _ (pcells_length _) (fun j u hu => ?_) (pcells_one _)
    have hj : j < (pcells ops).length := by
      by_cases h : j < (pcells ops).length
      · exact h
      · rw [List.getElem?_eq_none (by omega)] at hu; cases hu
    rw [pcells_length] at hj
    obtain ⟨b, o, e, h0, h1⟩ := hc (j / 2) (by omega)
    obtain rfl : ad = ⟨b, o, none⟩ := by injection e
    rw [Addr.add_lit]
    have h2 := pcells_at ops (j / 2) (by omega)
    rcases Nat.mod_two_eq_zero_or_one j with hm | hm
    · rw [show o + j / 2 * 2 = o + j by omega] at h0
      rw [show j / 2 * 2 = j by omega] at h2
      rw [h0, ← h2.1]; exact hu
    · rw [show o + j / 2 * 2 + 1 = o + j by omega] at h1
      rw [show j / 2 * 2 + 1 = j by omega] at h2
      rw [h1, ← h2.2]; exact hu
theorem run_append_vals {ty : TypeId} {B : Nat} {w : World} {v xv : Value} {L M : List (Int × Int)} (hown : PairRow B w v L) (hM : OpsAt w xv M) (hL : L.length + M.length ≤ 3000000) (hB : B ≤ w.heap.size) :
    ∃ v' w', (Builtin.append_ #[27, 27] ty #[v, xv]).run Tryz.prog w = .ok v' w' ∧ PairRow B w' v' (L ++ M) ∧ w.grownBy w' v.ownBlock ∧ (v'.ownBlock = v.ownBlock ∨ v'.ownBlock = some w.heap.size) := by
  obtain ⟨i0, hi, hz0, hz1, hz2⟩ := info_parts Tryz.infoVal
  have h1 := hown.crow
  have h2 := src_vals (P := Tryz.prog) Tryz.underlying27 hM
  rw [← hz1] at h1 h2
  obtain ⟨v', w', hr, hc, hg, hb⟩ := run_append_rows (P := Tryz.prog) (ty := ty) Tryz.underlying27 hi hz0 (by rw [hz1]; rfl) (by rw [hz2]; omega) h1 xv M.length (pcells M) h2 hL hB
  refine ⟨v', w', hr, ?_, hg, hb⟩
  rw [hz1, ← pcells_append] at hc
  exact hc.pair (by simp)
theorem append_vals {ops : Array Oper} {rest : List Oper} {o : Oper} {act : Act} {Q : Exit → Act → World → Prop} (w : World) (hgd : o.guard = none) (s x : Operand)
    (ho : o.op = .call { callee := .builtin .append, args := #[s, x], argTypes := #[27, 27] }) (B : Nat) (v xv : Value) (L M : List (Int × Int)) (hs : act.eval s = v) (hx : act.eval x = xv) (hown : PairRow B w v L) (hM : OpsAt w xv M)
    (hL : L.length + M.length ≤ 3000000) (hB : B ≤ w.heap.size)
    (h : ∀ v' w', PairRow B w' v' (L ++ M) → w.grownBy w' v.ownBlock → (v'.ownBlock = v.ownBlock ∨ v'.ownBlock = some w.heap.size) → wpList Tryz.prog ops Q rest (act.put o.dst v') w') :
    wpList Tryz.prog ops Q (o :: rest) act w := by
  obtain ⟨v', w', hr, h2, h3, h4⟩ := run_append_vals (ty := o.type) hown hM hL hB
  refine wpList_plain hgd fun K hK => ?_
  unfold Oper.wp execOp
  simp only [ho, resolve, invoke, builtin, Sem.run_bind, Sem.run_pure, Result.andThen_ok, List.map_toArray, List.map_cons, List.map_nil, hs, hx, hr]
  exact hK _ _ (h v' w' h2 h3 h4)
theorem step_vals {ops : Array Oper} {o : Oper} {act : Act} {K : Act → World → Prop} {Q : Exit → Act → World → Prop} {E : Prop} (w : World) (hgd : o.guard = none) (s x : Operand)
    (ho : o.op = .call { callee := .builtin .append, args := #[s, x], argTypes := #[27, 27] }) (B : Nat) (v xv : Value) (L M : List (Int × Int)) (hs : act.eval s = v) (hx : act.eval x = xv) (hown : PairRow B w v L) (hM : OpsAt w xv M)
    (hL : L.length + M.length ≤ 3000000) (hB : B ≤ w.heap.size)
    (h : ∀ v' w', PairRow B w' v' (L ++ M) → w.grownBy w' v.ownBlock → (v'.ownBlock = v.ownBlock ∨ v'.ownBlock = some w.heap.size) → K (act.put o.dst v') w') :
    if Region.wanted o (yielded ops act.tmps) = true then Oper.wp Tryz.prog o act w K Q else E := by
  obtain ⟨v', w', hr, h2, h3, h4⟩ := run_append_vals (ty := o.type) hown hM hL hB
  rw [if_pos (by simp [Region.wanted, hgd])]
  unfold Oper.wp execOp
  simp only [ho, resolve, invoke, builtin, Sem.run_bind, Sem.run_pure, Result.andThen_ok, List.map_toArray, List.map_cons, List.map_nil, hs, hx, hr]
  exact h v' w' h2 h3 h4
theorem PairRow.made {B : Nat} {w : World} {e : TypeId} (hB : B ≤ w.heap.size) : PairRow B (w.alloc (.cells #[] e)) (.slice (some ⟨w.heap.size, 0, none⟩) 0 0) [] := (CRow.made hB).pair rfl
theorem one_at (w : World) (k q : Int) (e : TypeId) (c : Nat) : OpsAt (w.alloc (.cells #[.int .i64 k, .int .i64 q] e)) (.slice (some ⟨w.heap.size, 0, none⟩) 1 c) [(k, q)] :=
  ⟨_, c, rfl, by unfold maxLen; simp, fun i hi => by
    obtain rfl : i = 0 := by simpa using hi
    exact ⟨w.heap.size, 0, rfl, by simp [go_sem], by simp [go_sem]⟩⟩
set_option maxRecDepth 100000 in
set_option maxHeartbeats 3000000 in
theorem l11None_any (n : Nat) (w : World) (hn : n ≤ 1000) :
    Calls Tryz.prog 56 #[.int .i64 (n : Int)] w fun e w' => ∃ v, e = .returned v ∧ PairRow w.heap.size w' v (List.replicate n (0, 0)) ∧ Below w.heap.size w w' := by
  have mk := PairRow.made (B := w.heap.size) (w := w) (e := 37) (Nat.le_refl _)
  have hA : Below w.heap.size w (w.alloc (.cells #[] 37)) := (Below.refl _ _).alloc (Nat.le_refl _) _
  go_enter Tryz.func56, Tryz.ntmps56
  go_wp2
  go_loopg [3, 4] n (fun g o i wr => ∃ k : Nat, k ≤ n ∧ g = n - k ∧ i = .int .i64 k ∧ PairRow w.heap.size wr o (List.replicate k (0, 0)) ∧ Below w.heap.size w wr)
  case atStart => exact ⟨0, Nat.zero_le _, rfl, rfl, mk, hA⟩
  case round =>
    obtain ⟨k, hk, rfl, rfl, hrow, hb⟩ := hrel
    have hbz := hb.size
    by_cases hlt : k < n
    · have hkz : (k : Int) < (n : Int) := by omega
      go_wp2_with (at_builtin; refine append_vals _ (by rfl) _ _ (by rfl) w.heap.size _ _ (List.replicate k (0, 0)) [(0, 0)] (by rfl) (by rfl) (hrow.below ((Below.refl _ _).alloc (Nat.le_refl _) _)) (one_at wr 0 0 _ _) (by simp; omega) (by simp; omega) ?_; intro v2 w2 hrow2 hg2 hb2)
      rw [← List.replicate_succ'] at hrow2
      have hb3 : Below w.heap.size w w2 := (hb.alloc hb.size _).grown hg2 (by simp; omega) (fun q e => (hrow.lt q e).1)
      clear hg2 hb2
      go_roundg (n - (k + 1))
      case measure => omega
      case rel => exact ⟨k + 1, by omega, rfl, by go_num, hrow2, hb3⟩
    · obtain rfl : k = n := by omega
      go_wp2
      go_ret
      exact ⟨_, rfl, hrow, hb⟩
set_option maxRecDepth 100000 in
set_option maxHeartbeats 3000000 in
theorem l11Call_any (vp va : Value) (ms : List (Int × Int × List (Int × Int))) (m : Nat) (args : List (Int × Int)) (sender : Int) (t : Nat) (w : World) (hp : MethsAt w vp ms) (hm : m < ms.length) (ht : ms[m].2.1 = (t : Int)) (ht4 : t ≤ 1000) (ha : OpsAt w va args) (hat : args.length ≤ t) :
    Calls Tryz.prog 40 #[.agg #[vp], .int .i64 (m : Int), va, .int .i64 sender] w fun e w' => ∃ vt vs, e = .returned (.agg (clCells vt vs ⟨m, 0, args ++ List.replicate (t - args.length) (0, 0), [], sender, false⟩)) ∧
      PairRow w.heap.size w' vt (args ++ List.replicate (t - args.length) (0, 0)) ∧ PairRow w.heap.size w' vs [] ∧ (∀ g, vt.ownBlock = some g → vs.ownBlock ≠ some g) ∧ Below w.heap.size w w' := by
  obtain ⟨ap, cp, rfl, hl, hc⟩ := id hp
  obtain ⟨aa, ca, hva⟩ := ha.shape
  subst hva
  obtain ⟨b, o, vo, hap, d0, d1, d2, _⟩ := hc m hm
  subst hap
  rw [ht] at d1
  unfold clCells
  have hl63 : ms.length ≤ 2 ^ 63 - 1 := hl
  have hA : Below w.heap.size w (((w.alloc (.cells #[.slice (some ⟨b, o, none⟩) ms.length cp] 25)).alloc (.cells #[.int .i64 0, .int .i64 0, .slice none 0 0, .slice none 0 0, .int .i64 0, .bool false] 48)).alloc (.cells #[] 37)) := (((Below.refl _ _).alloc (Nat.le_refl _) _).alloc (by simp) _).alloc (by simp; omega) _
  have mk := PairRow.made (B := w.heap.size) (w := (w.alloc (.cells #[.slice (some ⟨b, o, none⟩) ms.length cp] 25)).alloc (.cells #[.int .i64 0, .int .i64 0, .slice none 0 0, .slice none 0 0, .int .i64 0, .bool false] 48)) (e := 37) (by simp; omega)
  have bp : (((w.alloc (.cells #[.slice (some ⟨b, o, none⟩) ms.length cp] 25)).alloc (.cells #[.int .i64 0, .int .i64 0, .slice none 0 0, .slice none 0 0, .int .i64 0, .bool false] 48)).alloc (.cells #[] 37)).cell? ⟨w.heap.size, 0, none⟩ = some (.slice (some ⟨b, o, none⟩) ms.length cp) := by simp [go_sem]
  have bz := (six_new (w.alloc (.cells #[.slice (some ⟨b, o, none⟩) ms.length cp] 25)) 48 (.int .i64 0) (.int .i64 0) (.slice none 0 0) (.slice none 0 0) (.int .i64 0) (.bool false)).alloc (.cells #[] 37)
  simp only [World.size_alloc] at mk bz
  have hs3 : (((w.alloc (.cells #[.slice (some ⟨b, o, none⟩) ms.length cp] 25)).alloc (.cells #[.int .i64 0, .int .i64 0, .slice none 0 0, .slice none 0 0, .int .i64 0, .bool false] 48)).alloc (.cells #[] 37)).heap.size ≥ w.heap.size + 1 + 1 := by simp
  have haA := ha.below hA
  have d1A := cell_below hA d1
  have hw : IntKind.i64.wrap ((t : Int) - (args.length : Int)) = ((t - args.length : Nat) : Int) := by rw [IntKind.wrap_i64]; omega
  go_enter Tryz.func40, Tryz.ntmps40
  go_upto_region 2 with (at_builtin; refine append_vals _ (by rfl) _ _ (by rfl) w.heap.size _ _ [] args (by rfl) (by rfl) mk haA (by simp; omega) (by simp; omega) ?_; intro v2 w2 hrow2 hg2 hb2)
  generalize ((w.alloc (.cells #[.slice (some ⟨b, o, none⟩) ms.length cp] 25)).alloc (.cells #[.int .i64 0, .int .i64 0, .slice none 0 0, .slice none 0 0, .int .i64 0, .bool false] 48)).alloc (.cells #[] 37) = W3 at *
  have B2 : Below w.heap.size w w2 := hA.grown hg2 (by omega) (fun q e => (mk.lt q e).1)
  have hg2' : W3.grownBy w2 (some (w.heap.size + 1 + 1)) := hg2
  have bp2 : w2.cell? ⟨w.heap.size, 0, none⟩ = some (.slice (some ⟨b, o, none⟩) ms.length cp) := hg2'.cell bp (by simp; omega)
  have bz2 := bz.of_block (hg2'.block (w.heap.size + 1) bz.lt (by simp))
  have d12 := cell_below B2 d1
  rw [List.nil_append] at hrow2
  have z2 := B2.size
  have hbb : ∀ g, v2.ownBlock = some g → w.heap.size + 1 < g := fun g e => by
    rcases hb2 with h2 | h2
    · rw [h2] at e; simp [Value.ownBlock] at e; omega
    · rw [h2] at e; simp at e; omega
  clear hg2 hg2' hb2 bp bz mk haA d1A hA hs3 d0 d1 d2 hc
  go_wp2_with fail
  refine (l11None_any (t - args.length) _ (by omega)).mono ?_
  rintro e w3 ⟨v3, rfl, hrow3, hb3⟩
  have B3 : Below w.heap.size w w3 := B2.trans (hb3.mono z2)
  have z3 := B3.size
  have bz3 := row_below hb3 bz2
  have hrow23 := hrow2.below hb3
  have hbz : w.heap.size + 1 < w2.heap.size := bz2.lt
  have y3 := hb3.size
  clear bp2 bz2 d12 hrow2 hb3 B2
  have HW4 : ∀ (w4 : World), w3.grownBy w4 v2.ownBlock → ∀ e, (w4.alloc e).rowIs (w.heap.size + 1) 48 6 (six (.int .i64 0) (.int .i64 0) (.slice none 0 0) (.slice none 0 0) (.int .i64 0) (.bool false)) := fun w4 hg e => by
    have h1 := bz3.of_block (hg.block (w.heap.size + 1) bz3.lt (fun e => by have := hbb _ e.symm; omega))
    exact h1.alloc e
  go_wp2_with (at_builtin; refine append_vals _ (by rfl) _ _ (by rfl) w.heap.size _ _ args (List.replicate (t - args.length) (0, 0)) (by rfl) (by rfl) hrow23 hrow3.at (by simp; omega) (by omega) ?_; intro v4 w4 hrow4 hg4 hb4; obtain ⟨a4, c4, hv4, _⟩ := hrow4.slice; subst hv4; obtain ⟨⟨q0, q1, q2, q3, q4, q5⟩, k0, k1, k2, k3, k4, k5⟩ := six_cells (HW4 w4 hg4 (.cells #[] 37)))
  have hlen : (args ++ List.replicate (t - args.length) ((0 : Int), (0 : Int))).length = t := by simp; omega
  rw [hlen] at hrow4 hb4
  have hz4 := hg4.size
  have hne4 : (Value.slice a4 t c4).ownBlock ≠ some (w.heap.size + 1) := fun e => by
    rcases hb4 with h4 | h4
    · rw [h4] at e; have := hbb _ e; omega
    · rw [h4] at e; simp at e; omega
  have B4 : Below w.heap.size w w4 := B3.grown hg4 z3 (fun q e => (hrow23.lt q e).1)
  have R4 := HW4 w4 hg4 (.cells #[] 37)
  have P4 := hrow4.below ((Below.refl _ _).alloc (Nat.le_refl _) (.cells #[] 37))
  have M4 := PairRow.made (B := w.heap.size) (w := w4) (e := 37) (by omega)
  have hlt4 : ∀ g, (Value.slice a4 t c4).ownBlock = some g → g < w4.heap.size := fun g e => (hrow4.lt g e).2
  have B5 := B4.alloc B4.size (.cells #[] 37)
  have hneM : (Value.slice (some ⟨w4.heap.size, 0, none⟩) 0 0).ownBlock ≠ some (w.heap.size + 1) := fun e => by simp [Value.ownBlock] at e; omega
  clear hg4 hb4 hrow4 HW4 q0 q1 q2 q3 q4 q5 k0 k1 k2 k3 k4 k5
  generalize w4.alloc (.cells #[] 37) = w5 at *
  have R9 := six_set5 (six_set4 (six_set3 (six_set2 (six_set1 (six_set0 R4 (.int .i64 m)) (.int .i64 0)) (.slice a4 t c4)) (.slice (some ⟨w4.heap.size, 0, none⟩) 0 0)) (.int .i64 sender)) (.bool false)
  have P9 := (((((P4.set_other (p := ⟨w.heap.size + 1, 0, none⟩) (.int .i64 m) hne4).set_other (p := ⟨w.heap.size + 1, 1, none⟩) (.int .i64 0) hne4).set_other (p := ⟨w.heap.size + 1, 2, none⟩) (.slice a4 t c4) hne4).set_other (p := ⟨w.heap.size + 1, 3, none⟩) (.slice (some ⟨w4.heap.size, 0, none⟩) 0 0) hne4).set_other (p := ⟨w.heap.size + 1, 4, none⟩) (.int .i64 sender) hne4).set_other (p := ⟨w.heap.size + 1, 5, none⟩) (.bool false) hne4
  have M9 := (((((M4.set_other (p := ⟨w.heap.size + 1, 0, none⟩) (.int .i64 m) hneM).set_other (p := ⟨w.heap.size + 1, 1, none⟩) (.int .i64 0) hneM).set_other (p := ⟨w.heap.size + 1, 2, none⟩) (.slice a4 t c4) hneM).set_other (p := ⟨w.heap.size + 1, 3, none⟩) (.slice (some ⟨w4.heap.size, 0, none⟩) 0 0) hneM).set_other (p := ⟨w.heap.size + 1, 4, none⟩) (.int .i64 sender) hneM).set_other (p := ⟨w.heap.size + 1, 5, none⟩) (.bool false) hneM
  have B9 := (((((B5.setCell (p := ⟨w.heap.size + 1, 0, none⟩) (Nat.le_succ _) (.int .i64 m)).setCell (p := ⟨w.heap.size + 1, 1, none⟩) (Nat.le_succ _) (.int .i64 0)).setCell (p := ⟨w.heap.size + 1, 2, none⟩) (Nat.le_succ _) (.slice a4 t c4)).setCell (p := ⟨w.heap.size + 1, 3, none⟩) (Nat.le_succ _) (.slice (some ⟨w4.heap.size, 0, none⟩) 0 0)).setCell (p := ⟨w.heap.size + 1, 4, none⟩) (Nat.le_succ _) (.int .i64 sender)).setCell (p := ⟨w.heap.size + 1, 5, none⟩) (Nat.le_succ _) (.bool false)
  generalize (((((w5.setCell ⟨w.heap.size + 1, 0, none⟩ (.int .i64 m)).setCell ⟨w.heap.size + 1, 1, none⟩ (.int .i64 0)).setCell ⟨w.heap.size + 1, 2, none⟩ (.slice a4 t c4)).setCell ⟨w.heap.size + 1, 3, none⟩ (.slice (some ⟨w4.heap.size, 0, none⟩) 0 0)).setCell ⟨w.heap.size + 1, 4, none⟩ (.int .i64 sender)).setCell ⟨w.heap.size + 1, 5, none⟩ (.bool false) = W9 at *
  obtain ⟨⟨q0, q1, q2, q3, q4, q5⟩, _⟩ := six_cells R9
  exact bodyPost_ret (v := .agg #[.int .i64 m, .int .i64 0, .slice a4 t c4, .slice (some ⟨w4.heap.size, 0, none⟩) 0 0, .int .i64 sender, .bool false]) (by simp [results, Tryz.results40, go_sem, q0, q1, q2, q3, q4, q5]) rfl ⟨_, _, rfl, P9, M9, fun g e e2 => by have := hlt4 g e; simp [Value.ownBlock] at e2; omega, B9⟩
end Go.Proofs.YtlpbklgkafjfmaaGreatDoor

/-
  Rows of calls of their own: a call is appended to them.
-/
namespace Go.Proofs.YtlpbklgkafjfmaaGreatDoor
open Go.RowKit
def cells6 (x : Cl × Value × Value) : List Value := [.int .i64 x.1.m, .int .i64 x.1.pc, x.2.1, x.2.2, .int .i64 x.1.sender, .bool x.1.dead]
def rowC (L : List (Cl × Value × Value)) : List Value := L.flatMap cells6
theorem rowC_append (a b : List (Cl × Value × Value)) : rowC (a ++ b) = rowC a ++ rowC b := by simp [rowC]
theorem rowC_length (a : List (Cl × Value × Value)) : (rowC a).length = a.length * 6 := by
  induction a with
  | nil => rfl
  | cons x l ih => simp [rowC, cells6] at ih ⊢; omega
theorem rowC_at (a : List (Cl × Value × Value)) : ∀ (i : Nat) (h : i < a.length), (rowC a)[i * 6]? = some (.int .i64 a[i].1.m) ∧ (rowC a)[i * 6 + 1]? = some (.int .i64 a[i].1.pc) ∧ (rowC a)[i * 6 + 2]? = some a[i].2.1 ∧ (rowC a)[i * 6 + 3]? = some a[i].2.2 ∧ (rowC a)[i * 6 + 4]? = some (.int .i64 a[i].1.sender) ∧ (rowC a)[i * 6 + 5]? = some (.bool a[i].1.dead) := by
  induction a with
  | nil => intro i h; exact absurd h (Nat.not_lt_zero _)
  | cons x l ih =>
    intro i h
    cases i with
    | zero => exact ⟨rfl, rfl, rfl, rfl, rfl, rfl⟩
    | succ i =>
      have := ih i (by simpa using h)
      rw [show (i + 1) * 6 = i * 6 + 6 by omega]
      exact this
def CallRow (B : Nat) (w : World) (v : Value) (L : List (Cl × Value × Value)) : Prop := CRow B 6 w v L.length (rowC L)
theorem CallRow.nil (B : Nat) (w : World) : CallRow B w (.slice none 0 0) [] := CRow.nil B 6 w
theorem CallRow.made {B : Nat} {w : World} {e : TypeId} (hB : B ≤ w.heap.size) : CallRow B (w.alloc (.cells #[] e)) (.slice (some ⟨w.heap.size, 0, none⟩) 0 0) [] := CRow.made hB
theorem CallRow.lt {B : Nat} {w : World} {v : Value} {L : List (Cl × Value × Value)} (h : CallRow B w v L) : ∀ k, v.ownBlock = some k → B ≤ k ∧ k < w.heap.size := CRow.lt h
theorem CallRow.kept {B : Nat} {w w' : World} {v : Value} {L : List (Cl × Value × Value)} (h : CallRow B w v L) (hsz : w.heap.size ≤ w'.heap.size) (hb : ∀ g, v.ownBlock = some g → w'.heap[g]? = w.heap[g]?) : CallRow B w' v L := CRow.kept h hsz hb
theorem CallRow.below {B : Nat} {w w' : World} {v : Value} {L : List (Cl × Value × Value)} (h : CallRow B w v L) (hb : Below w.heap.size w w') : CallRow B w' v L := CRow.below h hb
theorem CallRow.slice {B : Nat} {w : World} {v : Value} {L : List (Cl × Value × Value)} (h : CallRow B w v L) : ∃ a cap, v = .slice a L.length cap ∧ L.length ≤ maxLen := by
  rcases h.2 with ⟨rfl, e⟩ | ⟨g, off, cap, hv, hB, hg, hl, hc, _⟩
  · exact ⟨none, 0, by rw [e], by rw [e]; omega⟩
  · exact ⟨_, cap, hv, by omega⟩
theorem run_append_call {ty : TypeId} {B : Nat} {w : World} {v : Value} {L : List (Cl × Value × Value)} (hown : CallRow B w v L) (x : Cl × Value × Value) (h1 : x.2.1.oneCell' = true) (h2 : x.2.2.oneCell' = true) (H c : Nat)
    (hx : ∀ j u, (cells6 x)[j]? = some u → w.cell? ⟨H, j, none⟩ = some u) (hL : L.length ≤ 900000) (hB : B ≤ w.heap.size) :
    ∃ v' w', (Builtin.append_ #[26, 26] ty #[v, .slice (some ⟨H, 0, none⟩) 1 c]).run Tryz.prog w = .ok v' w' ∧ CallRow B w' v' (L ++ [x]) ∧ w.grownBy w' v.ownBlock ∧ (v'.ownBlock = v.ownBlock ∨ v'.ownBlock = some w.heap.size) := by
  obtain ⟨i0, hi, hz0, hz1, hz2⟩ := info_parts Tryz.infoCall
  have hs : Src Tryz.prog 6 26 (.slice (some ⟨H, 0, none⟩) 1 c) 1 (cells6 x) w := Src.ofSlice w Tryz.underlying26 ⟨H, 0, none⟩ 1 c (cells6 x) rfl (fun j u hu => by rw [Addr.add_lit, Nat.zero_add]; exact hx j u hu) (fun u hu => by
    simp only [cells6, List.mem_cons, List.not_mem_nil, or_false] at hu
    rcases hu with rfl | rfl | rfl | rfl | rfl | rfl
    · rfl
    · rfl
    · exact h1
    · exact h2
    · rfl
    · rfl)
  have ho : CRow B 6 w v L.length (rowC L) := hown
  rw [← hz1] at hs ho
  obtain ⟨v', w', hr, hc, hg, hb⟩ := run_append_rows (P := Tryz.prog) (ty := ty) Tryz.underlying26 hi hz0 (by rw [hz1]; rfl) (by rw [hz2]; omega) ho _ 1 (cells6 x) hs (by omega) hB
  refine ⟨v', w', hr, ?_, hg, hb⟩
  rw [hz1] at hc
  unfold CallRow
  rw [rowC_append, List.length_append]
  simpa [rowC] using hc
theorem append_call {ops : Array Oper} {rest : List Oper} {o : Oper} {act : Act} {Q : Exit → Act → World → Prop} (w : World) (hgd : o.guard = none) (s y : Operand)
    (ho : o.op = .call { callee := .builtin .append, args := #[s, y], argTypes := #[26, 26] }) (B : Nat) (v : Value) (L : List (Cl × Value × Value)) (x : Cl × Value × Value) (hs : act.eval s = v) (H c : Nat) (hy : act.eval y = .slice (some ⟨H, 0, none⟩) 1 c) (hown : CallRow B w v L)
    (h1 : x.2.1.oneCell' = true) (h2 : x.2.2.oneCell' = true) (hx : ∀ j u, (cells6 x)[j]? = some u → w.cell? ⟨H, j, none⟩ = some u) (hL : L.length ≤ 900000) (hB : B ≤ w.heap.size)
    (h : ∀ v' w', CallRow B w' v' (L ++ [x]) → w.grownBy w' v.ownBlock → (v'.ownBlock = v.ownBlock ∨ v'.ownBlock = some w.heap.size) → wpList Tryz.prog ops Q rest (act.put o.dst v') w') :
    wpList Tryz.prog ops Q (o :: rest) act w := by
  obtain ⟨v', w', hr, h3, h4, h5⟩ := run_append_call (ty := o.type) hown x h1 h2 H c hx hL hB
  refine wpList_plain hgd fun K hK => ?_
  unfold Oper.wp execOp
  simp only [ho, resolve, invoke, builtin, Sem.run_bind, Sem.run_pure, Result.andThen_ok, List.map_toArray, List.map_cons, List.map_nil, hs, hy, hr]
  exact hK _ _ (h v' w' h3 h4 h5)
theorem cells6_of {w : World} {g : Nat} {t : TypeId} {x : Cl × Value × Value} (h : w.rowIs g t 6 (six (.int .i64 x.1.m) (.int .i64 x.1.pc) x.2.1 x.2.2 (.int .i64 x.1.sender) (.bool x.1.dead))) : ∀ j u, (cells6 x)[j]? = some u → w.cell? ⟨g, j, none⟩ = some u := by
  obtain ⟨⟨q0, q1, q2, q3, q4, q5⟩, _⟩ := six_cells h
  intro j u hu
  have hj : j < 6 := by
    by_cases h : j < 6
    · exact h
    · rw [List.getElem?_eq_none (by simp [cells6]; omega)] at hu; cases hu
  have h6 : j = 0 ∨ j = 1 ∨ j = 2 ∨ j = 3 ∨ j = 4 ∨ j = 5 := by omega
  rcases h6 with rfl | rfl | rfl | rfl | rfl | rfl <;> (simp [cells6] at hu; subst hu; assumption)
theorem CallRow.at {B : Nat} {w : World} {v : Value} {L : List (Cl × Value × Value)} (h : CallRow B w v L) (hl : ∀ i, (hi : i < L.length) → OpsAt w L[i].2.1 L[i].1.temps ∧ OpsAt w L[i].2.2 L[i].1.stack) : CallsAt w v (L.map (·.1)) := by
  rcases h.2 with ⟨rfl, e⟩ | ⟨g, off, cap, rfl, hB, hg, hlc, hc, hsp, hx⟩
  · obtain rfl := List.eq_nil_of_length_eq_zero e
    exact CallsAt.nil w
  · refine ⟨some ⟨g, off, none⟩, cap, by simp, by simp; omega, fun i hi => ?_⟩
    have hi' : i < L.length := by simpa using hi
    obtain ⟨r0, r1, r2, r3, r4, r5⟩ := rowC_at L i hi'
    have hrl := rowC_length L
    have hget : ∀ (j : Nat) (u : Value), (rowC L)[j]? = some u → w.cell? ⟨g, off + j, none⟩ = some u := fun j u hu => by
      have hj : j < (rowC L).length := by
        by_cases h : j < (rowC L).length
        · exact h
        · rw [List.getElem?_eq_none (by omega)] at hu; cases hu
      rw [hx j hj, ← List.getElem?_eq_getElem, hu]
    obtain ⟨ht, hs⟩ := hl i hi'
    refine ⟨g, off, L[i].2.1, L[i].2.2, rfl, ?_, ?_, ?_, ?_, ?_, ?_, ?_, ?_⟩
    · simpa using hget _ _ r0
    · simpa [Nat.add_assoc] using hget _ _ r1
    · simpa [Nat.add_assoc] using hget _ _ r2
    · simpa [Nat.add_assoc] using hget _ _ r3
    · simpa [Nat.add_assoc] using hget _ _ r4
    · simpa [Nat.add_assoc] using hget _ _ r5
    · simpa using ht
    · simpa using hs
end Go.Proofs.YtlpbklgkafjfmaaGreatDoor

/-
  Calls in a row with their lists: no two lists share a block. Nothing of the translation is used here.
-/
namespace Go.Proofs.YtlpbklgkafjfmaaGreatDoor
open Go.RowKit
def ApartL (L : List (Cl × Value × Value)) (o : Value) : Prop := ∀ q, q < L.length * 2 → ∀ g, (lst (fun i => (L.getD i (Cl.none, .slice none 0 0, .slice none 0 0)).2) q).ownBlock = some g →
  o.ownBlock ≠ some g ∧ ∀ q', q' < L.length * 2 → q' ≠ q → (lst (fun i => (L.getD i (Cl.none, .slice none 0 0, .slice none 0 0)).2) q').ownBlock ≠ some g
theorem lst_snoc_left {L : List (Cl × Value × Value)} {x : Cl × Value × Value} {q : Nat} (h : q < L.length * 2) : lst (fun i => ((L ++ [x]).getD i (Cl.none, .slice none 0 0, .slice none 0 0)).2) q = lst (fun i => (L.getD i (Cl.none, .slice none 0 0, .slice none 0 0)).2) q := by
  unfold lst
  have h2 : q / 2 < L.length := by omega
  simp [List.getElem?_append_left h2]
theorem lst_snoc_0 {L : List (Cl × Value × Value)} {x : Cl × Value × Value} : lst (fun i => ((L ++ [x]).getD i (Cl.none, .slice none 0 0, .slice none 0 0)).2) (L.length * 2) = x.2.1 := by
  rw [lst_0]; simp
theorem lst_snoc_1 {L : List (Cl × Value × Value)} {x : Cl × Value × Value} : lst (fun i => ((L ++ [x]).getD i (Cl.none, .slice none 0 0, .slice none 0 0)).2) (L.length * 2 + 1) = x.2.2 := by
  rw [lst_1]; simp
theorem apart_snoc {L : List (Cl × Value × Value)} {x : Cl × Value × Value} {o o' : Value} {S S' : Nat} (h : ApartL L o) (hlt : ∀ q, q < L.length * 2 → ∀ g, (lst (fun i => (L.getD i (Cl.none, .slice none 0 0, .slice none 0 0)).2) q).ownBlock = some g → g < S)
    (hx1 : ∀ g, x.2.1.ownBlock = some g → S ≤ g ∧ g < S') (hx2 : ∀ g, x.2.2.ownBlock = some g → S ≤ g ∧ g < S') (hx : ∀ g, x.2.1.ownBlock = some g → x.2.2.ownBlock ≠ some g) (ho : ∀ g, o.ownBlock = some g → g < S) (ho' : ∀ g, o'.ownBlock = some g → o.ownBlock = some g ∨ S' ≤ g) (hS : S ≤ S') :
    ApartL (L ++ [x]) o' := by
  intro q hq g hg
  rw [List.length_append, List.length_singleton] at hq
  have key : ∀ q', q' < (L.length + 1) * 2 → (q' < L.length * 2 ∧ lst (fun i => ((L ++ [x]).getD i (Cl.none, .slice none 0 0, .slice none 0 0)).2) q' = lst (fun i => (L.getD i (Cl.none, .slice none 0 0, .slice none 0 0)).2) q') ∨ (q' = L.length * 2 ∧ lst (fun i => ((L ++ [x]).getD i (Cl.none, .slice none 0 0, .slice none 0 0)).2) q' = x.2.1) ∨ (q' = L.length * 2 + 1 ∧ lst (fun i => ((L ++ [x]).getD i (Cl.none, .slice none 0 0, .slice none 0 0)).2) q' = x.2.2) := fun q' h' => by
    by_cases e : q' < L.length * 2
    · exact .inl ⟨e, lst_snoc_left e⟩
    · by_cases e2 : q' = L.length * 2
      · exact .inr (.inl ⟨e2, by rw [e2]; exact lst_snoc_0⟩)
      · have e3 : q' = L.length * 2 + 1 := by omega
        exact .inr (.inr ⟨e3, by rw [e3]; exact lst_snoc_1⟩)
  refine ⟨fun eo => ?_, fun q' hq' hne e' => ?_⟩
  · rcases key q hq with ⟨k1, k2⟩ | ⟨k1, k2⟩ | ⟨k1, k2⟩
    · rw [k2] at hg
      rcases ho' g eo with h1 | h1
      · exact (h q k1 g hg).1 h1
      · have := hlt q k1 g hg; omega
    · rw [k2] at hg
      have h2 := hx1 g hg
      rcases ho' g eo with h1 | h1
      · have := ho g h1; omega
      · omega
    · rw [k2] at hg
      have h2 := hx2 g hg
      rcases ho' g eo with h1 | h1
      · have := ho g h1; omega
      · omega
  · rw [List.length_append, List.length_singleton] at hq'
    rcases key q hq with ⟨k1, k2⟩ | ⟨k1, k2⟩ | ⟨k1, k2⟩ <;> rcases key q' hq' with ⟨m1, m2⟩ | ⟨m1, m2⟩ | ⟨m1, m2⟩ <;> rw [k2] at hg <;> rw [m2] at e'
    · exact (h q k1 g hg).2 q' m1 hne e'
    · have h1 := hlt q k1 g hg; have h2 := hx1 g e'; omega
    · have h1 := hlt q k1 g hg; have h2 := hx2 g e'; omega
    · have h1 := hlt q' m1 g e'; have h2 := hx1 g hg; omega
    · omega
    · exact hx g hg e'
    · have h1 := hlt q' m1 g e'; have h2 := hx2 g hg; omega
    · exact hx g e' hg
    · omega
theorem CallRow.own {B : Nat} {w : World} {v : Value} {L : List (Cl × Value × Value)} (h : CallRow B w v L) (hl : ∀ j, (hj : j < L.length) → PairRow B w L[j].2.1 L[j].1.temps ∧ PairRow B w L[j].2.2 L[j].1.stack) (ha : ApartL L v) :
    OwnCalls B w v (L.map (·.1)) (fun i => (L.getD i (Cl.none, .slice none 0 0, .slice none 0 0)).2) := by
  have hget : ∀ i, (hi : i < L.length) → L.getD i (Cl.none, .slice none 0 0, .slice none 0 0) = L[i] := fun i hi => by simp [hi]
  refine ⟨?_, fun i hi => ?_, fun q hq g hg => ?_⟩
  · rcases h.2 with ⟨rfl, e⟩ | ⟨g, off, cap, rfl, hB, hg, hlc, hc, hsp, hx⟩
    · exact .inl ⟨rfl, by rw [List.eq_nil_of_length_eq_zero e]; rfl⟩
    · refine .inr ⟨g, off, cap, by simp, hB, hg, by simpa using hlc, hc, hsp, fun i hi => ?_⟩
      have hi' : i < L.length := by simpa using hi
      obtain ⟨r0, r1, r2, r3, r4, r5⟩ := rowC_at L i hi'
      have hgt : ∀ (j : Nat) (u : Value), (rowC L)[j]? = some u → w.cell? ⟨g, off + j, none⟩ = some u := fun j u hu => by
        have hj : j < (rowC L).length := by
          by_cases h : j < (rowC L).length
          · exact h
          · rw [List.getElem?_eq_none (by omega)] at hu; cases hu
        rw [hx j hj, ← List.getElem?_eq_getElem, hu]
      rw [hget i hi']
      refine ⟨?_, ?_, ?_, ?_, ?_, ?_⟩
      · simpa using hgt _ _ r0
      · simpa [Nat.add_assoc] using hgt _ _ r1
      · simpa [Nat.add_assoc] using hgt _ _ r2
      · simpa [Nat.add_assoc] using hgt _ _ r3
      · simpa [Nat.add_assoc] using hgt _ _ r4
      · simpa [Nat.add_assoc] using hgt _ _ r5
  · have hi' : i < L.length := by simpa using hi
    rw [hget i hi']
    simpa using hl i hi'
  · rw [List.length_map] at hq ⊢
    exact ha q hq g hg
theorem lists_lt {B : Nat} {w : World} {L : List (Cl × Value × Value)} (hl : ∀ j, (hj : j < L.length) → PairRow B w L[j].2.1 L[j].1.temps ∧ PairRow B w L[j].2.2 L[j].1.stack) : ∀ q, q < L.length * 2 → ∀ g, (lst (fun i => (L.getD i (Cl.none, .slice none 0 0, .slice none 0 0)).2) q).ownBlock = some g → g < w.heap.size := fun q hq g hg => by
  have hi : q / 2 < L.length := by omega
  have hget : L.getD (q / 2) (Cl.none, .slice none 0 0, .slice none 0 0) = L[q / 2] := by simp [hi]
  rcases Nat.mod_two_eq_zero_or_one q with hm | hm
  · rw [show q = q / 2 * 2 by omega, lst_0, hget] at hg
    exact ((hl _ hi).1.lt g hg).2
  · rw [show q = q / 2 * 2 + 1 by omega, lst_1, hget] at hg
    exact ((hl _ hi).2.lt g hg).2
end Go.Proofs.YtlpbklgkafjfmaaGreatDoor

/-
  A heap at work, in memory of its own: what is written to it. Nothing of the translation is used here but the number of its type.
-/
namespace Go.Proofs.YtlpbklgkafjfmaaGreatDoor
open Go.RowKit
def putV (V : Nat → Value × Value) (j : Nat) (x : Value × Value) : Nat → Value × Value := fun i => if i = j then x else V i
theorem putV_same (V : Nat → Value × Value) (j : Nat) (x : Value × Value) : putV V j x j = x := if_pos rfl
theorem putV_other (V : Nat → Value × Value) {j i : Nat} (x : Value × Value) (h : i ≠ j) : putV V j x i = V i := if_neg h
theorem lst_put (V : Nat → Value × Value) (j : Nat) (x : Value × Value) (q : Nat) : lst (putV V j x) q = if q / 2 = j then (if q % 2 = 0 then x.1 else x.2) else lst V q := by
  unfold lst putV
  by_cases e : q / 2 = j
  · simp [e]
  · simp [e]
theorem OwnCalls.put {B : Nat} {w w' : World} {g off cap n : Nat} {cs : List Cl} {V : Nat → Value × Value} (h : OwnCalls B w (.slice (some ⟨g, off, none⟩) n cap) cs V) {j : Nat} (hj : j < cs.length) (c : Cl) (vt vs : Value)
    (hsz : w.heap.size ≤ w'.heap.size) (hfr : ∀ o, w'.frozen? ⟨g, o, none⟩ = w.frozen? ⟨g, o, none⟩)
    (hrow : ∀ o, (o < off + j * 6 ∨ off + j * 6 + 6 ≤ o) → w'.cell? ⟨g, o, none⟩ = w.cell? ⟨g, o, none⟩)
    (hbl : ∀ k, k < w.heap.size → k ≠ g → (V j).1.ownBlock ≠ some k → (V j).2.ownBlock ≠ some k → w'.heap[k]? = w.heap[k]?)
    (c0 : w'.cell? ⟨g, off + j * 6, none⟩ = some (.int .i64 c.m)) (c1 : w'.cell? ⟨g, off + j * 6 + 1, none⟩ = some (.int .i64 c.pc)) (c2 : w'.cell? ⟨g, off + j * 6 + 2, none⟩ = some vt)
    (c3 : w'.cell? ⟨g, off + j * 6 + 3, none⟩ = some vs) (c4 : w'.cell? ⟨g, off + j * 6 + 4, none⟩ = some (.int .i64 c.sender)) (c5 : w'.cell? ⟨g, off + j * 6 + 5, none⟩ = some (.bool c.dead))
    (ht : PairRow B w' vt c.temps) (hs : PairRow B w' vs c.stack)
    (nt : ∀ q, vt.ownBlock = some q → (V j).1.ownBlock = some q ∨ (V j).2.ownBlock = some q ∨ w.heap.size ≤ q) (ns : ∀ q, vs.ownBlock = some q → (V j).1.ownBlock = some q ∨ (V j).2.ownBlock = some q ∨ w.heap.size ≤ q)
    (ts : ∀ q, vt.ownBlock = some q → vs.ownBlock ≠ some q) : OwnCalls B w' (.slice (some ⟨g, off, none⟩) n cap) (cs.set j c) (putV V j (vt, vs)) := by
  have hgl : g < w.heap.size := (h.lt (g := g) (.inl rfl)).2
  have key : ∀ q, q < cs.length * 2 → q / 2 ≠ j → ∀ k, (lst V q).ownBlock = some k → k < w.heap.size ∧ k ≠ g ∧ (V j).1.ownBlock ≠ some k ∧ (V j).2.ownBlock ≠ some k := fun q hq hqj k hk => by
    obtain ⟨a1, a2⟩ := h.apart q hq k hk
    have b1 := a2 (j * 2) (by omega) (by omega)
    have b2 := a2 (j * 2 + 1) (by omega) (by omega)
    rw [lst_0] at b1
    rw [lst_1] at b2
    exact ⟨(h.lt (g := k) (.inr ⟨q, hq, hk⟩)).2, fun e => a1 (by rw [e]; rfl), b1, b2⟩
  have own : ∀ q, (V j).1.ownBlock = some q ∨ (V j).2.ownBlock = some q ∨ w.heap.size ≤ q → q ≠ g := fun q hq => by
    rcases hq with e | e | e
    · intro eg
      exact (h.apart (j * 2) (by omega) q (by rw [lst_0]; exact e)).1 (by rw [eg]; rfl)
    · intro eg
      exact (h.apart (j * 2 + 1) (by omega) q (by rw [lst_1]; exact e)).1 (by rw [eg]; rfl)
    · omega
  have newb : ∀ q, q / 2 = j → ∀ k, (lst (putV V j (vt, vs)) q).ownBlock = some k → (V j).1.ownBlock = some k ∨ (V j).2.ownBlock = some k ∨ w.heap.size ≤ k := fun q hq k hk => by
    rw [lst_put, if_pos hq] at hk
    by_cases e : q % 2 = 0
    · rw [if_pos e] at hk; exact nt k hk
    · rw [if_neg e] at hk; exact ns k hk
  refine ⟨?_, fun i hi => ?_, fun q hq k hk => ?_⟩
  · rcases h.row with ⟨h0, _⟩ | ⟨g', off', cap', hv, hB, hg, hl, hc, hsp, hx⟩
    · cases h0
    · cases hv
      refine .inr ⟨g, off, cap, by simp, hB, by omega, by simpa using hl, hc, fun i hi => ?_, fun i hi => ?_⟩
      · rw [hfr]
        refine ⟨?_, (hsp i hi).2⟩
        by_cases e : i < j * 6 ∨ j * 6 + 6 ≤ i
        · rw [hrow (off + i) (by omega)]; exact (hsp i hi).1
        · have h6 : off + i = off + j * 6 ∨ off + i = off + j * 6 + 1 ∨ off + i = off + j * 6 + 2 ∨ off + i = off + j * 6 + 3 ∨ off + i = off + j * 6 + 4 ∨ off + i = off + j * 6 + 5 := by omega
          rcases h6 with e | e | e | e | e | e <;> rw [e]
          · rw [c0]; rfl
          · rw [c1]; rfl
          · rw [c2]; rfl
          · rw [c3]; rfl
          · rw [c4]; rfl
          · rw [c5]; rfl
      · rw [List.length_set] at hi
        by_cases e : i = j
        · subst e
          rw [List.getElem_set_self, putV_same]
          exact ⟨c0, c1, c2, c3, c4, c5⟩
        · rw [List.getElem_set_ne (Ne.symm e), putV_other _ _ e, hrow _ (by omega), hrow _ (by omega), hrow _ (by omega), hrow _ (by omega), hrow _ (by omega), hrow _ (by omega)]
          exact hx i hi
  · rw [List.length_set] at hi
    by_cases e : i = j
    · subst e
      rw [List.getElem_set_self, putV_same]
      exact ⟨ht, hs⟩
    · rw [List.getElem_set_ne (Ne.symm e), putV_other _ _ e]
      obtain ⟨p1, p2⟩ := h.lists i hi
      refine ⟨p1.kept hsz fun k hk => ?_, p2.kept hsz fun k hk => ?_⟩
      · obtain ⟨a1, a2, a3, a4⟩ := key (i * 2) (by omega) (by omega) k (by rw [lst_0]; exact hk)
        exact hbl k a1 a2 a3 a4
      · obtain ⟨a1, a2, a3, a4⟩ := key (i * 2 + 1) (by omega) (by omega) k (by rw [lst_1]; exact hk)
        exact hbl k a1 a2 a3 a4
  · rw [List.length_set] at hq
    by_cases e : q / 2 = j
    · have hn := newb q e k hk
      refine ⟨fun e2 => own k hn (by have e3 : g = k := Option.some.inj e2; exact e3.symm), fun q' hq' hne hk' => ?_⟩
      rw [List.length_set] at hq'
      by_cases e' : q' / 2 = j
      · rw [lst_put, if_pos e] at hk
        rw [lst_put, if_pos e'] at hk'
        rcases Nat.mod_two_eq_zero_or_one q with m | m <;> rcases Nat.mod_two_eq_zero_or_one q' with m' | m'
        · omega
        · rw [if_pos m] at hk; rw [if_neg (by omega)] at hk'; exact ts k hk hk'
        · rw [if_neg (by omega)] at hk; rw [if_pos m'] at hk'; exact ts k hk' hk
        · omega
      · rw [lst_put, if_neg e'] at hk'
        obtain ⟨a1, a2, a3, a4⟩ := key q' hq' e' k hk'
        rcases hn with x | x | x
        · exact a3 x
        · exact a4 x
        · omega
    · rw [lst_put, if_neg e] at hk
      obtain ⟨a1, a2, a3, a4⟩ := key q hq e k hk
      refine ⟨(h.apart q hq k hk).1, fun q' hq' hne hk' => ?_⟩
      rw [List.length_set] at hq'
      by_cases e' : q' / 2 = j
      · rcases newb q' e' k hk' with x | x | x
        · exact a3 x
        · exact a4 x
        · omega
      · rw [lst_put, if_neg e'] at hk'
        exact (h.apart q hq k hk).2 q' hq' hne hk'
theorem OwnCalls.cells {B : Nat} {w : World} {g off cap n : Nat} {cs : List Cl} {V : Nat → Value × Value} (h : OwnCalls B w (.slice (some ⟨g, off, none⟩) n cap) cs V) {j : Nat} (hj : j < cs.length) :
    (w.cell? ⟨g, off + j * 6, none⟩ = some (.int .i64 cs[j].m) ∧ w.cell? ⟨g, off + j * 6 + 1, none⟩ = some (.int .i64 cs[j].pc) ∧ w.cell? ⟨g, off + j * 6 + 2, none⟩ = some (V j).1 ∧ w.cell? ⟨g, off + j * 6 + 3, none⟩ = some (V j).2 ∧ w.cell? ⟨g, off + j * 6 + 4, none⟩ = some (.int .i64 cs[j].sender) ∧ w.cell? ⟨g, off + j * 6 + 5, none⟩ = some (.bool cs[j].dead)) ∧
    ∀ f, f < 6 → w.frozen? ⟨g, off + j * 6 + f, none⟩ = false := by
  rcases h.row with ⟨h0, _⟩ | ⟨g', off', cap', hv, hB, hg, hl, hc, hsp, hx⟩
  · cases h0
  · cases hv
    refine ⟨hx j hj, fun f hf => ?_⟩
    have := (hsp (j * 6 + f) (by omega)).2
    rwa [show off + (j * 6 + f) = off + j * 6 + f by omega] at this
structure Cm (A : Nat → Prop) (B : Nat) (w w' : World) : Prop where
  b : Below B w w'
  a : ∀ q, A q → w'.heap[q]? = w.heap[q]?
theorem Cm.trans {A : Nat → Prop} {B : Nat} {x y z : World} (h : Cm A B x y) (k : Cm A B y z) : Cm A B x z := ⟨h.b.trans k.b, fun q hq => (k.a q hq).trans (h.a q hq)⟩
theorem Cm.less {A A' : Nat → Prop} {B : Nat} {x y : World} (h : Cm A B x y) (hA : ∀ q, A' q → A q) : Cm A' B x y := ⟨h.b, fun q hq => h.a q (hA q hq)⟩
theorem Cm.row {A : Nat → Prop} {B : Nat} {x y : World} (h : Cm A B x y) {g : Nat} {t : TypeId} {n : Nat} {f : Nat → Value} (hr : x.rowIs g t n f) (hg : A g) : y.rowIs g t n f := hr.of_block (h.a g hg)
structure SM (A : Nat → Prop) (B : Nat) (w : World) (bo : Nat) (vp vc vs : Value) (ms : List (Int × Int × List (Int × Int))) (h : Hp) (V : Nat → Value × Value) : Prop where
  box : w.rowIs bo 92 6 (six vp vc (.int .i64 h.now) (.int .i64 h.born) vs (.int .i64 h.code))
  le : B ≤ bo
  own : OwnHeap B w vc vs h V
  nb : ¬ HeapBlocks vc vs h.calls.length V bo
  av : ∀ q, A q → q ≠ bo ∧ q < w.heap.size ∧ ¬ HeapBlocks vc vs h.calls.length V q
  pr : ∃ w0 : World, MethsAt w0 vp ms ∧ w0.heap.size ≤ B ∧ Below w0.heap.size w0 w
theorem SM.prog {A : Nat → Prop} {B : Nat} {w : World} {bo : Nat} {vp vc vs : Value} {ms : List (Int × Int × List (Int × Int))} {h : Hp} {V : Nat → Value × Value} (k : SM A B w bo vp vc vs ms h V) : MethsAt w vp ms := by
  obtain ⟨w0, h1, _, h3⟩ := k.pr
  exact h1.below h3
theorem SM.below {A : Nat → Prop} {B : Nat} {w w' : World} {bo : Nat} {vp vc vs : Value} {ms : List (Int × Int × List (Int × Int))} {h : Hp} {V : Nat → Value × Value} (k : SM A B w bo vp vc vs ms h V) (hb : Below w.heap.size w w') : SM A B w' bo vp vc vs ms h V := by
  obtain ⟨w0, h1, h2, h3⟩ := k.pr
  exact ⟨row_below hb k.box, k.le, k.own.below hb, k.nb, fun q hq => ⟨(k.av q hq).1, by have := (k.av q hq).2.1; have := hb.size; omega, (k.av q hq).2.2⟩, w0, h1, h2, h3.trans (hb.mono h3.size)⟩
theorem SM.cm {A : Nat → Prop} {B : Nat} {w w' : World} {bo : Nat} {vp vc vs : Value} {ms : List (Int × Int × List (Int × Int))} {h : Hp} {V : Nat → Value × Value} (k : SM A B w bo vp vc vs ms h V) (hb : Below w.heap.size w w') (hB : B ≤ w.heap.size) : Cm A B w w' := ⟨hb.mono hB, fun q hq => hb.block q (k.av q hq).2.1⟩
theorem SM.re {A A' : Nat → Prop} {B : Nat} {w : World} {bo : Nat} {vp vc vs : Value} {ms : List (Int × Int × List (Int × Int))} {h : Hp} {V : Nat → Value × Value} (k : SM A B w bo vp vc vs ms h V) (hA : ∀ q, A' q → q ≠ bo ∧ q < w.heap.size ∧ ¬ HeapBlocks vc vs h.calls.length V q) : SM A' B w bo vp vc vs ms h V := ⟨k.box, k.le, k.own, k.nb, hA, k.pr⟩
theorem SM.made {A : Nat → Prop} {B : Nat} {w w' : World} {bo : Nat} {vp vc vs : Value} {ms : List (Int × Int × List (Int × Int))} {h : Hp} {V : Nat → Value × Value} (k : SM A B w bo vp vc vs ms h V) (hb : Below w.heap.size w w') (hw : w.heap.size < w'.heap.size) : SM (fun q => A q ∨ q = w.heap.size) B w' bo vp vc vs ms h V := by
  refine (k.below hb).re fun q hq => ?_
  rcases hq with hq | rfl
  · exact (k.below hb).av q hq
  · exact ⟨by have := k.box.lt; omega, hw, fun e => by have := (k.own.lt e).2; omega⟩
theorem SM.less {A A' : Nat → Prop} {B : Nat} {w : World} {bo : Nat} {vp vc vs : Value} {ms : List (Int × Int × List (Int × Int))} {h : Hp} {V : Nat → Value × Value} (k : SM A B w bo vp vc vs ms h V) (hA : ∀ q, A' q → A q) : SM A' B w bo vp vc vs ms h V := k.re fun q hq => k.av q (hA q hq)
theorem prog_later {B : Nat} {w w' : World} {vp : Value} {ms : List (Int × Int × List (Int × Int))} (h : ∃ w0 : World, MethsAt w0 vp ms ∧ w0.heap.size ≤ B ∧ Below w0.heap.size w0 w) (hb : Below B w w') : ∃ w0 : World, MethsAt w0 vp ms ∧ w0.heap.size ≤ B ∧ Below w0.heap.size w0 w' := by
  obtain ⟨w0, h1, h2, h3⟩ := h
  exact ⟨w0, h1, h2, h3.trans (hb.mono h2)⟩
structure Put (B : Nat) (w w' : World) (g off j : Nat) (V : Nat → Value × Value) (c : Cl) (vt vs : Value) : Prop where
  sz : w.heap.size ≤ w'.heap.size
  fr : ∀ o, w'.frozen? ⟨g, o, none⟩ = w.frozen? ⟨g, o, none⟩
  row : ∀ o, (o < off + j * 6 ∨ off + j * 6 + 6 ≤ o) → w'.cell? ⟨g, o, none⟩ = w.cell? ⟨g, o, none⟩
  bl : ∀ k, k < w.heap.size → k ≠ g → (V j).1.ownBlock ≠ some k → (V j).2.ownBlock ≠ some k → w'.heap[k]? = w.heap[k]?
  c0 : w'.cell? ⟨g, off + j * 6, none⟩ = some (.int .i64 c.m)
  c1 : w'.cell? ⟨g, off + j * 6 + 1, none⟩ = some (.int .i64 c.pc)
  c2 : w'.cell? ⟨g, off + j * 6 + 2, none⟩ = some vt
  c3 : w'.cell? ⟨g, off + j * 6 + 3, none⟩ = some vs
  c4 : w'.cell? ⟨g, off + j * 6 + 4, none⟩ = some (.int .i64 c.sender)
  c5 : w'.cell? ⟨g, off + j * 6 + 5, none⟩ = some (.bool c.dead)
  ht : PairRow B w' vt c.temps
  hs : PairRow B w' vs c.stack
  nt : ∀ q, vt.ownBlock = some q → (V j).1.ownBlock = some q ∨ (V j).2.ownBlock = some q ∨ w.heap.size ≤ q
  ns : ∀ q, vs.ownBlock = some q → (V j).1.ownBlock = some q ∨ (V j).2.ownBlock = some q ∨ w.heap.size ≤ q
  ts : ∀ q, vt.ownBlock = some q → vs.ownBlock ≠ some q
theorem SM.put {A : Nat → Prop} {B : Nat} {w w' : World} {bo : Nat} {vp vs : Value} {g off n cap : Nat} {ms : List (Int × Int × List (Int × Int))} {h : Hp} {V : Nat → Value × Value} (k : SM A B w bo vp (.slice (some ⟨g, off, none⟩) n cap) vs ms h V) {j : Nat} (hj : j < h.calls.length) {c : Cl} {vt vs' : Value}
    (p : Put B w w' g off j V c vt vs') (hb : Below B w w') : SM A B w' bo vp (.slice (some ⟨g, off, none⟩) n cap) vs ms { h with calls := h.calls.set j c } (putV V j (vt, vs')) ∧ Cm A B w w' := by
  have hV1 : ∀ q, (V j).1.ownBlock = some q → CallBlocks (.slice (some ⟨g, off, none⟩) n cap) h.calls.length V q := fun q e => .inr ⟨j * 2, by omega, by rw [lst_0]; exact e⟩
  have hV2 : ∀ q, (V j).2.ownBlock = some q → CallBlocks (.slice (some ⟨g, off, none⟩) n cap) h.calls.length V q := fun q e => .inr ⟨j * 2 + 1, by omega, by rw [lst_1]; exact e⟩
  have hout : ∀ q, q < w.heap.size → ¬ CallBlocks (.slice (some ⟨g, off, none⟩) n cap) h.calls.length V q → w'.heap[q]? = w.heap[q]? := fun q hq hn => p.bl q hq (fun e => hn (.inl (by rw [e]; rfl))) (fun e => hn (hV1 q e)) (fun e => hn (hV2 q e))
  have hnew : ∀ q, q < w.heap.size → ¬ CallBlocks (.slice (some ⟨g, off, none⟩) n cap) h.calls.length V q → ¬ CallBlocks (.slice (some ⟨g, off, none⟩) n cap) (h.calls.set j c).length (putV V j (vt, vs')) q := fun q hq hn e => by
    rcases e with e | ⟨i, hi, e⟩
    · exact hn (.inl e)
    · rw [List.length_set] at hi
      rw [lst_put] at e
      by_cases e1 : i / 2 = j
      · rw [if_pos e1] at e
        by_cases e2 : i % 2 = 0
        · rw [if_pos e2] at e
          rcases p.nt q e with x | x | x
          · exact hn (hV1 q x)
          · exact hn (hV2 q x)
          · omega
        · rw [if_neg e2] at e
          rcases p.ns q e with x | x | x
          · exact hn (hV1 q x)
          · exact hn (hV2 q x)
          · omega
      · rw [if_neg e1] at e
        exact hn (.inr ⟨i, hi, e⟩)
  have hbo : bo < w.heap.size := k.box.lt
  have hbn : ¬ CallBlocks (.slice (some ⟨g, off, none⟩) n cap) h.calls.length V bo := fun e => k.nb (.inr e)
  refine ⟨⟨k.box.of_block (hout bo hbo hbn), k.le, ⟨k.own.c.put hj c vt vs' p.sz p.fr p.row p.bl p.c0 p.c1 p.c2 p.c3 p.c4 p.c5 p.ht p.hs p.nt p.ns p.ts, k.own.s.kept p.sz fun q e => hout q (k.own.s.lt q e).2 (k.own.apart q e), fun q e => hnew q (k.own.s.lt q e).2 (k.own.apart q e)⟩, fun e => ?_, fun q hq => ⟨(k.av q hq).1, by have := (k.av q hq).2.1; have := p.sz; omega, fun e => ?_⟩, prog_later k.pr hb⟩, hb, fun q hq => hout q (k.av q hq).2.1 (fun e => (k.av q hq).2.2 (.inr e))⟩
  · rcases e with e | e
    · exact k.nb (.inl e)
    · exact hnew bo hbo hbn e
  · rcases e with e | e
    · exact (k.av q hq).2.2 (.inl e)
    · exact hnew q (k.av q hq).2.1 (fun e => (k.av q hq).2.2 (.inr e)) e
theorem six_set {w : World} {g : Nat} {t : TypeId} {f : Nat → Value} (h : w.rowIs g t 6 f) (i : Nat) (v : Value) {f' : Nat → Value} (hf : ∀ k, k < 6 → f' k = if k = i then v else f k) : (w.setCell ⟨g, i, none⟩ v).rowIs g t 6 f' :=
  (h.set i v).congr fun k hk => by rw [hf k hk]
theorem SM.num {A : Nat → Prop} {B : Nat} {w : World} {bo : Nat} {vp vc vs : Value} {ms : List (Int × Int × List (Int × Int))} {h h' : Hp} {V : Nat → Value × Value} (k : SM A B w bo vp vc vs ms h V) (i : Nat) (x : Int) (hc : h'.calls = h.calls) (hs : h'.said = h.said)
    (hf : ∀ q, q < 6 → six vp vc (.int .i64 h'.now) (.int .i64 h'.born) vs (.int .i64 h'.code) q = if q = i then .int .i64 x else six vp vc (.int .i64 h.now) (.int .i64 h.born) vs (.int .i64 h.code) q) : SM A B (w.setCell ⟨bo, i, none⟩ (.int .i64 x)) bo vp vc vs ms h' V ∧ Cm A B w (w.setCell ⟨bo, i, none⟩ (.int .i64 x)) := by
  have hbl : ∀ q, HeapBlocks vc vs h.calls.length V q → (w.setCell ⟨bo, i, none⟩ (.int .i64 x)).heap[q]? = w.heap[q]? := fun q e => Below.heap_setCell _ _ _ _ (fun e2 => k.nb (by have e3 : q = bo := e2; rw [← e3]; exact e))
  have o := k.own.kept (w' := w.setCell ⟨bo, i, none⟩ (.int .i64 x)) (by simp [World.setCell]) hbl
  have b1 := (Below.refl B w).setCell (p := ⟨bo, i, none⟩) k.le (.int .i64 x)
  exact ⟨⟨six_set k.box i _ hf, k.le, ⟨by rw [hc]; exact o.c, by rw [hs]; exact o.s, by rw [hc]; exact o.apart⟩, by rw [hc]; exact k.nb, fun q hq => ⟨(k.av q hq).1, by simp [World.setCell]; exact (k.av q hq).2.1, by rw [hc]; exact (k.av q hq).2.2⟩, prog_later k.pr b1⟩, b1, fun q hq => Below.heap_setCell _ _ _ _ (fun e => (k.av q hq).1 e)⟩
end Go.Proofs.YtlpbklgkafjfmaaGreatDoor
