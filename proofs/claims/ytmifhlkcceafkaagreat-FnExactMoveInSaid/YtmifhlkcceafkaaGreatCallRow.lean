/-
  Rows of values of their own: values are appended to them; l11None and l11Call of the model.
-/
import Derived.Test.YtmifhlkcceafkaaGreatProg
import Derived.Test.YtmifhlkcceafkaaGreatMLive
import Derived.Test.YtmifhlkcceafkaaGreatHCopy2
import Derived.Test.YtmifhlkcceafkaaGreatDeepM
import Derived.Test.YtmifhlkcceafkaaGreatIntsM

namespace Go.Proofs.YtmifhlkcceafkaaGreat
open Go.RowKit
def pcells (ops : List (Int × Int)) : List Value := ops.flatMap fun o => [.int .i64 o.1, .int .i64 o.2]
theorem pcells_append (a b : List (Int × Int)) : pcells (a ++ b) = pcells a ++ pcells b := by simp [pcells]
theorem pcells_length (a : List (Int × Int)) : (pcells a).length = a.length * 2 := by
  induction a with
  | nil => rfl
  | cons x l ih => simp [pcells] at ih ⊢; omega
theorem pcells_at (a : List (Int × Int)) : ∀ (i : Nat) (h : i < a.length), (pcells a)[i * 2]? = some (.int .i64 a[i].1) ∧ (pcells a)[i * 2 + 1]? = some (.int .i64 a[i].2) := by
  induction a with
  | nil => intro i h; exact absurd h (Nat.not_lt_zero _)
  | cons x l ih =>
    intro i h
    cases i with
    | zero => exact ⟨rfl, rfl⟩
    | succ i =>
      have := ih i (by simpa using h)
      rw [show (i + 1) * 2 = i * 2 + 2 by omega]
      exact this
theorem pcells_one (M : List (Int × Int)) : ∀ u ∈ pcells M, u.oneCell' = true := by
  intro u hu
  simp only [pcells, List.mem_flatMap] at hu
  obtain ⟨x, _, hx⟩ := hu
  simp at hx
  rcases hx with rfl | rfl <;> rfl
theorem PairRow.crow {B : Nat} {w : World} {v : Value} {ops : List (Int × Int)} (h : PairRow B w v ops) : CRow B 2 w v ops.length (pcells ops) := by
  refine ⟨pcells_length ops, ?_⟩
  rcases h with ⟨rfl, rfl⟩ | ⟨g, off, cap, rfl, hB, hg, hl, hc, hsp, hx⟩
  · exact .inl ⟨rfl, rfl⟩
  · refine .inr ⟨g, off, cap, rfl, hB, hg, hl, hc, hsp, fun i hi => ?_⟩
    rw [pcells_length] at hi
    have h2 := pcells_at ops (i / 2) (by omega)
    have h3 := hx (i / 2) (by omega)
    rcases Nat.mod_two_eq_zero_or_one i with hm | hm
    · rw [show i / 2 * 2 = i by omega] at h2
      rw [show off + i / 2 * 2 = off + i by omega] at h3
      rw [h3.1, ← h2.1, List.getElem?_eq_getElem]
    · rw [show i / 2 * 2 + 1 = i by omega] at h2
      rw [show off + i / 2 * 2 + 1 = off + i by omega] at h3
      rw [h3.2, ← h2.2, List.getElem?_eq_getElem]
theorem CRow.pair {B : Nat} {w : World} {v : Value} {n : Nat} {ops : List (Int × Int)} (hn : n = ops.length) (h : CRow B 2 w v n (pcells ops)) : PairRow B w v ops := by
  subst hn
  rcases h.2 with ⟨rfl, e⟩ | ⟨g, off, cap, rfl, hB, hg, hl, hc, hsp, hx⟩
  · exact .inl ⟨rfl, List.eq_nil_of_length_eq_zero e⟩
  · refine .inr ⟨g, off, cap, rfl, hB, hg, hl, hc, hsp, fun i hi => ?_⟩
    have h2 := pcells_at ops i hi
    have hp := pcells_length ops
    have h3 := hx (i * 2) (by omega)
    have h4 := hx (i * 2 + 1) (by omega)
    rw [← Nat.add_assoc] at h4
    rw [h3, h4, ← List.getElem?_eq_getElem, ← List.getElem?_eq_getElem, h2.1, h2.2]
    exact ⟨rfl, rfl⟩
theorem src_vals {P : Program} {tx e' : TypeId} (hk : P.underlying tx = some (.slice e')) {w : World} {v : Value} {ops : List (Int × Int)} (h : OpsAt w v ops) : Src P 2 tx v ops.length (pcells ops) w := by
  obtain ⟨a, cap, rfl, hl, hc⟩ := h
  cases a with
  | none =>
    cases ops with
    | nil => exact Src.ofNil w hk cap
    | cons x l =>
      obtain ⟨b, o, e, _⟩ := hc 0 (by simp)
      cases e
  | some ad =>
    refine Src.ofSlice w hk ad _ cap _ (pcells_length _) (fun j u hu => ?_) (pcells_one _)
    have hj : j < (pcells ops).length := by
      by_cases h : j < (pcells ops).length
      · exact h
      · rw [List.getElem?_eq_none (by omega)] at hu; cases hu
    rw [pcells_length] at hj
    obtain ⟨b, o, e, h0, h1⟩ := hc (j / 2) (by omega)
    obtain rfl : ad = ⟨b, o, none⟩ := by injection e
    rw [Addr.add_lit]
    have h2 := pcells_at ops (j / 2) (by omega)
    rcases Nat.mod_two_eq_zero_or_one j with hm | hm
    · rw [show o + j / 2 * 2 = o + j by omega] at h0
      rw [show j / 2 * 2 = j by omega] at h2
      rw [h0, ← h2.1]; exact hu
    · rw [show o + j / 2 * 2 + 1 = o + j by omega] at h1
      rw [show j / 2 * 2 + 1 = j by omega] at h2
      rw [h1, ← h2.2]; exact hu
theorem run_append_vals {ty : TypeId} {B : Nat} {w : World} {v xv : Value} {L M : List (Int × Int)} (hown : PairRow B w v L) (hM : OpsAt w xv M) (hL : L.length + M.length ≤ 3000000) (hB : B ≤ w.heap.size) :
    ∃ v' w', (Builtin.append_ #[34, 34] ty #[v, xv]).run Tryz.prog w = .ok v' w' ∧ PairRow B w' v' (L ++ M) ∧ w.grownBy w' v.ownBlock ∧ (v'.ownBlock = v.ownBlock ∨ v'.ownBlock = some w.heap.size) := by
  obtain ⟨i0, hi, hz0, hz1, hz2⟩ := info_parts Tryz.infoVal
  have h1 := hown.crow
  have h2 := src_vals (P := Tryz.prog) Tryz.underlying34 hM
  rw [← hz1] at h1 h2
  obtain ⟨v', w', hr, hc, hg, hb⟩ := run_append_rows (P := Tryz.prog) (ty := ty) Tryz.underlying34 hi hz0 (by rw [hz1]; rfl) (by rw [hz2]; omega) h1 xv M.length (pcells M) h2 hL hB
  refine ⟨v', w', hr, ?_, hg, hb⟩
  rw [hz1, ← pcells_append] at hc
  exact hc.pair (by simp)
theorem append_vals {ops : Array Oper} {rest : List Oper} {o : Oper} {act : Act} {Q : Exit → Act → World → Prop} (w : World) (hgd : o.guard = none) (s x : Operand)
    (ho : o.op = .call { callee := .builtin .append, args := #[s, x], argTypes := #[34, 34] }) (B : Nat) (v xv : Value) (L M : List (Int × Int)) (hs : act.eval s = v) (hx : act.eval x = xv) (hown : PairRow B w v L) (hM : OpsAt w xv M)
    (hL : L.length + M.length ≤ 3000000) (hB : B ≤ w.heap.size)
    (h : ∀ v' w', PairRow B w' v' (L ++ M) → w.grownBy w' v.ownBlock → (v'.ownBlock = v.ownBlock ∨ v'.ownBlock = some w.heap.size) → wpList Tryz.prog ops Q rest (act.put o.dst v') w') :
    wpList Tryz.prog ops Q (o :: rest) act w := by
  obtain ⟨v', w', hr, h2, h3, h4⟩ := run_append_vals (ty := o.type) hown hM hL hB
  refine wpList_plain hgd fun K hK => ?_
  unfold Oper.wp execOp
  simp only [ho, resolve, invoke, builtin, Sem.run_bind, Sem.run_pure, Result.andThen_ok, List.map_toArray, List.map_cons, List.map_nil, hs, hx, hr]
  exact hK _ _ (h v' w' h2 h3 h4)
theorem PairRow.made {B : Nat} {w : World} {e : TypeId} (hB : B ≤ w.heap.size) : PairRow B (w.alloc (.cells #[] e)) (.slice (some ⟨w.heap.size, 0, none⟩) 0 0) [] := (CRow.made hB).pair rfl
theorem one_at (w : World) (k q : Int) (e : TypeId) (c : Nat) : OpsAt (w.alloc (.cells #[.int .i64 k, .int .i64 q] e)) (.slice (some ⟨w.heap.size, 0, none⟩) 1 c) [(k, q)] :=
  ⟨_, c, rfl, by unfold maxLen; simp, fun i hi => by
    obtain rfl : i = 0 := by simpa using hi
    exact ⟨w.heap.size, 0, rfl, by simp [go_sem], by simp [go_sem]⟩⟩
set_option maxRecDepth 100000 in
set_option maxHeartbeats 3000000 in
theorem l11None_any (n : Nat) (w : World) (hn : n ≤ 1000) :
    Calls Tryz.prog 98 #[.int .i64 (n : Int)] w fun e w' => ∃ v, e = .returned v ∧ PairRow w.heap.size w' v (List.replicate n (0, 0)) ∧ Below w.heap.size w w' := by
  have mk := PairRow.made (B := w.heap.size) (w := w) (e := 82) (Nat.le_refl _)
  have hA : Below w.heap.size w (w.alloc (.cells #[] 82)) := (Below.refl _ _).alloc (Nat.le_refl _) _
  go_enter Tryz.func98, Tryz.ntmps98
  go_wp2
  go_loopg [3, 4] n (fun g o i wr => ∃ k : Nat, k ≤ n ∧ g = n - k ∧ i = .int .i64 k ∧ PairRow w.heap.size wr o (List.replicate k (0, 0)) ∧ Below w.heap.size w wr)
  case atStart => exact ⟨0, Nat.zero_le _, rfl, rfl, mk, hA⟩
  case round =>
    obtain ⟨k, hk, rfl, rfl, hrow, hb⟩ := hrel
    have hbz := hb.size
    by_cases hlt : k < n
    · have hkz : (k : Int) < (n : Int) := by omega
      go_wp2_with (at_builtin; refine append_vals _ (by rfl) _ _ (by rfl) w.heap.size _ _ (List.replicate k (0, 0)) [(0, 0)] (by rfl) (by rfl) (hrow.below ((Below.refl _ _).alloc (Nat.le_refl _) _)) (one_at wr 0 0 _ _) (by simp; omega) (by simp; omega) ?_; intro v2 w2 hrow2 hg2 hb2)
      rw [← List.replicate_succ'] at hrow2
      have hb3 : Below w.heap.size w w2 := (hb.alloc hb.size _).grown hg2 (by simp; omega) (fun q e => (hrow.lt q e).1)
      clear hg2 hb2
      go_roundg (n - (k + 1))
      case measure => omega
      case rel => exact ⟨k + 1, by omega, rfl, by go_num, hrow2, hb3⟩
    · obtain rfl : k = n := by omega
      go_wp2
      go_ret
      exact ⟨_, rfl, hrow, hb⟩
set_option maxRecDepth 100000 in
set_option maxHeartbeats 3000000 in
theorem l11Call_any (vp va : Value) (ms : List (Int × Int × List (Int × Int))) (m : Nat) (args : List (Int × Int)) (sender : Int) (t : Nat) (w : World) (hp : MethsAt w vp ms) (hm : m < ms.length) (ht : ms[m].2.1 = (t : Int)) (ht4 : t ≤ 1000) (ha : OpsAt w va args) (hat : args.length ≤ t) :
    Calls Tryz.prog 87 #[.agg #[vp], .int .i64 (m : Int), va, .int .i64 sender] w fun e w' => ∃ vt vs, e = .returned (.agg (clCells vt vs ⟨m, 0, args ++ List.replicate (t - args.length) (0, 0), [], sender, false⟩)) ∧
      PairRow w.heap.size w' vt (args ++ List.replicate (t - args.length) (0, 0)) ∧ PairRow w.heap.size w' vs [] ∧ (∀ g, vt.ownBlock = some g → vs.ownBlock ≠ some g) ∧ Below w.heap.size w w' := by
  obtain ⟨ap, cp, rfl, hl, hc⟩ := id hp
  obtain ⟨aa, ca, hva⟩ := ha.shape
  subst hva
  obtain ⟨b, o, vo, hap, d0, d1, d2, _⟩ := hc m hm
  subst hap
  rw [ht] at d1
  unfold clCells
  have hl63 : ms.length ≤ 2 ^ 63 - 1 := hl
  have hA : Below w.heap.size w (((w.alloc (.cells #[.slice (some ⟨b, o, none⟩) ms.length cp] 41)).alloc (.cells #[.int .i64 0, .int .i64 0, .slice none 0 0, .slice none 0 0, .int .i64 0, .bool false] 63)).alloc (.cells #[] 82)) := (((Below.refl _ _).alloc (Nat.le_refl _) _).alloc (by simp) _).alloc (by simp; omega) _
  have mk := PairRow.made (B := w.heap.size) (w := (w.alloc (.cells #[.slice (some ⟨b, o, none⟩) ms.length cp] 41)).alloc (.cells #[.int .i64 0, .int .i64 0, .slice none 0 0, .slice none 0 0, .int .i64 0, .bool false] 63)) (e := 82) (by simp; omega)
  have bp : (((w.alloc (.cells #[.slice (some ⟨b, o, none⟩) ms.length cp] 41)).alloc (.cells #[.int .i64 0, .int .i64 0, .slice none 0 0, .slice none 0 0, .int .i64 0, .bool false] 63)).alloc (.cells #[] 82)).cell? ⟨w.heap.size, 0, none⟩ = some (.slice (some ⟨b, o, none⟩) ms.length cp) := by simp [go_sem]
  have bz := (six_new (w.alloc (.cells #[.slice (some ⟨b, o, none⟩) ms.length cp] 41)) 63 (.int .i64 0) (.int .i64 0) (.slice none 0 0) (.slice none 0 0) (.int .i64 0) (.bool false)).alloc (.cells #[] 82)
  simp only [World.size_alloc] at mk bz
  have hs3 : (((w.alloc (.cells #[.slice (some ⟨b, o, none⟩) ms.length cp] 41)).alloc (.cells #[.int .i64 0, .int .i64 0, .slice none 0 0, .slice none 0 0, .int .i64 0, .bool false] 63)).alloc (.cells #[] 82)).heap.size ≥ w.heap.size + 1 + 1 := by simp
  have haA := ha.below hA
  have d1A := cell_below hA d1
  have hw : IntKind.i64.wrap ((t : Int) - (args.length : Int)) = ((t - args.length : Nat) : Int) := by rw [IntKind.wrap_i64]; omega
  go_enter Tryz.func87, Tryz.ntmps87
  go_upto_region 2 with (at_builtin; refine append_vals _ (by rfl) _ _ (by rfl) w.heap.size _ _ [] args (by rfl) (by rfl) mk haA (by simp; omega) (by simp; omega) ?_; intro v2 w2 hrow2 hg2 hb2)
  generalize ((w.alloc (.cells #[.slice (some ⟨b, o, none⟩) ms.length cp] 41)).alloc (.cells #[.int .i64 0, .int .i64 0, .slice none 0 0, .slice none 0 0, .int .i64 0, .bool false] 63)).alloc (.cells #[] 82) = W3 at *
  have B2 : Below w.heap.size w w2 := hA.grown hg2 (by omega) (fun q e => (mk.lt q e).1)
  have hg2' : W3.grownBy w2 (some (w.heap.size + 1 + 1)) := hg2
  have bp2 : w2.cell? ⟨w.heap.size, 0, none⟩ = some (.slice (some ⟨b, o, none⟩) ms.length cp) := hg2'.cell bp (by simp; omega)
  have bz2 := bz.of_block (hg2'.block (w.heap.size + 1) bz.lt (by simp))
  have d12 := cell_below B2 d1
  rw [List.nil_append] at hrow2
  have z2 := B2.size
  have hbb : ∀ g, v2.ownBlock = some g → w.heap.size + 1 < g := fun g e => by
    rcases hb2 with h2 | h2
    · rw [h2] at e; simp [Value.ownBlock] at e; omega
    · rw [h2] at e; simp at e; omega
  clear hg2 hg2' hb2 bp bz mk haA d1A hA hs3 d0 d1 d2 hc
  go_wp2_with fail
  refine (l11None_any (t - args.length) _ (by omega)).mono ?_
  rintro e w3 ⟨v3, rfl, hrow3, hb3⟩
  have B3 : Below w.heap.size w w3 := B2.trans (hb3.mono z2)
  have z3 := B3.size
  have bz3 := row_below hb3 bz2
  have hrow23 := hrow2.below hb3
  have hbz : w.heap.size + 1 < w2.heap.size := bz2.lt
  have y3 := hb3.size
  clear bp2 bz2 d12 hrow2 hb3 B2
  have HW4 : ∀ (w4 : World), w3.grownBy w4 v2.ownBlock → ∀ e, (w4.alloc e).rowIs (w.heap.size + 1) 63 6 (six (.int .i64 0) (.int .i64 0) (.slice none 0 0) (.slice none 0 0) (.int .i64 0) (.bool false)) := fun w4 hg e => by
    have h1 := bz3.of_block (hg.block (w.heap.size + 1) bz3.lt (fun e => by have := hbb _ e.symm; omega))
    exact h1.alloc e
  go_wp2_with (at_builtin; refine append_vals _ (by rfl) _ _ (by rfl) w.heap.size _ _ args (List.replicate (t - args.length) (0, 0)) (by rfl) (by rfl) hrow23 hrow3.at (by simp; omega) (by omega) ?_; intro v4 w4 hrow4 hg4 hb4; obtain ⟨a4, c4, hv4, _⟩ := hrow4.slice; subst hv4; obtain ⟨⟨q0, q1, q2, q3, q4, q5⟩, k0, k1, k2, k3, k4, k5⟩ := six_cells (HW4 w4 hg4 (.cells #[] 82)))
  have hlen : (args ++ List.replicate (t - args.length) ((0 : Int), (0 : Int))).length = t := by simp; omega
  rw [hlen] at hrow4 hb4
  have hz4 := hg4.size
  have hne4 : (Value.slice a4 t c4).ownBlock ≠ some (w.heap.size + 1) := fun e => by
    rcases hb4 with h4 | h4
    · rw [h4] at e; have := hbb _ e; omega
    · rw [h4] at e; simp at e; omega
  have B4 : Below w.heap.size w w4 := B3.grown hg4 z3 (fun q e => (hrow23.lt q e).1)
  have R4 := HW4 w4 hg4 (.cells #[] 82)
  have P4 := hrow4.below ((Below.refl _ _).alloc (Nat.le_refl _) (.cells #[] 82))
  have M4 := PairRow.made (B := w.heap.size) (w := w4) (e := 82) (by omega)
  have hlt4 : ∀ g, (Value.slice a4 t c4).ownBlock = some g → g < w4.heap.size := fun g e => (hrow4.lt g e).2
  have B5 := B4.alloc B4.size (.cells #[] 82)
  have hneM : (Value.slice (some ⟨w4.heap.size, 0, none⟩) 0 0).ownBlock ≠ some (w.heap.size + 1) := fun e => by simp [Value.ownBlock] at e; omega
  clear hg4 hb4 hrow4 HW4 q0 q1 q2 q3 q4 q5 k0 k1 k2 k3 k4 k5
  generalize w4.alloc (.cells #[] 82) = w5 at *
  have R9 := six_set5 (six_set4 (six_set3 (six_set2 (six_set1 (six_set0 R4 (.int .i64 m)) (.int .i64 0)) (.slice a4 t c4)) (.slice (some ⟨w4.heap.size, 0, none⟩) 0 0)) (.int .i64 sender)) (.bool false)
  have P9 := (((((P4.set_other (p := ⟨w.heap.size + 1, 0, none⟩) (.int .i64 m) hne4).set_other (p := ⟨w.heap.size + 1, 1, none⟩) (.int .i64 0) hne4).set_other (p := ⟨w.heap.size + 1, 2, none⟩) (.slice a4 t c4) hne4).set_other (p := ⟨w.heap.size + 1, 3, none⟩) (.slice (some ⟨w4.heap.size, 0, none⟩) 0 0) hne4).set_other (p := ⟨w.heap.size + 1, 4, none⟩) (.int .i64 sender) hne4).set_other (p := ⟨w.heap.size + 1, 5, none⟩) (.bool false) hne4
  have M9 := (((((M4.set_other (p := ⟨w.heap.size + 1, 0, none⟩) (.int .i64 m) hneM).set_other (p := ⟨w.heap.size + 1, 1, none⟩) (.int .i64 0) hneM).set_other (p := ⟨w.heap.size + 1, 2, none⟩) (.slice a4 t c4) hneM).set_other (p := ⟨w.heap.size + 1, 3, none⟩) (.slice (some ⟨w4.heap.size, 0, none⟩) 0 0) hneM).set_other (p := ⟨w.heap.size + 1, 4, none⟩) (.int .i64 sender) hneM).set_other (p := ⟨w.heap.size + 1, 5, none⟩) (.bool false) hneM
  have B9 := (((((B5.setCell (p := ⟨w.heap.size + 1, 0, none⟩) (Nat.le_succ _) (.int .i64 m)).setCell (p := ⟨w.heap.size + 1, 1, none⟩) (Nat.le_succ _) (.int .i64 0)).setCell (p := ⟨w.heap.size + 1, 2, none⟩) (Nat.le_succ _) (.slice a4 t c4)).setCell (p := ⟨w.heap.size + 1, 3, none⟩) (Nat.le_succ _) (.slice (some ⟨w4.heap.size, 0, none⟩) 0 0)).setCell (p := ⟨w.heap.size + 1, 4, none⟩) (Nat.le_succ _) (.int .i64 sender)).setCell (p := ⟨w.heap.size + 1, 5, none⟩) (Nat.le_succ _) (.bool false)
  generalize (((((w5.setCell ⟨w.heap.size + 1, 0, none⟩ (.int .i64 m)).setCell ⟨w.heap.size + 1, 1, none⟩ (.int .i64 0)).setCell ⟨w.heap.size + 1, 2, none⟩ (.slice a4 t c4)).setCell ⟨w.heap.size + 1, 3, none⟩ (.slice (some ⟨w4.heap.size, 0, none⟩) 0 0)).setCell ⟨w.heap.size + 1, 4, none⟩ (.int .i64 sender)).setCell ⟨w.heap.size + 1, 5, none⟩ (.bool false) = W9 at *
  obtain ⟨⟨q0, q1, q2, q3, q4, q5⟩, _⟩ := six_cells R9
  exact bodyPost_ret (v := .agg #[.int .i64 m, .int .i64 0, .slice a4 t c4, .slice (some ⟨w4.heap.size, 0, none⟩) 0 0, .int .i64 sender, .bool false]) (by simp [results, Tryz.results87, go_sem, q0, q1, q2, q3, q4, q5]) rfl ⟨_, _, rfl, P9, M9, fun g e e2 => by have := hlt4 g e; simp [Value.ownBlock] at e2; omega, B9⟩
end Go.Proofs.YtmifhlkcceafkaaGreat

/-
  Rows of calls of their own: a call is appended to them.
-/
namespace Go.Proofs.YtmifhlkcceafkaaGreat
open Go.RowKit
end Go.Proofs.YtmifhlkcceafkaaGreat

/-
  Calls in a row with their lists: no two lists share a block. Nothing of the translation is used here.
-/
namespace Go.Proofs.YtmifhlkcceafkaaGreat
open Go.RowKit
end Go.Proofs.YtmifhlkcceafkaaGreat

/-
  How many frames there are, and where each page's begin: thingPlacesOf, MachFrames and MachTwins of the program, MachFrames of the model.
-/
namespace Go.Proofs.YtmifhlkcceafkaaGreat
open Go.RowKit
def framesTo (ps : List Pg) (k : Nat) : Nat := ((ps.take k).map fun p => p.frames.length).sum
def framesN (ps : List Pg) : Nat := framesTo ps ps.length
def lowsTo (ps : List Pg) (k : Nat) : List Int := (List.range k).map fun i => (framesTo ps i : Int)
def lows (ps : List Pg) : List Int := lowsTo ps ps.length
end Go.Proofs.YtmifhlkcceafkaaGreat
