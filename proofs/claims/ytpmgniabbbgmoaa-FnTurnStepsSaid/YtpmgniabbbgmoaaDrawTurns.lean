/-
  What draws turns: l71Turns and DrawTurnSteps answer some turns, in memory of their own.
-/
import Derived.Test.YtpmgniabbbgmoaaTurnBase
import Derived.Deep.DeepCutAuto
namespace Go.Proofs.Ytpmgniabbbgmoaa
open Go.RowKit

theorem run_append_turns {ty : TypeId} {B : Nat} {w : World} {v xv : Value} {L M : List (Int × Int)} (hown : PairRow B w v L) (hM : OpsAt w xv M) (hL : L.length + M.length ≤ 3000000) (hB : B ≤ w.heap.size) :
    ∃ v' w', (Builtin.append_ #[23, 23] ty #[v, xv]).run Try.prog w = .ok v' w' ∧ PairRow B w' v' (L ++ M) ∧ w.grownBy w' v.ownBlock ∧ (v'.ownBlock = v.ownBlock ∨ v'.ownBlock = some w.heap.size) := by
  obtain ⟨i0, hi, hz0, hz1, hz2⟩ := info_parts Try.infoTurn
  have h1 := hown.crow
  have h2 := src_vals (P := Try.prog) Try.underlying23 hM
  rw [← hz1] at h1 h2
  obtain ⟨v', w', hr, hc, hg, hb⟩ := run_append_rows (P := Try.prog) (ty := ty) Try.underlying23 hi hz0 (by rw [hz1]; rfl) (by rw [hz2]; omega) h1 xv M.length (pcells M) h2 hL hB
  refine ⟨v', w', hr, ?_, hg, hb⟩
  rw [hz1, ← pcells_append] at hc
  exact hc.pair (by simp)

theorem append_turns {ops : Array Oper} {rest : List Oper} {o : Oper} {act : Act} {Q : Exit → Act → World → Prop} (w : World) (hgd : o.guard = none) (s x : Operand)
    (ho : o.op = .call { callee := .builtin .append, args := #[s, x], argTypes := #[23, 23] }) (B : Nat) (v xv : Value) (L M : List (Int × Int)) (hs : act.eval s = v) (hx : act.eval x = xv) (hown : PairRow B w v L) (hM : OpsAt w xv M)
    (hL : L.length + M.length ≤ 3000000) (hB : B ≤ w.heap.size)
    (h : ∀ v' w', PairRow B w' v' (L ++ M) → w.grownBy w' v.ownBlock → (v'.ownBlock = v.ownBlock ∨ v'.ownBlock = some w.heap.size) → wpList Try.prog ops Q rest (act.put o.dst v') w') :
    wpList Try.prog ops Q (o :: rest) act w := by
  obtain ⟨v', w', hr, h2, h3, h4⟩ := run_append_turns (ty := o.type) hown hM hL hB
  refine wpList_plain hgd fun K hK => ?_
  unfold Oper.wp execOp
  simp only [ho, resolve, invoke, builtin, Sem.run_bind, Sem.run_pure, Result.andThen_ok, List.map_toArray, List.map_cons, List.map_nil, hs, hx, hr]
  exact hK _ _ (h v' w' h2 h3 h4)

theorem grown_far {w0 w w' : World} {b : Nat} {row : Option Nat} (h : w0.grownBy w (some b)) (k : w.grownBy w' row) (hr : ∀ q, row = some q → w0.heap.size ≤ q) : w0.grownBy w' (some b) :=
  ⟨k.os.trans h.os, k.tape.trans h.tape, k.output.trans h.output, Nat.le_trans h.size k.size, fun q hq hne => (k.block q (by have := h.size; omega) (fun e => by have := hr q e.symm; omega)).trans (h.block q hq hne)⟩

theorem grown_set (w : World) (g o : Nat) (v : Value) : w.grownBy (w.setCell ⟨g, o, none⟩ v) (some g) :=
  ⟨rfl, rfl, rfl, by simp [World.setCell], fun k _ hne => Below.heap_setCell _ _ _ _ (fun e => hne (by rw [e]))⟩

theorem one_turn (w : World) (a b : Int) (t : TypeId) (c : Nat) : OpsAt (w.alloc (.cells #[.int .i64 a, .int .i64 b] t)) (.slice (some ⟨w.heap.size, 0, none⟩) 1 c) [(a, b)] :=
  ⟨_, c, rfl, by unfold maxLen; simp, fun i hi => by
    have hi0 : i = 0 := by simpa using hi
    subst hi0
    exact ⟨w.heap.size, 0, rfl, by simp [go_sem], by simp [go_sem]⟩⟩

/-- a place of the reader, at most -/
def Rd' (w : World) (b : Nat) (a : Option Addr) (len cap p : Nat) : Prop := ∃ q, q ≤ p ∧ Rd w b a len cap q
theorem Rd.more {w : World} {b : Nat} {a : Option Addr} {len cap p q : Nat} (h : Rd w b a len cap p) (hq : p ≤ q) : Rd' w b a len cap q := ⟨p, hq, h⟩

set_option maxRecDepth 100000 in
set_option maxHeartbeats 4000000 in
theorem l71Turns_any (w : World) (b : Nat) (a : Option Addr) (len cap p : Nat) (hr : Rd w b a len cap p) (hp : p + 100 ≤ 1000000) :
    Calls Try.prog 12 #[.pointer (some ⟨b, 0, none⟩), .int .i64 8] w fun e w' => ∃ v ts, e = .returned v ∧ PairRow w.heap.size w' v ts ∧ ts.length ≤ 8 ∧ Rd' w' b a len cap (p + 40) ∧ w.grownBy w' (some b) := by
  have hbl : b < w.heap.size := World.block_lt_of_cell? _ _ hr.s
  have hr1 := hr.alloc (.cells #[] 38)
  have hg1 := grown_far (World.grownBy.refl w (some b)) (World.grownBy_alloc w (.cells #[] 38) none) (fun q e => by cases e)
  have mk1 := PairRow.made (B := w.heap.size) (w := w) (e := 38) (Nat.le_refl _)
  go_enter Try.func12, Try.ntmps12
  go_wp2_with fail
  generalize w.alloc (.cells #[] 38) = w1 at *
  refine (pick_any _ _ _ _ _ _ 8 hr1 (by omega) (by omega) (by omega)).mono ?_
  rintro e w2 ⟨x, rfl, hx0, hx1, hr2, hg2⟩
  obtain ⟨n0, rfl⟩ := Int.eq_ofNat_of_zero_le hx0
  have hn0 : n0 ≤ 7 := by omega
  have hg2' := grown_trans hg1 hg2
  have PR2 : PairRow w.heap.size w2 (.slice (some ⟨w.heap.size, 0, none⟩) 0 0) [] := mk1.kept hg2.size (fun q e => hg2.block q (mk1.lt q e).2 (fun e2 => by have := (mk1.lt q e).1; injection e2 with e2; omega))
  have hz1 := hg1.size
  clear hr1 hg1 mk1 hg2 hx0 hx1
  go_wp2_with fail
  go_loopg [5, 6] ((n0 + 1) * 1) (fun d v i wr => ∃ (k : Nat) (L : List (Int × Int)) (q0 : Nat), L.length + k ≤ 8 ∧ d = k * 1 ∧ i = .int .i64 (k : Int) ∧ PairRow w.heap.size wr v L ∧ Rd' wr b a len cap q0 ∧ q0 + 4 * k ≤ p + 40 ∧ w.grownBy wr (some b))
  case atStart => exact ⟨n0 + 1, [], p + 1, by simp; omega, rfl, by go_num, PR2, hr2.more (Nat.le_refl _), by omega, hg2'⟩
  case round =>
    clear PR2 hr2 hg2'
    obtain ⟨k0, L, q0, hLk, rfl, rfl, PR, ⟨q1, hq1, hrr⟩, hq0, hgr⟩ := hrel
    obtain ⟨aL, cL, hvL, _⟩ := PR.slice
    subst hvL
    by_cases hk0 : k0 = 0
    · subst hk0
      go_wp2
      go_ret
      exact ⟨_, L, rfl, PR, by omega, ⟨q1, by omega, hrr⟩, hgr⟩
    obtain ⟨k, rfl⟩ : ∃ k, k0 = k + 1 := ⟨k0 - 1, by omega⟩
    have hk1 : (0 : Int) < ((k + 1 : Nat) : Int) := by omega
    go_wp2_with fail
    refine (pick_any _ _ _ _ _ _ 30 hrr (by omega) (by omega) (by omega)).mono ?_
    rintro e w3 ⟨x3, rfl, hx30, hx31, hr3, hg3⟩
    have hgA := grown_trans hgr hg3
    have PRA : PairRow w.heap.size w3 (.slice aL L.length cL) L := PR.kept hg3.size (fun q e => hg3.block q (PR.lt q e).2 (fun e2 => by have := (PR.lt q e).1; injection e2 with e2; omega))
    clear PR hrr hgr hg3
    go_upto_region 6 with fail
    have N4 : Below w3.heap.size w3 (w3.alloc (.cells #[.int .i64 1, .int .i64 x3] 38)) := (Below.refl _ _).alloc (Nat.le_refl _) _
    have rB := two_new w3 38 (.int .i64 1) (.int .i64 x3)
    have hr4 := hr3.alloc (.cells #[.int .i64 1, .int .i64 x3] 38)
    have hg4 := grown_far hgA (World.grownBy_alloc w3 (.cells #[.int .i64 1, .int .i64 x3] 38) none) (fun q e => by cases e)
    have PR4 := PRA.below N4
    have hz3 : w.heap.size ≤ w3.heap.size := hgA.size
    have hnb : ∀ q, (Value.slice aL L.length cL).ownBlock = some q → q ≠ w3.heap.size ∧ q ≠ b := fun q e => ⟨by have := (PRA.lt q e).2; omega, by have := (PRA.lt q e).1; omega⟩
    clear N4 hr3 hgA PRA
    generalize w3.alloc (.cells #[.int .i64 1, .int .i64 x3] 38) = w4 at *
    generalize w3.heap.size = bt at *
    go_wp2_with fail
    refine (pick_any _ _ _ _ _ _ 5 hr4 (by omega) (by omega) (by omega)).mono ?_
    rintro e w5 ⟨x5, rfl, hx50, hx51, hr5, hg5⟩
    have hgB := grown_trans hg4 hg5
    have PRB : PairRow w.heap.size w5 (.slice aL L.length cL) L := PR4.kept hg5.size (fun q e => hg5.block q (PR4.lt q e).2 (fun e2 => by injection e2 with e2; exact (hnb q e).2 e2))
    have rB5 := row_kept rB hg5 (fun e => by injection e with e; omega)
    clear PR4 hr4 hg4 hg5 rB
    by_cases h50 : x5 = 0
    · subst h50
      go_wp2_with fail
      refine (pick_any _ _ _ _ _ _ 5 hr5 (by omega) (by omega) (by omega)).mono ?_
      rintro e w6 ⟨x6, rfl, hx60, hx61, hr6, hg6⟩
      have hgC := grown_trans hgB hg6
      have PRC : PairRow w.heap.size w6 (.slice aL L.length cL) L := PRB.kept hg6.size (fun q e => hg6.block q (PRB.lt q e).2 (fun e2 => by injection e2 with e2; exact (hnb q e).2 e2))
      have rB6 := row_kept rB5 hg6 (fun e => by injection e with e; omega)
      clear PRB hr5 hgB hg6 rB5
      go_wp2_with fail
      refine (pick_any _ _ _ _ _ _ 12 hr6 (by omega) (by omega) (by omega)).mono ?_
      rintro e w7 ⟨x7, rfl, hx70, hx71, hr7, hg7⟩
      have hgD := grown_trans hgC hg7
      have PRD : PairRow w.heap.size w7 (.slice aL L.length cL) L := PRC.kept hg7.size (fun q e => hg7.block q (PRC.lt q e).2 (fun e2 => by injection e2 with e2; exact (hnb q e).2 e2))
      have rB7 := row_kept rB6 hg7 (fun e => by injection e with e; omega)
      clear PRC hr6 hgC hg7 rB6
      have hd : Int.tdiv x7 11 = x7 / 11 := Int.tdiv_eq_ediv_of_nonneg (by omega)
      obtain ⟨yy, hyy⟩ : ∃ yy : Int, x6 - x7 / 11 = yy := ⟨_, rfl⟩
      have hyb : -10 ≤ yy ∧ yy ≤ 20 := by omega
      obtain ⟨⟨e0, e1⟩, f0, f1⟩ := two_cells rB7
      go_upto_region 11 with fail
      have hbq : ∀ q, some bt = some q → w.heap.size ≤ q := fun q e => by injection e with e; omega
      have rT : ((w7.setCell ⟨bt, 0, none⟩ (.int .i64 2)).setCell ⟨bt, 1, none⟩ (.int .i64 yy)).rowIs bt 38 2 (two (.int .i64 2) (.int .i64 yy)) := ((rB7.set 0 (.int .i64 2)).set 1 (.int .i64 yy)).congr fun i hi => by match i, hi with | 0, _ => rfl | 1, _ => rfl
      have hrT := Rd.kept hr (Rd.kept hr hr7 hgD.size (grown_set w7 bt 0 (.int .i64 2)) hbq) (Nat.le_trans hgD.size (grown_set w7 bt 0 (.int .i64 2)).size) (grown_set (w7.setCell ⟨bt, 0, none⟩ (.int .i64 2)) bt 1 (.int .i64 yy)) hbq
      have hgT := grown_far (grown_far hgD (grown_set w7 bt 0 (.int .i64 2)) hbq) (grown_set (w7.setCell ⟨bt, 0, none⟩ (.int .i64 2)) bt 1 (.int .i64 yy)) hbq
      have PT : PairRow w.heap.size ((w7.setCell ⟨bt, 0, none⟩ (.int .i64 2)).setCell ⟨bt, 1, none⟩ (.int .i64 yy)) (.slice aL L.length cL) L := PRD.kept (Nat.le_trans (grown_set w7 bt 0 (.int .i64 2)).size (grown_set _ bt 1 _).size) (fun q e => (Below.heap_setCell _ _ _ _ (hnb q e).1).trans (Below.heap_setCell _ _ _ _ (hnb q e).1))
      clear e0 e1 f0 f1 hyy hd rB7 hr7 hgD PRD
      generalize (w7.setCell ⟨bt, 0, none⟩ (.int .i64 2)).setCell ⟨bt, 1, none⟩ (.int .i64 yy) = wT at *
      obtain ⟨⟨e0, e1⟩, _⟩ := two_cells rT
      have N1 : Below wT.heap.size wT (wT.alloc (.cells #[.int .i64 2, .int .i64 yy] 38)) := (Below.refl _ _).alloc (Nat.le_refl _) _
      have hone := one_turn wT 2 yy 38 1
      have hSS := PT.below N1
      have hbT : w.heap.size ≤ wT.heap.size := hgT.size
      have hrN := hrT.alloc (.cells #[.int .i64 2, .int .i64 yy] 38)
      have hgN := grown_far hgT (World.grownBy_alloc wT (.cells #[.int .i64 2, .int .i64 yy] 38) none) (fun q e => by cases e)
      have hnr : ∀ q, (Value.slice aL L.length cL).ownBlock = some q → w.heap.size ≤ q := fun q e => (hSS.lt q e).1
      clear PT
      go_wp2_with (at_builtin; refine append_turns _ (by rfl) _ _ (by rfl) w.heap.size _ _ L [(2, yy)] (by rfl) (by rfl) hSS hone (by simp; omega) (by simp; omega) ?_; intro vS wS hrS hgS hvS; obtain ⟨aS, cS, hvS2, _⟩ := hrS.slice; subst hvS2)
      have hrE := Rd.kept hr hrN (by simp; omega) hgS hnr
      have hgE := grown_far hgN hgS hnr
      go_roundg (k * 1)
      case measure => omega
      case rel => exact ⟨k, L ++ [(2, yy)], q0 + 4, by simp; omega, rfl, by go_num, by simpa using hrS, Rd.more hrE (by omega), by omega, hgE⟩
    by_cases h51 : x5 = 1
    · subst h51
      go_wp2_with fail
      refine (pick_any _ _ _ _ _ _ 4 hr5 (by omega) (by omega) (by omega)).mono ?_
      rintro e w6 ⟨x6, rfl, hx60, hx61, hr6, hg6⟩
      have hgC := grown_trans hgB hg6
      have PRC : PairRow w.heap.size w6 (.slice aL L.length cL) L := PRB.kept hg6.size (fun q e => hg6.block q (PRB.lt q e).2 (fun e2 => by injection e2 with e2; exact (hnb q e).2 e2))
      have rB6 := row_kept rB5 hg6 (fun e => by injection e with e; omega)
      clear PRB hr5 hgB hg6 rB5
      go_wp2_with fail
      refine (pick_any _ _ _ _ _ _ 12 hr6 (by omega) (by omega) (by omega)).mono ?_
      rintro e w7 ⟨x7, rfl, hx70, hx71, hr7, hg7⟩
      have hgD := grown_trans hgC hg7
      have PRD : PairRow w.heap.size w7 (.slice aL L.length cL) L := PRC.kept hg7.size (fun q e => hg7.block q (PRC.lt q e).2 (fun e2 => by injection e2 with e2; exact (hnb q e).2 e2))
      have rB7 := row_kept rB6 hg7 (fun e => by injection e with e; omega)
      clear PRC hr6 hgC hg7 rB6
      have hd : Int.tdiv x7 11 = x7 / 11 := Int.tdiv_eq_ediv_of_nonneg (by omega)
      obtain ⟨yy, hyy⟩ : ∃ yy : Int, 1 + x6 - x7 / 11 = yy := ⟨_, rfl⟩
      have hyb : -10 ≤ yy ∧ yy ≤ 20 := by omega
      obtain ⟨⟨e0, e1⟩, f0, f1⟩ := two_cells rB7
      go_upto_region 11 with fail
      have hbq : ∀ q, some bt = some q → w.heap.size ≤ q := fun q e => by injection e with e; omega
      have rT : ((w7.setCell ⟨bt, 0, none⟩ (.int .i64 3)).setCell ⟨bt, 1, none⟩ (.int .i64 yy)).rowIs bt 38 2 (two (.int .i64 3) (.int .i64 yy)) := ((rB7.set 0 (.int .i64 3)).set 1 (.int .i64 yy)).congr fun i hi => by match i, hi with | 0, _ => rfl | 1, _ => rfl
      have hrT := Rd.kept hr (Rd.kept hr hr7 hgD.size (grown_set w7 bt 0 (.int .i64 3)) hbq) (Nat.le_trans hgD.size (grown_set w7 bt 0 (.int .i64 3)).size) (grown_set (w7.setCell ⟨bt, 0, none⟩ (.int .i64 3)) bt 1 (.int .i64 yy)) hbq
      have hgT := grown_far (grown_far hgD (grown_set w7 bt 0 (.int .i64 3)) hbq) (grown_set (w7.setCell ⟨bt, 0, none⟩ (.int .i64 3)) bt 1 (.int .i64 yy)) hbq
      have PT : PairRow w.heap.size ((w7.setCell ⟨bt, 0, none⟩ (.int .i64 3)).setCell ⟨bt, 1, none⟩ (.int .i64 yy)) (.slice aL L.length cL) L := PRD.kept (Nat.le_trans (grown_set w7 bt 0 (.int .i64 3)).size (grown_set _ bt 1 _).size) (fun q e => (Below.heap_setCell _ _ _ _ (hnb q e).1).trans (Below.heap_setCell _ _ _ _ (hnb q e).1))
      clear e0 e1 f0 f1 hyy hd rB7 hr7 hgD PRD
      generalize (w7.setCell ⟨bt, 0, none⟩ (.int .i64 3)).setCell ⟨bt, 1, none⟩ (.int .i64 yy) = wT at *
      obtain ⟨⟨e0, e1⟩, _⟩ := two_cells rT
      have N1 : Below wT.heap.size wT (wT.alloc (.cells #[.int .i64 3, .int .i64 yy] 38)) := (Below.refl _ _).alloc (Nat.le_refl _) _
      have hone := one_turn wT 3 yy 38 1
      have hSS := PT.below N1
      have hbT : w.heap.size ≤ wT.heap.size := hgT.size
      have hrN := hrT.alloc (.cells #[.int .i64 3, .int .i64 yy] 38)
      have hgN := grown_far hgT (World.grownBy_alloc wT (.cells #[.int .i64 3, .int .i64 yy] 38) none) (fun q e => by cases e)
      have hnr : ∀ q, (Value.slice aL L.length cL).ownBlock = some q → w.heap.size ≤ q := fun q e => (hSS.lt q e).1
      clear PT
      go_wp2_with (at_builtin; refine append_turns _ (by rfl) _ _ (by rfl) w.heap.size _ _ L [(3, yy)] (by rfl) (by rfl) hSS hone (by simp; omega) (by simp; omega) ?_; intro vS wS hrS hgS hvS; obtain ⟨aS, cS, hvS2, _⟩ := hrS.slice; subst hvS2)
      have hrE := Rd.kept hr hrN (by simp; omega) hgS hnr
      have hgE := grown_far hgN hgS hnr
      go_roundg (k * 1)
      case measure => omega
      case rel => exact ⟨k, L ++ [(3, yy)], q0 + 4, by simp; omega, rfl, by go_num, by simpa using hrS, Rd.more hrE (by omega), by omega, hgE⟩
    · have rT := rB5
      have hrT := hr5
      have hgT := hgB
      have PT := PRB
      clear rB5 hr5 hgB PRB
      generalize w5 = wT at *
      obtain ⟨⟨e0, e1⟩, _⟩ := two_cells rT
      have N1 : Below wT.heap.size wT (wT.alloc (.cells #[.int .i64 1, .int .i64 x3] 38)) := (Below.refl _ _).alloc (Nat.le_refl _) _
      have hone := one_turn wT 1 x3 38 1
      have hSS := PT.below N1
      have hbT : w.heap.size ≤ wT.heap.size := hgT.size
      have hrN := hrT.alloc (.cells #[.int .i64 1, .int .i64 x3] 38)
      have hgN := grown_far hgT (World.grownBy_alloc wT (.cells #[.int .i64 1, .int .i64 x3] 38) none) (fun q e => by cases e)
      have hnr : ∀ q, (Value.slice aL L.length cL).ownBlock = some q → w.heap.size ≤ q := fun q e => (hSS.lt q e).1
      clear PT
      go_wp2_with (at_builtin; refine append_turns _ (by rfl) _ _ (by rfl) w.heap.size _ _ L [(1, x3)] (by rfl) (by rfl) hSS hone (by simp; omega) (by simp; omega) ?_; intro vS wS hrS hgS hvS; obtain ⟨aS, cS, hvS2, _⟩ := hrS.slice; subst hvS2)
      have hrE := Rd.kept hr hrN (by simp; omega) hgS hnr
      have hgE := grown_far hgN hgS hnr
      go_roundg (k * 1)
      case measure => omega
      case rel => exact ⟨k, L ++ [(1, x3)], q0 + 4, by simp; omega, rfl, by go_num, by simpa using hrS, Rd.more hrE (by omega), by omega, hgE⟩
set_option maxHeartbeats 2000000 in
theorem drawTurnSteps_any (w : World) (a : Option Addr) (len cap : Nat) (h : BytesAt w a len cap) :
    Calls Try.prog 5 #[.slice a len cap] w fun e w' => ∃ v ts B, e = .returned v ∧ PairRow B w' v ts ∧ ts.length ≤ 9 ∧ Below w.heap.size w w' := by
  go_enter Try.func5, Try.ntmps5
  go_wp2_with fail
  refine (l6Open_any _ a len cap h).mono ?_
  rintro e w2 ⟨n, rfl, hr2, z2, B2⟩
  go_wp2_with fail
  refine (l71Turns_any _ _ _ _ _ _ hr2 (by omega)).mono ?_
  rintro e w3 ⟨v, ts, rfl, P3, hl3, ⟨p3, hp3, hr3⟩, hg3⟩
  have B3 : Below w.heap.size w w3 := B2.grown hg3 (by omega) (fun k e => by cases e; omega)
  have z3 := hg3.size
  obtain ⟨aL, cL, hvL, _⟩ := P3.slice
  subst hvL
  have hne : ∀ q, (Value.slice aL ts.length cL).ownBlock = some q → q ≠ w.heap.size := fun q e => by have := (P3.lt q e).1; omega
  clear hg3 hr2 B2
  go_wp2_with fail
  refine (pick_any _ _ _ _ _ _ 3 hr3 (by omega) (by omega) (by omega)).mono ?_
  rintro e w4 ⟨x4, rfl, hx40, hx41, hr4, hg4⟩
  have B4 : Below w.heap.size w w4 := B3.grown hg4 (by have := B3.size; omega) (fun k e => by cases e; omega)
  have P4 : PairRow w2.heap.size w4 (.slice aL ts.length cL) ts := P3.kept hg4.size (fun q e => hg4.block q (P3.lt q e).2 (fun e2 => by injection e2 with e2; exact hne q e e2))
  have z4 := hg4.size
  clear P3 hr3 hg4 B3
  by_cases h4 : x4 = 0
  case neg =>
    go_wp2
    go_ret
    exact ⟨_, ts, _, rfl, P4, by omega, B4⟩
  subst h4
  go_wp2_with fail
  refine (pick_any _ _ _ _ _ _ 5 hr4 (by omega) (by omega) (by omega)).mono ?_
  rintro e w5 ⟨x5, rfl, hx50, hx51, hr5, hg5⟩
  have B5 : Below w.heap.size w w5 := B4.grown hg5 (by have := B4.size; omega) (fun k e => by cases e; omega)
  have P5 : PairRow w2.heap.size w5 (.slice aL ts.length cL) ts := P4.kept hg5.size (fun q e => hg5.block q (P4.lt q e).2 (fun e2 => by injection e2 with e2; exact hne q e e2))
  have z5 := hg5.size
  clear P4 hr4 hg5 B4
  have N5 : Below w5.heap.size w5 (w5.alloc (.cells #[.int .i64 (-1), .int .i64 401, .int .i64 7] 3)) := (Below.refl _ _).alloc (Nat.le_refl _) _
  have hr6 := hr5.alloc (.cells #[.int .i64 (-1), .int .i64 401, .int .i64 7] 3)
  have P6 := P5.below N5
  have B6 : Below w.heap.size w (w5.alloc (.cells #[.int .i64 (-1), .int .i64 401, .int .i64 7] 3)) := B5.alloc (by have := B5.size; omega) _
  have HCS : Hid (∀ i, i < 3 → ∃ y : Int, (w5.alloc (.cells #[.int .i64 (-1), .int .i64 401, .int .i64 7] 3)).cell? ⟨w5.heap.size, i, none⟩ = some (.int .i64 y)) := fun i hi => by
    rcases (by omega : i = 0 ∨ i = 1 ∨ i = 2) with rfl | rfl | rfl
    · exact ⟨-1, by simp [go_sem]⟩
    · exact ⟨401, by simp [go_sem]⟩
    · exact ⟨7, by simp [go_sem]⟩
  clear hr5 P5 B5
  go_wp2_with fail
  generalize w5.alloc (.cells #[.int .i64 (-1), .int .i64 401, .int .i64 7] 3) = w6 at *
  have z6 := N5.size
  refine (pick_any _ _ _ _ _ _ 3 hr6 (by omega) (by omega) (by omega)).mono ?_
  rintro e w7 ⟨x7, rfl, hx70, hx71, hr7, hg7⟩
  obtain ⟨i7, rfl⟩ := Int.eq_ofNat_of_zero_le hx70
  obtain ⟨y7, hy7⟩ := HCS.out i7 (by omega)
  have c7 : w7.cell? ⟨w5.heap.size, i7, none⟩ = some (.int .i64 y7) := hg7.cell hy7 (by simp; omega)
  have B7 : Below w.heap.size w w7 := B6.grown hg7 (by have := B6.size; omega) (fun k e => by cases e; omega)
  have P7 : PairRow w2.heap.size w7 (.slice aL ts.length cL) ts := P6.kept hg7.size (fun q e => hg7.block q (P6.lt q e).2 (fun e2 => by injection e2 with e2; exact hne q e e2))
  have z7 := hg7.size
  clear HCS hy7 P6 hr6 hg7 B6 N5 hr7
  have N7 : Below w7.heap.size w7 (w7.alloc (.cells #[.int .i64 x5, .int .i64 y7] 38)) := (Below.refl _ _).alloc (Nat.le_refl _) _
  have hone := one_turn w7 x5 y7 38 1
  have hSS := P7.below N7
  have B8 : Below w.heap.size w (w7.alloc (.cells #[.int .i64 x5, .int .i64 y7] 38)) := B7.alloc (by have := B7.size; omega) _
  have hnr : ∀ q, (Value.slice aL ts.length cL).ownBlock = some q → w2.heap.size ≤ q := fun q e => (hSS.lt q e).1
  clear P7 B7
  go_wp2_with (at_builtin; refine append_turns _ (by rfl) _ _ (by rfl) w2.heap.size _ _ ts [(x5, y7)] (by rfl) (by rfl) hSS hone (by simp; omega) (by simp; omega) ?_; intro vS wS hrS hgS hvS; obtain ⟨aS, cS, hvS2, _⟩ := hrS.slice; subst hvS2)
  have BS : Below w.heap.size w wS := B8.grown hgS (by simp; omega) (fun k e => by have := hnr k e; omega)
  go_ret
  exact ⟨_, ts ++ [(x5, y7)], _, rfl, by simpa using hrS, by simp; omega, BS⟩

end Go.Proofs.Ytpmgniabbbgmoaa
