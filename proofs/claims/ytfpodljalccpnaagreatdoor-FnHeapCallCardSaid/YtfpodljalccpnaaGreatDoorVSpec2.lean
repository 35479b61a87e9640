/-
  The program's step, its parts: the operation that is next, the kinds of what is taken, what is taken, who does it.
-/
import Derived.Test.YtfpodljalccpnaaGreatDoorSMem4
import Derived.Test.YtfpodljalccpnaaGreatDoorLMem
import Derived.Deep.RegionWith
import Derived.Deep.RegionHeld3
import Derived.Deep.QuietTactic
import Derived.Test.YtfpodljalccpnaaGreatDoorSMem
import Derived.Test.YtfpodljalccpnaaGreatDoorStepT

namespace Go.Proofs.YtfpodljalccpnaaGreatDoor
open Go.RowKit
set_option maxRecDepth 100000 in
set_option maxHeartbeats 2000000 in
theorem opAt_any (vp : Value) (ms : Ms) (m pc : Nat) (w : World) (hM : MethsAt w vp ms) (hm : m < ms.length) :
    Calls Tryz.prog 102 #[.agg #[vp], .int .i64 m, .int .i64 pc] w fun e w' => e = .returned (.tuple #[.agg #[.int .i64 (ms[m].2.2.getD pc (0, 0)).1, .int .i64 (ms[m].2.2.getD pc (0, 0)).2], .bool (decide (pc < ms[m].2.2.length))]) ∧ Below w.heap.size w w' := by
  have hA : Below w.heap.size w ((w.alloc (.cells #[vp] 25)).alloc (.cells #[.int .i64 0, .int .i64 0] 49)) := ((Below.refl _ _).alloc (Nat.le_refl _) _).alloc (by simp) _
  have hMA := hM.below hA
  obtain ⟨ap, cp, hvp, hlp, hms⟩ := id hMA
  obtain ⟨pb, po, vo, hap, p0, p1, p2, p3⟩ := hms m hm
  obtain ⟨oa, oc, hvo, hol, hops⟩ := id p3
  subst hvp hap hvo
  have r1 := two_new (w.alloc (.cells #[.slice (some ⟨pb, po, none⟩) ms.length cp] 25)) 49 (.int .i64 0) (.int .i64 0)
  simp only [World.size_alloc] at r1
  have hmz : (m : Int) < (ms.length : Int) := by omega
  clear hms hM hMA
  by_cases hpl : pc < ms[m].2.2.length
  · rw [decide_eq_true hpl, getD_at hpl]
    obtain ⟨ob, oo, hob, q0, q1⟩ := hops pc hpl
    subst hob
    have hpz : (pc : Int) < (ms[m].2.2.length : Int) := by omega
    have hp0 : (0 : Int) ≤ (pc : Int) := by omega
    clear hops p3
    generalize ms[m].2.2[pc] = op at *
    obtain ⟨kk, a⟩ := op
    generalize ms[m].2.2.length = no at *
    have r0 := (box_row w 25 (.slice (some ⟨pb, po, none⟩) ms.length cp)).alloc (.cells #[.int .i64 0, .int .i64 0] 49)
    go_enter Tryz.func102, Tryz.ntmps102
    go_upto_region 1 with fail
    generalize (w.alloc (.cells #[.slice (some ⟨pb, po, none⟩) ms.length cp] 25)).alloc (.cells #[.int .i64 0, .int .i64 0] 49) = W at *
    obtain ⟨⟨u0, u1⟩, uf0, uf1⟩ := two_cells r1
    have v0 := r0.cell (i := 0) (by decide)
    go_wp2_with (go_at_call 64; refine (isPlace_any _ _ _).mono ?_; rintro e w' ⟨rfl, hw⟩; obtain rfl := hw.symm; rw [inR_true.2 ⟨hp0, by omega⟩])
    have R9 : ((W.setCell ⟨w.heap.size + 1, 0, none⟩ (.int .i64 kk)).setCell ⟨w.heap.size + 1, 1, none⟩ (.int .i64 a)).rowIs (w.heap.size + 1) 49 2 (two (.int .i64 kk) (.int .i64 a)) := ((two_set0 r1 (.int .i64 kk)).set 1 (.int .i64 a)).congr fun i hi => by match i, hi with | 0, _ => rfl | 1, _ => rfl
    have B9 : Below w.heap.size w ((W.setCell ⟨w.heap.size + 1, 0, none⟩ (.int .i64 kk)).setCell ⟨w.heap.size + 1, 1, none⟩ (.int .i64 a)) := (hA.setCell (p := ⟨w.heap.size + 1, 0, none⟩) (Nat.le_succ _) _).setCell (p := ⟨w.heap.size + 1, 1, none⟩) (Nat.le_succ _) _
    obtain ⟨⟨s0, s1⟩, _⟩ := two_cells R9
    generalize (W.setCell ⟨w.heap.size + 1, 0, none⟩ (.int .i64 kk)).setCell ⟨w.heap.size + 1, 1, none⟩ (.int .i64 a) = W9 at *
    exact bodyPost_ret (v := .tuple #[.agg #[.int .i64 kk, .int .i64 a], .bool true]) (by simp [results, Tryz.results102, go_sem, s0, s1]) rfl ⟨rfl, B9⟩
  · rw [decide_eq_false hpl, List.getD_eq_getElem?_getD, List.getElem?_eq_none (by omega)]
    clear hops
    generalize ms[m].2.2.length = no at *
    have r0 := (box_row w 25 (.slice (some ⟨pb, po, none⟩) ms.length cp)).alloc (.cells #[.int .i64 0, .int .i64 0] 49)
    go_enter Tryz.func102, Tryz.ntmps102
    go_upto_region 1 with fail
    generalize (w.alloc (.cells #[.slice (some ⟨pb, po, none⟩) ms.length cp] 25)).alloc (.cells #[.int .i64 0, .int .i64 0] 49) = W at *
    obtain ⟨⟨u0, u1⟩, uf0, uf1⟩ := two_cells r1
    have v0 := r0.cell (i := 0) (by decide)
    go_wp2_with (go_at_call 64; refine (isPlace_any _ _ _).mono ?_; rintro e w' ⟨rfl, hw⟩; obtain rfl := hw.symm; rw [inR_false.2 (by omega)])
    have R9 : ((W.setCell ⟨w.heap.size + 1, 0, none⟩ (.int .i64 0)).setCell ⟨w.heap.size + 1, 1, none⟩ (.int .i64 0)).rowIs (w.heap.size + 1) 49 2 (two (.int .i64 0) (.int .i64 0)) := ((two_set0 r1 (.int .i64 0)).set 1 (.int .i64 0)).congr fun i hi => by match i, hi with | 0, _ => rfl | 1, _ => rfl
    have B9 : Below w.heap.size w ((W.setCell ⟨w.heap.size + 1, 0, none⟩ (.int .i64 0)).setCell ⟨w.heap.size + 1, 1, none⟩ (.int .i64 0)) := (hA.setCell (p := ⟨w.heap.size + 1, 0, none⟩) (Nat.le_succ _) _).setCell (p := ⟨w.heap.size + 1, 1, none⟩) (Nat.le_succ _) _
    obtain ⟨⟨s0, s1⟩, _⟩ := two_cells R9
    generalize (W.setCell ⟨w.heap.size + 1, 0, none⟩ (.int .i64 0)).setCell ⟨w.heap.size + 1, 1, none⟩ (.int .i64 0) = W9 at *
    exact bodyPost_ret (v := .tuple #[.agg #[.int .i64 0, .int .i64 0], .bool false]) (by simp [results, Tryz.results102, go_sem, s0, s1]) rfl ⟨rfl, B9⟩
end Go.Proofs.YtfpodljalccpnaaGreatDoor

/-
  A heap while the program's operations are done: what a callee leaves as it is.
-/
namespace Go.Proofs.YtfpodljalccpnaaGreatDoor
open Go.RowKit
def LOwn (bl br : Nat) (vcs vsd : Value) (C D : Nat → Nat) (T : Nat → Value × Value) (n : Nat) (g : Nat) : Prop := ∃ x : Blk, x.ok n ∧ x.at bl br vcs vsd C D T = some g
structure LGo (B : Nat) (P P' : Nat → Prop) (w w' : World) : Prop where
  b : Below B w w'
  keep : ∀ g, g < w.heap.size → ¬ P g → w'.heap[g]? = w.heap[g]?
  own : ∀ g, P' g → P g ∨ w.heap.size ≤ g
theorem LGo.refl (B : Nat) (P : Nat → Prop) (w : World) : LGo B P P w w := ⟨Below.refl _ _, fun _ _ _ => rfl, fun _ h => .inl h⟩
theorem LGo.trans {B : Nat} {P P' P'' : Nat → Prop} {a b c : World} (h : LGo B P P' a b) (k : LGo B P' P'' b c) : LGo B P P'' a c :=
  ⟨h.b.trans k.b, fun g hg hn => (k.keep g (Nat.lt_of_lt_of_le hg h.b.size) (fun e => by rcases h.own g e with x | x; exact hn x; omega)).trans (h.keep g hg hn), fun g e => by
    rcases k.own g e with x | x
    · exact h.own g x
    · have := h.b.size; exact .inr (by omega)⟩
theorem LGo.of_below {B : Nat} {P : Nat → Prop} {w w' : World} (hB : B ≤ w.heap.size) (hb : Below w.heap.size w w') : LGo B P P w w' := ⟨hb.mono hB, fun g hg _ => hb.block g hg, fun _ h => .inl h⟩
theorem LGo.set {B : Nat} {P : Nat → Prop} {w : World} {p : Addr} (hp : P p.block) (hB : B ≤ p.block) (u : Value) : LGo B P P w (w.setCell p u) :=
  ⟨(Below.refl _ _).setCell hB u, fun _ _ hn => Below.heap_setCell _ _ _ _ (fun e => hn (by rw [e]; exact hp)), fun _ h => .inl h⟩
theorem LGo.row {B : Nat} {P P' : Nat → Prop} {w w' : World} (h : LGo B P P' w w') {g : Nat} {t : TypeId} {n : Nat} {f : Nat → Value} (hr : w.rowIs g t n f) (hg : ¬ P g) : w'.rowIs g t n f := hr.of_block (h.keep g hr.lt hg)
variable {B : Nat} {w w' : World} {bl br : Nat} {vp vcs vsd : Value} {C D : Nat → Nat} {T : Nat → Value × Value} {h h' : Hp}
theorem LV.new (k : LV B w bl br vp vcs vsd C D T h) {g : Nat} (hg : w.heap.size ≤ g) : ¬ LOwn bl br vcs vsd C D T h.calls.length g := fun ⟨x, hx, e⟩ => by have := (k.lo x hx g e).2; omega
theorem LV.turn_go {j : Nat} (hj : j < h.calls.length) {vt vs : Value} (hb : Below B w w')
    (hbl : ∀ g, g < w.heap.size → g ≠ D j → (T j).1.ownBlock ≠ some g → (T j).2.ownBlock ≠ some g → w'.heap[g]? = w.heap[g]?)
    (nt : ∀ q, vt.ownBlock = some q → (T j).1.ownBlock = some q ∨ (T j).2.ownBlock = some q ∨ w.heap.size ≤ q) (ns : ∀ q, vs.ownBlock = some q → (T j).1.ownBlock = some q ∨ (T j).2.ownBlock = some q ∨ w.heap.size ≤ q) :
    LGo B (LOwn bl br vcs vsd C D T h.calls.length) (LOwn bl br vcs vsd C D (putV T j (vt, vs)) h.calls.length) w w' := by
  refine ⟨hb, fun g hg hn => hbl g hg (fun e => hn ⟨.body j, hj, by rw [e]; rfl⟩) (fun e => hn ⟨.temps j, hj, e⟩) (fun e => hn ⟨.stack j, hj, e⟩), fun g ⟨x, hx, e⟩ => ?_⟩
  by_cases x1 : x = .temps j
  · subst x1
    simp only [Blk.at, putV_same] at e
    rcases nt g e with q | q | q
    · exact .inl ⟨.temps j, hj, q⟩
    · exact .inl ⟨.stack j, hj, q⟩
    · exact .inr q
  by_cases x2 : x = .stack j
  · subst x2
    simp only [Blk.at, putV_same] at e
    rcases ns g e with q | q | q
    · exact .inl ⟨.temps j, hj, q⟩
    · exact .inl ⟨.stack j, hj, q⟩
    · exact .inr q
  refine .inl ⟨x, hx, ?_⟩
  rw [← e]
  cases x with
  | temps i => simp only [Blk.at]; rw [putV_other _ _ (fun q => x1 (by rw [q]))]
  | stack i => simp only [Blk.at]; rw [putV_other _ _ (fun q => x2 (by rw [q]))]
  | _ => rfl
theorem LV.push (k : LV B w bl br vp vcs vsd C D T h) {j : Nat} (hj : j < h.calls.length) {w2 : World} {v' : Value} {st : List (Int × Int)} (_hB : B ≤ w.heap.size) (hg : w.heap.size ≤ w2.heap.size) (hw : Below B w w2)
    (hbl : ∀ g, g < w.heap.size → (T j).2.ownBlock ≠ some g → w2.heap[g]? = w.heap[g]?) (hr : PairRow B w2 v' st) (hv : ∀ q, v'.ownBlock = some q → (T j).2.ownBlock = some q ∨ w.heap.size ≤ q) :
    LV B (w2.setCell ⟨D j, 3, none⟩ v') bl br vp vcs vsd C D (putV T j ((T j).1, v')) { h with calls := h.calls.set j { h.calls[j] with stack := st } } ∧ LGo B (LOwn bl br vcs vsd C D T h.calls.length) (LOwn bl br vcs vsd C D (putV T j ((T j).1, v')) h.calls.length) w (w2.setCell ⟨D j, 3, none⟩ v') := by
  have hDl := k.lo (.body j) hj (D j) rfl
  have hDs : (T j).2.ownBlock ≠ some (D j) := fun e => by have := k.ap (.stack j) (.body j) hj hj (D j) e rfl; cases this
  have hDt : (T j).1.ownBlock ≠ some (D j) := fun e => by have := k.ap (.temps j) (.body j) hj hj (D j) e rfl; cases this
  have hTS : ∀ q, (T j).1.ownBlock = some q → (T j).2.ownBlock ≠ some q := fun q e e2 => by have := k.ap (.temps j) (.stack j) hj hj q e e2; cases this
  have hvD : v'.ownBlock ≠ some (D j) := fun e => by
    rcases hv _ e with x | x
    · exact hDs x
    · omega
  have hz : w.heap.size ≤ (w2.setCell ⟨D j, 3, none⟩ v').heap.size := by simp [World.setCell]; exact hg
  have hbl' : ∀ g, g < w.heap.size → g ≠ D j → (T j).1.ownBlock ≠ some g → (T j).2.ownBlock ≠ some g → (w2.setCell ⟨D j, 3, none⟩ v').heap[g]? = w.heap[g]? := fun g h1 h2 _ h4 => (Below.heap_setCell _ _ _ _ (fun e => h2 e)).trans (hbl g h1 h4)
  have hbd : (w2.setCell ⟨D j, 3, none⟩ v').rowIs (D j) 143 5 (five (.int .i64 h.calls[j].m) (.int .i64 h.calls[j].pc) (T j).1 v' (.bool h.calls[j].dead)) := five_set3 ((k.bd j hj).of_block (hbl _ hDl.2 hDs)) v'
  have ht := (k.ts j hj).1
  have ht' : PairRow B (w2.setCell ⟨D j, 3, none⟩ v') (T j).1 h.calls[j].temps := (ht.kept hg fun q e => hbl q (ht.lt q e).2 (hTS q e)).set_other _ hDt
  have nt : ∀ q, (T j).1.ownBlock = some q → (T j).1.ownBlock = some q ∨ (T j).2.ownBlock = some q ∨ w.heap.size ≤ q := fun q e => .inl e
  have ns : ∀ q, v'.ownBlock = some q → (T j).1.ownBlock = some q ∨ (T j).2.ownBlock = some q ∨ w.heap.size ≤ q := fun q e => .inr (hv q e)
  have nn : ∀ q, (T j).1.ownBlock = some q → v'.ownBlock ≠ some q := fun q e e2 => by
    rcases hv q e2 with x | x
    · exact hTS q e x
    · have := (ht.lt q e).2; omega
  exact ⟨k.turn hj rfl hz hbl' hbd ht' (hr.set_other _ hvD) nt ns nn, LV.turn_go hj (hw.setCell (p := ⟨D j, 3, none⟩) hDl.1 v') hbl' nt ns⟩
theorem LV.say_go (k : LV B w bl br vp vcs vsd C D T h) (v' : Value) (hb : Below B w w') (hbl : ∀ g, g < w.heap.size → vsd.ownBlock ≠ some g → w'.heap[g]? = w.heap[g]?) (hv : ∀ q, v'.ownBlock = some q → vsd.ownBlock = some q ∨ w.heap.size ≤ q) :
    LGo B (LOwn bl br vcs vsd C D T h.calls.length) (LOwn bl br vcs v' C D T h.calls.length) w (w'.setCell ⟨br, 3, none⟩ v') := by
  have hr := k.lo .run trivial br rfl
  refine ⟨hb.setCell (p := ⟨br, 3, none⟩) hr.1 v', fun g hg hn => (Below.heap_setCell _ _ _ _ (fun e => hn ⟨.run, trivial, by rw [e]; rfl⟩)).trans (hbl g hg (fun e => hn ⟨.said, trivial, e⟩)), fun g ⟨x, hx, e⟩ => ?_⟩
  by_cases x1 : x = .said
  · subst x1
    rcases hv g e with q | q
    · exact .inl ⟨.said, trivial, q⟩
    · exact .inr q
  · refine .inl ⟨x, hx, ?_⟩
    rw [← e]
    cases x <;> first | rfl | exact absurd rfl x1
end Go.Proofs.YtfpodljalccpnaaGreatDoor

/-
  The program's heap at work: who runs, who is looked at, where it is, who called it.
-/
namespace Go.Proofs.YtfpodljalccpnaaGreatDoor
open Go.RowKit
variable {B : Nat} {w w' : World} {bl br : Nat} {vp vcs vsd : Value} {C D : Nat → Nat} {T : Nat → Value × Value} {h h' : Hp}
theorem LV.ptr (k : LV B w bl br vp vcs vsd C D T h) (hp : 0 < h.calls.length) : ∃ g off cap, vcs = .slice (some ⟨g, off, none⟩) h.calls.length cap ∧ h.calls.length ≤ cap ∧ ∀ i, i < h.calls.length → w.cell? ⟨g, off + i, none⟩ = some (.pointer (some ⟨C i, 0, none⟩)) := by
  obtain ⟨_, hr⟩ := k.row
  rcases hr with ⟨_, e⟩ | ⟨g, off, cap, hv, _, _, hl, _, _, hx⟩
  · omega
  · refine ⟨g, off, cap, hv, hl, fun i hi => ?_⟩
    have := hx i (by simp [ptrs]; exact hi)
    simpa [ptrs] using this
set_option maxRecDepth 100000 in
theorem running_any (k : LV B w bl br vp vcs vsd C D T h) {j : Nat} (hn : h.now = (j : Int)) (hj : j < h.calls.length) :
    Calls Tryz.prog 168 #[.pointer (some ⟨bl, 0, none⟩)] w fun e w' => e = .returned (.pointer (some ⟨D j, 0, none⟩)) ∧ w' = w := by
  obtain ⟨⟨x0, x1⟩, _⟩ := two_cells k.hp
  rw [hn, ptrN_at] at x1
  obtain ⟨⟨y0, y1, y2⟩, _⟩ := trio_cells (k.cl j hj)
  go_enter Tryz.func168, Tryz.ntmps168
  go_wp2
  go_ret
  exact ⟨rfl, rfl⟩
set_option maxRecDepth 100000 in
theorem running_none (k : LV B w bl br vp vcs vsd C D T h) (hn : h.now < 0) :
    Calls Tryz.prog 168 #[.pointer (some ⟨bl, 0, none⟩)] w fun e w' => e = .returned (.pointer none) ∧ w' = w := by
  obtain ⟨⟨x0, x1⟩, _⟩ := two_cells k.hp
  rw [ptrN_neg hn] at x1
  go_enter Tryz.func168, Tryz.ntmps168
  go_wp2
  go_ret
  exact ⟨rfl, rfl⟩
set_option maxRecDepth 100000 in
theorem looked_any (k : LV B w bl br vp vcs vsd C D T h) {j : Nat} (hj : j < h.calls.length) :
    Calls Tryz.prog 167 #[.pointer (some ⟨bl, 0, none⟩), .int .i64 j] w fun e w' => e = .returned (.pointer (some ⟨D j, 0, none⟩)) ∧ w' = w := by
  obtain ⟨⟨x0, x1⟩, _⟩ := two_cells k.hp
  obtain ⟨g, off, cap, hv, hl, hx⟩ := k.ptr (by omega)
  subst hv
  have z := hx j hj
  clear hx
  obtain ⟨⟨y0, y1, y2⟩, _⟩ := trio_cells (k.cl j hj)
  have hjz : (j : Int) < (h.calls.length : Int) := by omega
  go_enter Tryz.func167, Tryz.ntmps167
  go_wp2
  go_ret
  exact ⟨rfl, rfl⟩
set_option maxRecDepth 100000 in
theorem callVal_at (j : Nat) (w : World) :
    Calls Tryz.prog 170 #[.int .i64 j] w fun e w' => e = .returned (.agg #[.int .i64 2, .int .i64 j]) ∧ Below w.heap.size w w' := by
  have hne : ((j : Int) == -1) = false := beq_eq_false_iff_ne.2 (by omega)
  go_enter Tryz.func170, Tryz.ntmps170
  go_wp2
  exact bodyPost_ret (v := .agg #[.int .i64 2, .int .i64 j]) (by simp [results, Tryz.results170, go_sem]) rfl ⟨rfl, (Below.refl _ _).alloc (Nat.le_refl _) _⟩
set_option maxRecDepth 100000 in
theorem callVal_none (w : World) :
    Calls Tryz.prog 170 #[.int .i64 (-1)] w fun e w' => e = .returned (.agg #[.int .i64 0, .int .i64 0]) ∧ Below w.heap.size w w' := by
  go_enter Tryz.func170, Tryz.ntmps170
  go_wp2
  exact bodyPost_ret (v := .agg #[.int .i64 0, .int .i64 0]) (by simp [results, Tryz.results170, go_sem]) rfl ⟨rfl, (Below.refl _ _).alloc (Nat.le_refl _) _⟩
set_option maxRecDepth 100000 in
theorem placeOf_none (w : World) : Calls Tryz.prog 59 #[.pointer none] w fun e w' => e = .returned (.int .i64 (-1)) ∧ w' = w := by
  go_enter Tryz.func59, Tryz.ntmps59
  go_wp2
  go_ret
  exact ⟨rfl, rfl⟩
set_option maxRecDepth 100000 in
theorem placeOf_at (c j : Nat) (w : World) (hc : w.cell? ⟨c, 1, none⟩ = some (.int .i64 j)) : Calls Tryz.prog 59 #[.pointer (some ⟨c, 0, none⟩)] w fun e w' => e = .returned (.int .i64 j) ∧ w' = w := by
  go_enter Tryz.func59, Tryz.ntmps59
  go_wp2
  go_ret
  exact ⟨rfl, rfl⟩
set_option maxRecDepth 100000 in
theorem here_any (k : LV B w bl br vp vcs vsd C D T h) {j : Nat} (hn : h.now = (j : Int)) (hj : j < h.calls.length) :
    Calls Tryz.prog 165 #[.pointer (some ⟨bl, 0, none⟩)] w fun e w' => e = .returned (.agg #[.int .i64 2, .int .i64 j]) ∧ Below w.heap.size w w' := by
  have hA : Below w.heap.size w (w.alloc (.cells #[.int .i64 0, .int .i64 0] 51)) := (Below.refl _ _).alloc (Nat.le_refl _) _
  have rx := two_new w 51 (.int .i64 0) (.int .i64 0)
  have kA := k.below hA
  obtain ⟨⟨x0, x1⟩, _⟩ := two_cells kA.hp
  rw [hn, ptrN_at] at x1
  obtain ⟨⟨y0, y1, y2⟩, _⟩ := trio_cells (kA.cl j hj)
  go_enter Tryz.func165, Tryz.ntmps165
  go_wp2_with (go_at_call 170; refine (callVal_at j _).mono ?_; rintro e w2 ⟨rfl, hb⟩; have r2 := row_below hb rx; obtain ⟨⟨t0, t1⟩, tf0, tf1⟩ := two_cells r2)
  have hB2 := hA.trans (hb.mono hA.size)
  have R9 : ((w2.setCell ⟨w.heap.size, 0, none⟩ (.int .i64 2)).setCell ⟨w.heap.size, 1, none⟩ (.int .i64 j)).rowIs w.heap.size 51 2 (two (.int .i64 2) (.int .i64 j)) := ((two_set0 r2 (.int .i64 2)).set 1 (.int .i64 j)).congr fun i hi => by match i, hi with | 0, _ => rfl | 1, _ => rfl
  have B9 := (hB2.setCell (p := ⟨w.heap.size, 0, none⟩) (Nat.le_refl _) (.int .i64 2)).setCell (p := ⟨w.heap.size, 1, none⟩) (Nat.le_refl _) (.int .i64 j)
  generalize (w2.setCell ⟨w.heap.size, 0, none⟩ (.int .i64 2)).setCell ⟨w.heap.size, 1, none⟩ (.int .i64 j) = W9 at *
  obtain ⟨⟨q0, q1⟩, _⟩ := two_cells R9
  exact bodyPost_ret (v := .agg #[.int .i64 2, .int .i64 j]) (by simp [results, Tryz.results165, go_sem, q0, q1]) rfl ⟨rfl, B9⟩
end Go.Proofs.YtfpodljalccpnaaGreatDoor

/-
  The program's step, its parts: the kinds of what is taken, what is taken.
-/
namespace Go.Proofs.YtfpodljalccpnaaGreatDoor
open Go.RowKit
set_option maxRecDepth 100000 in
set_option maxHeartbeats 4000000 in
theorem kindsFit_any (k a : Int) (va : Value) (args : List (Int × Int)) (w : World) (hM : OpsAt w va args) (h5 : k = 5 → args.length = 2) (h1 : k = 12 ∨ k = 13 ∨ k = 14 ∨ k = 15 ∨ k = 17 ∨ k = 18 → 1 ≤ args.length) :
    Calls Tryz.prog 121 #[.agg #[.int .i64 k, .int .i64 a], va] w fun e w' => e = .returned (.bool (kindsOk k args)) ∧ Below w.heap.size w w' := by
  obtain ⟨aa, ca, rfl, hal, hc⟩ := hM
  have hA : Below w.heap.size w (w.alloc (.cells #[.int .i64 k, .int .i64 a] 49)) := (Below.refl _ _).alloc (Nat.le_refl _) _
  have ro := two_new w 49 (.int .i64 k) (.int .i64 a)
  by_cases e5 : k = 5
  · subst e5
    have hl := h5 rfl
    obtain ⟨b, o, rfl, p0, p1⟩ := hc 0 (by omega)
    obtain ⟨b', o', hbo, q0, q1⟩ := hc 1 (by omega)
    obtain ⟨rfl, rfl⟩ : b = b' ∧ o = o' := by injection hbo with e; injection e with e1 e2; exact ⟨e1, e2⟩
    have hz0 : (0 : Int) < (args.length : Int) := by omega
    have hz1 : (1 : Int) < (args.length : Int) := by omega
    have HK : Hid (kindsOk 5 args = ((args[0]'(by omega)).1 == 1 && (args[1]'(by omega)).1 == 1)) := by
      show _ = _
      unfold kindsOk
      rw [if_pos rfl, getD_at (by omega), getD_at (by omega)]
    have p0A := cell_below hA p0
    have q0A := cell_below hA q0
    simp only [Nat.zero_mul, Nat.add_zero, Nat.one_mul] at p0A q0A
    go_enter Tryz.func121, Tryz.ntmps121
    go_upto_region 1 with fail
    generalize w.alloc (.cells #[.int .i64 5, .int .i64 a] 49) = W at *
    obtain ⟨⟨o0, o1⟩, _⟩ := two_cells ro
    generalize hx : args[0].1 = X at *
    generalize hy : args[1].1 = Y at *
    by_cases ex : X = 1
    · subst ex
      go_wp2
      go_ret
      exact ⟨by rw [HK.out]; simp, hA⟩
    · have ex' : (X == 1) = false := beq_eq_false_iff_ne.2 ex
      go_wp2
      go_ret
      exact ⟨by rw [HK.out, ex']; simp, hA⟩
  have e5' : (k == 5) = false := beq_eq_false_iff_ne.2 e5
  by_cases ek : k = 12 ∨ k = 13 ∨ k = 14 ∨ k = 15 ∨ k = 17 ∨ k = 18
  · have hl := h1 ek
    obtain ⟨b, o, rfl, p0, p1⟩ := hc 0 (by omega)
    have hz0 : (0 : Int) < (args.length : Int) := by omega
    have HK : Hid (kindsOk k args = ((args[0]'(by omega)).1 == 2)) := by
      show _ = _
      unfold kindsOk
      rw [if_neg e5, if_pos ek, getD_at (by omega)]
    have p0A := cell_below hA p0
    simp only [Nat.zero_mul, Nat.add_zero] at p0A
    generalize args[0].1 = X at *
    rcases ek with e | e | e | e | e | e
    all_goals
      subst e
      go_enter Tryz.func121, Tryz.ntmps121
      go_upto_region 1 with fail
      generalize w.alloc _ = W at *
      obtain ⟨⟨o0, o1⟩, _⟩ := two_cells ro
      go_wp2
      go_ret
      exact ⟨by rw [HK.out]; rfl, hA⟩
  · have HK : Hid (kindsOk k args = true) := by
      show _ = _
      unfold kindsOk
      rw [if_neg e5, if_neg ek]
    have n12 : (k == 12) = false := beq_eq_false_iff_ne.2 (by omega)
    have n13 : (k == 13) = false := beq_eq_false_iff_ne.2 (by omega)
    have n14 : (k == 14) = false := beq_eq_false_iff_ne.2 (by omega)
    have n15 : (k == 15) = false := beq_eq_false_iff_ne.2 (by omega)
    have n17 : (k == 17) = false := beq_eq_false_iff_ne.2 (by omega)
    have n18 : (k == 18) = false := beq_eq_false_iff_ne.2 (by omega)
    clear e5 ek
    go_enter Tryz.func121, Tryz.ntmps121
    go_upto_region 1 with fail
    generalize w.alloc _ = W at *
    obtain ⟨⟨o0, o1⟩, _⟩ := two_cells ro
    go_wp2
    go_ret
    exact ⟨by rw [HK.out]; rfl, hA⟩
theorem takes_kinds {ms : Ms} {kk a t l : Int} (e : takesOf ms kk a = (t, l)) {DR : List (Int × Int)} (hd : (DR.length : Int) = t) : (kk = 5 → DR.length = 2) ∧ (kk = 12 ∨ kk = 13 ∨ kk = 14 ∨ kk = 15 ∨ kk = 17 ∨ kk = 18 → 1 ≤ DR.length) := by
  refine ⟨fun q => ?_, fun q => ?_⟩
  · subst q
    rw [takes_num (by decide)] at e
    injection e with e1 e2
    have : tk 5 = 2 := rfl
    omega
  · rw [takes_num (by omega)] at e
    injection e with e1 e2
    have : 1 ≤ tk kk := by
      rcases q with q | q | q | q | q | q <;> subst q <;> decide
    omega
end Go.Proofs.YtfpodljalccpnaaGreatDoor

/-
  The program's step, its parts: what is taken.
-/
namespace Go.Proofs.YtfpodljalccpnaaGreatDoor
open Go.RowKit
set_option maxRecDepth 100000 in
set_option maxHeartbeats 4000000 in
theorem takenBy_no {B : Nat} (vp : Value) (ms : Ms) (hp : progOk ms = true) (kk a t l : Int) (ht : takesOf ms kk a = (t, l)) (sa : Option Addr) (sc : Nat) (st : List (Int × Int)) (w : World) (hM : MethsAt w vp ms) (hT : TabAt w) (hs : PairRow B w (.slice sa st.length sc) st) (hl : st.length ≤ 6)
    (hbad : ((st.length : Int) - t < 0 ∨ 6 < (st.length : Int) - t + l) ∨ kindsOk kk (st.drop ((st.length : Int) - t).toNat) = false) :
    Calls Tryz.prog 103 #[.agg #[vp], .agg #[.int .i64 kk, .int .i64 a], .slice sa st.length sc] w fun e w' => e = .returned (.tuple #[.slice none 0 0, .bool false]) ∧ Below w.heap.size w w' := by
  have hA : Below w.heap.size w ((w.alloc (.cells #[vp] 25)).alloc (.cells #[.int .i64 kk, .int .i64 a] 49)) := ((Below.refl _ _).alloc (Nat.le_refl _) _).alloc (by simp) _
  have hTB := takes_bound hp kk a
  rw [ht] at hTB
  simp only [] at hTB
  obtain ⟨ap, cp, hvp, _⟩ := id hM
  subst hvp
  have r0 := (box_row w 25 (.slice ap ms.length cp)).alloc (.cells #[.int .i64 kk, .int .i64 a] 49)
  have r1 := two_new (w.alloc (.cells #[.slice ap ms.length cp] 25)) 49 (.int .i64 kk) (.int .i64 a)
  simp only [World.size_alloc] at r1
  have HT := implTakes_any (.slice ap ms.length cp) ms kk a _ (hM.below hA) (hT.below hA)
  rw [ht] at HT
  simp only [] at HT
  have hsA := hs.below hA
  have HTK : Hid (takesOf ms kk a = (t, l)) := ht
  have hwl : IntKind.i64.wrap ((st.length : Int) - t) = (st.length : Int) - t := by rw [IntKind.wrap_i64]; omega
  have hwl2 : IntKind.i64.wrap ((st.length : Int) - t + l) = (st.length : Int) - t + l := by rw [IntKind.wrap_i64]; omega
  clear hM hT hs ht
  go_enter Tryz.func103, Tryz.ntmps103
  go_upto_region 1 with fail
  generalize (w.alloc (.cells #[.slice ap ms.length cp] 25)).alloc (.cells #[.int .i64 kk, .int .i64 a] 49) = W at *
  obtain ⟨⟨u0, u1⟩, _⟩ := two_cells r1
  have v0 := r0.cell (i := 0) (by decide)
  go_upto_region 2 with (go_at_call 96; refine HT.mono ?_; rintro e w2 ⟨rfl, hb2⟩)
  have s2 := hsA.below hb2
  obtain ⟨⟨x0, x1⟩, _⟩ := two_cells (row_below hb2 r1)
  have B2 : Below w.heap.size w w2 := hA.trans (hb2.mono hA.size)
  clear u0 u1 v0 r0 r1 HT hsA hA
  by_cases hneg : (st.length : Int) - t < 0
  · have hn' : decide ((st.length : Int) - t < 0) = true := decide_eq_true hneg
    go_wp2_with fail
    go_region
    go_wp2
    go_ret2
    exact ⟨rfl, B2.drew⟩
  by_cases hbig : 6 < (st.length : Int) - t + l
  · have hn' : decide ((st.length : Int) - t < 0) = false := decide_eq_false hneg
    have hg' : decide (6 < (st.length : Int) - t + l) = true := decide_eq_true hbig
    go_wp2_with fail
    go_region
    go_wp2
    go_ret2
    exact ⟨rfl, B2.drew⟩
  obtain ⟨L, hL⟩ : ∃ L : Nat, (st.length : Int) - t = (L : Int) := ⟨((st.length : Int) - t).toNat, by omega⟩
  have hLn : L ≤ st.length := by omega
  have hkb : kindsOk kk (st.drop L) = false := by
    rcases hbad with h | h
    · omega
    · rw [hL, Int.toNat_natCast] at h; exact h
  rw [hL] at hwl hwl2 hneg hbig
  have hLz : (L : Int) ≤ (st.length : Int) := by omega
  have hL0 : (0 : Int) ≤ (L : Int) := by omega
  obtain ⟨hpF, _⟩ := s2.piece (l := L) (k := st.length) hLn (Nat.le_refl _)
  rw [List.take_length] at hpF
  have hfrom : ∀ W, (Instr.slice 27 (.slice sa st.length sc) (some (.int .i64 (L : Int))) none none).run Tryz.prog W = .ok (sliced sa L st.length sc 2) W := fun W => val_from W sa _ sc L hLn
  generalize sliced sa L st.length sc 2 = VF at *
  have hK := kindsFit_any kk a VF (st.drop L) _ (hpF.below (Below.refl w2.heap.size w2).drew) (takes_kinds HTK.out (by simp; omega)).1 (takes_kinds HTK.out (by simp; omega)).2
  rw [hkb] at hK
  clear hbad hpF s2 hkb
  have hn' : decide ((L : Int) < 0) = false := decide_eq_false hneg
  have hg' : decide (6 < (L : Int) + l) = false := decide_eq_false hbig
  go_wp2_with fail
  go_region_held3 (fun w' => w'.cell? ⟨w.heap.size + 1, 0, none⟩ = some (.int .i64 kk) ∧ w'.cell? ⟨w.heap.size + 1, 1, none⟩ = some (.int .i64 a))
    (first | with_reducible exact ⟨x0, x1⟩ | exact ⟨cell_below hb3 (show w2.drew.cell? _ = _ from x0), cell_below hb3 (show w2.drew.cell? _ = _ from x1)⟩ | go_keep)
    (first | (go_at_call 121; refine hK.mono ?_; rintro e w3 ⟨rfl, hb3⟩))
  all_goals
    go_wp2
    go_ret2
    exact ⟨rfl, B2.drew.trans (hb3.mono B2.size)⟩
set_option maxRecDepth 100000 in
set_option maxHeartbeats 4000000 in
theorem takenBy_yes {B : Nat} (vp : Value) (ms : Ms) (hp : progOk ms = true) (kk a t l : Int) (ht : takesOf ms kk a = (t, l)) (sa : Option Addr) (sc : Nat) (st : List (Int × Int)) (w : World) (hM : MethsAt w vp ms) (hT : TabAt w) (hs : PairRow B w (.slice sa st.length sc) st) (hl : st.length ≤ 6)
    {L : Nat} (hL : (st.length : Int) - t = (L : Int)) (hbig : (L : Int) + l ≤ 6) (hkb : kindsOk kk (st.drop L) = true) :
    Calls Tryz.prog 103 #[.agg #[vp], .agg #[.int .i64 kk, .int .i64 a], .slice sa st.length sc] w fun e w' => ∃ v', e = .returned (.tuple #[v', .bool true]) ∧ PairRow w.heap.size w' v' (st.drop L) ∧ Below w.heap.size w w' := by
  have hA : Below w.heap.size w ((w.alloc (.cells #[vp] 25)).alloc (.cells #[.int .i64 kk, .int .i64 a] 49)) := ((Below.refl _ _).alloc (Nat.le_refl _) _).alloc (by simp) _
  have hTB := takes_bound hp kk a
  rw [ht] at hTB
  simp only [] at hTB
  obtain ⟨ap, cp, hvp, _⟩ := id hM
  subst hvp
  have r0 := (box_row w 25 (.slice ap ms.length cp)).alloc (.cells #[.int .i64 kk, .int .i64 a] 49)
  have r1 := two_new (w.alloc (.cells #[.slice ap ms.length cp] 25)) 49 (.int .i64 kk) (.int .i64 a)
  simp only [World.size_alloc] at r1
  have HT := implTakes_any (.slice ap ms.length cp) ms kk a _ (hM.below hA) (hT.below hA)
  rw [ht] at HT
  simp only [] at HT
  have hsA := hs.below hA
  have HTK : Hid (takesOf ms kk a = (t, l)) := ht
  have hwl : IntKind.i64.wrap ((st.length : Int) - t) = (st.length : Int) - t := by rw [IntKind.wrap_i64]; omega
  have hwl2 : IntKind.i64.wrap ((st.length : Int) - t + l) = (st.length : Int) - t + l := by rw [IntKind.wrap_i64]; omega
  clear hM hT hs ht
  go_enter Tryz.func103, Tryz.ntmps103
  go_upto_region 1 with fail
  generalize (w.alloc (.cells #[.slice ap ms.length cp] 25)).alloc (.cells #[.int .i64 kk, .int .i64 a] 49) = W at *
  obtain ⟨⟨u0, u1⟩, _⟩ := two_cells r1
  have v0 := r0.cell (i := 0) (by decide)
  go_upto_region 2 with (go_at_call 96; refine HT.mono ?_; rintro e w2 ⟨rfl, hb2⟩)
  have s2 := hsA.below hb2
  obtain ⟨⟨x0, x1⟩, _⟩ := two_cells (row_below hb2 r1)
  have B2 : Below w.heap.size w w2 := hA.trans (hb2.mono hA.size)
  clear u0 u1 v0 r0 r1 HT hsA hA
  have hLn : L ≤ st.length := by omega
  rw [hL] at hwl hwl2
  have hLz : (L : Int) ≤ (st.length : Int) := by omega
  have hL0 : (0 : Int) ≤ (L : Int) := by omega
  obtain ⟨hpF, _⟩ := s2.piece (l := L) (k := st.length) hLn (Nat.le_refl _)
  rw [List.take_length] at hpF
  have hfrom : ∀ W, (Instr.slice 27 (.slice sa st.length sc) (some (.int .i64 (L : Int))) none none).run Tryz.prog W = .ok (sliced sa L st.length sc 2) W := fun W => val_from W sa _ sc L hLn
  generalize sliced sa L st.length sc 2 = VF at *
  have hK := kindsFit_any kk a VF (st.drop L) _ (hpF.below (Below.refl w2.heap.size w2).drew) (takes_kinds HTK.out (by simp; omega)).1 (takes_kinds HTK.out (by simp; omega)).2
  rw [hkb] at hK
  clear s2 hkb
  have hn' : decide ((L : Int) < 0) = false := decide_eq_false (by omega)
  have hg' : decide (6 < (L : Int) + l) = false := decide_eq_false (by omega)
  go_wp2_with fail
  go_region_held3 (fun w' => w'.cell? ⟨w.heap.size + 1, 0, none⟩ = some (.int .i64 kk) ∧ w'.cell? ⟨w.heap.size + 1, 1, none⟩ = some (.int .i64 a))
    (first | with_reducible exact ⟨x0, x1⟩ | exact ⟨cell_below hb3 (show w2.drew.cell? _ = _ from x0), cell_below hb3 (show w2.drew.cell? _ = _ from x1)⟩ | go_keep)
    (first | (go_at_call 121; refine hK.mono ?_; rintro e w3 ⟨rfl, hb3⟩))
  all_goals
    have hpF3 := (hpF.below (Below.refl w2.heap.size w2).drew).below hb3
    have B3 : Below w.heap.size w w3 := B2.drew.trans (hb3.mono B2.size)
    go_wp2_with (go_at_call 56; refine (clone_any _ _ _ hpF3 (by simp; omega)).mono ?_; rintro e w4 ⟨v4, rfl, hr4, hb4⟩)
    go_ret2
    exact ⟨_, rfl, hr4.mono B3.size, B3.trans (hb4.mono B3.size)⟩
end Go.Proofs.YtfpodljalccpnaaGreatDoor

/-
  An ok heap's calls, made by the program in memory of their own: a call's body.
-/
namespace Go.Proofs.YtfpodljalccpnaaGreatDoor
open Go.RowKit
def BodyNew (B : Nat) (w : World) (d : Nat) (vt vs : Value) (c : Cl) : Prop :=
  w.rowIs d 143 5 (five (.int .i64 c.m) (.int .i64 c.pc) vt vs (.bool c.dead)) ∧ PairRow B w vt c.temps ∧ PairRow B w vs c.stack ∧ B ≤ d ∧
  (∀ g, vt.ownBlock = some g → g ≠ d ∧ vs.ownBlock ≠ some g) ∧ (∀ g, vs.ownBlock = some g → g ≠ d)
set_option maxRecDepth 100000 in
set_option maxHeartbeats 4000000 in
theorem bodyOf_any (c : Cl) (vt vs : Value) (w : World) (ht : OpsAt w vt c.temps) (hs : OpsAt w vs c.stack) (hl : c.temps.length ≤ 1000 ∧ c.stack.length ≤ 1000) :
    Calls Tryz.prog 79 #[.agg #[.int .i64 c.m, .int .i64 c.pc, vt, vs, .int .i64 c.sender, .bool c.dead]] w fun e w' => ∃ (d : Nat) (vt' vs' : Value), e = .returned (.pointer (some ⟨d, 0, none⟩)) ∧ BodyNew w.heap.size w' d vt' vs' c ∧ Below w.heap.size w w' := by
  obtain ⟨at_, ct, hvt⟩ := ht.shape
  obtain ⟨as_, cs, hvs⟩ := hs.shape
  subst hvt hvs
  have hA : Below w.heap.size w (w.alloc (.cells #[.int .i64 c.m, .int .i64 c.pc, .slice at_ c.temps.length ct, .slice as_ c.stack.length cs, .int .i64 c.sender, .bool c.dead] 56)) := (Below.refl _ _).alloc (Nat.le_refl _) _
  have r1 := six_new w 56 (.int .i64 c.m) (.int .i64 c.pc) (.slice at_ c.temps.length ct) (.slice as_ c.stack.length cs) (.int .i64 c.sender) (.bool c.dead)
  have HT : Hid (OpsAt w (.slice at_ c.temps.length ct) c.temps ∧ OpsAt w (.slice as_ c.stack.length cs) c.stack) := ⟨ht, hs⟩
  have hzA : w.heap.size < (w.alloc (.cells #[.int .i64 c.m, .int .i64 c.pc, .slice at_ c.temps.length ct, .slice as_ c.stack.length cs, .int .i64 c.sender, .bool c.dead] 56)).heap.size := by simp
  clear ht hs
  go_enter Tryz.func79, Tryz.ntmps79
  go_upto_region 1 with fail
  generalize w.alloc (.cells #[.int .i64 c.m, .int .i64 c.pc, .slice at_ c.temps.length ct, .slice as_ c.stack.length cs, .int .i64 c.sender, .bool c.dead] 56) = W at *
  obtain ⟨⟨x0, x1, x2, x3, x4, x5⟩, _⟩ := six_cells r1
  have HS : ∀ w' : World, Below W.heap.size W w' → ((w'.cell? ⟨w.heap.size, 0, none⟩ = some (.int .i64 c.m) ∧ w'.cell? ⟨w.heap.size, 1, none⟩ = some (.int .i64 c.pc) ∧ w'.cell? ⟨w.heap.size, 2, none⟩ = some (.slice at_ c.temps.length ct) ∧ w'.cell? ⟨w.heap.size, 3, none⟩ = some (.slice as_ c.stack.length cs) ∧ w'.cell? ⟨w.heap.size, 5, none⟩ = some (.bool c.dead)) ∧ Below W.heap.size W w') := fun w' hb => ⟨⟨cell_below hb x0, cell_below hb x1, cell_below hb x2, cell_below hb x3, cell_below hb x5⟩, hb⟩
  have HCT : Hid (∀ W', Below W.heap.size W W' → Calls Tryz.prog 56 #[.slice at_ c.temps.length ct] W' fun e w' => ∃ v', e = .returned v' ∧ PairRow W'.heap.size w' v' c.temps ∧ Below W'.heap.size W' w') := fun W' hb => clone_any _ _ _ (HT.out.1.below (hA.trans (hb.mono hA.size))) hl.1
  have HCS : Hid (∀ W', Below W.heap.size W W' → Calls Tryz.prog 56 #[.slice as_ c.stack.length cs] W' fun e w' => ∃ v', e = .returned v' ∧ PairRow W'.heap.size w' v' c.stack ∧ Below W'.heap.size W' w') := fun W' hb => clone_any _ _ _ (HT.out.2.below (hA.trans (hb.mono hA.size))) hl.2
  clear x0 x1 x2 x3 x4 x5 r1
  go_region_held3 (fun w' => (w'.cell? ⟨w.heap.size, 0, none⟩ = some (.int .i64 c.m) ∧ w'.cell? ⟨w.heap.size, 1, none⟩ = some (.int .i64 c.pc) ∧ w'.cell? ⟨w.heap.size, 2, none⟩ = some (.slice at_ c.temps.length ct) ∧ w'.cell? ⟨w.heap.size, 3, none⟩ = some (.slice as_ c.stack.length cs) ∧ w'.cell? ⟨w.heap.size, 5, none⟩ = some (.bool c.dead)) ∧ Below W.heap.size W w')
    ((refine HS _ ?_; first
      | (with_reducible exact (‹(_ ∧ _ ∧ _ ∧ _ ∧ _) ∧ Below W.heap.size W _›).2)
      | (with_reducible exact (Below.refl _ _).drew)
      | (with_reducible exact hBT)
      | (with_reducible exact hBS)
      | (with_reducible exact hBT.alloc hBT.size _)
      | (with_reducible exact hBS.alloc hBS.size _)))
    (first
      | (go_at_call 56; refine (HCT.out _ (‹(_ ∧ _ ∧ _ ∧ _ ∧ _) ∧ Below W.heap.size W _›).2).mono ?_; rintro e wT ⟨vT, rfl, hrT, hbT⟩; have hBT := Below.trans (‹(_ ∧ _ ∧ _ ∧ _ ∧ _) ∧ Below W.heap.size W _›).2 (hbT.mono ((‹(_ ∧ _ ∧ _ ∧ _ ∧ _) ∧ Below W.heap.size W _›).2).size); obtain ⟨aT, kT, hvT, _⟩ := hrT.slice; subst hvT)
      | (go_at_call 56; refine (HCS.out _ (‹(_ ∧ _ ∧ _ ∧ _ ∧ _) ∧ Below W.heap.size W _›).2).mono ?_; rintro e wS ⟨vS, rfl, hrS, hbS⟩; have hBS := Below.trans (‹(_ ∧ _ ∧ _ ∧ _ ∧ _) ∧ Below W.heap.size W _›).2 (hbS.mono ((‹(_ ∧ _ ∧ _ ∧ _ ∧ _) ∧ Below W.heap.size W _›).2).size); obtain ⟨aS, kS, hvS, _⟩ := hrS.slice; subst hvS))
  all_goals first
    | (have hbXY : Below wT.heap.size wT wS := hbS;
       have hzX : w.heap.size ≤ W.heap.size := hA.size;
       have hzW : W.heap.size ≤ wT.heap.size := hBT.size;
       have hzY := hbS.size;
       have N9 := (Below.refl wS.heap.size wS).alloc (Nat.le_refl _) (.cells #[.int .i64 c.m, .int .i64 c.pc, .slice aT c.temps.length kT, .slice aS c.stack.length kS, .bool c.dead] 143);
       have r9 := five_new wS 143 (.int .i64 c.m) (.int .i64 c.pc) (.slice aT c.temps.length kT) (.slice aS c.stack.length kS) (.bool c.dead);
       have pX := (hrT.below hbXY).below N9;
       have pY := hrS.below N9;
       have B9 := (hA.trans (hBS.mono hA.size)).trans (N9.mono (Nat.le_trans hzX (Nat.le_trans hzW hzY)));
       have HFIN : Hid (BodyNew w.heap.size (wS.alloc (.cells #[.int .i64 c.m, .int .i64 c.pc, .slice aT c.temps.length kT, .slice aS c.stack.length kS, .bool c.dead] 143)) wS.heap.size (.slice aT c.temps.length kT) (.slice aS c.stack.length kS) c) := ⟨r9, pX.mono (by first | exact hzX | exact Nat.le_trans hzX hzW), pY.mono (by first | exact hzX | exact Nat.le_trans hzX hzW), by omega, fun g e => ⟨by have := (hrT.lt g e).2; omega, fun e2 => by have q1 := hrT.lt g e; have q2 := hrS.lt g e2; omega⟩, fun g e => by have := (hrS.lt g e).2; omega⟩;
       clear HS HCT HCS;
       go_wp2;
       go_ret;
       exact ⟨_, _, _, rfl, HFIN.out, B9⟩)
    | (have hbXY : Below wS.heap.size wS wT := hbT;
       have hzX : w.heap.size ≤ W.heap.size := hA.size;
       have hzW : W.heap.size ≤ wS.heap.size := hBS.size;
       have hzY := hbT.size;
       have N9 := (Below.refl wT.heap.size wT).alloc (Nat.le_refl _) (.cells #[.int .i64 c.m, .int .i64 c.pc, .slice aT c.temps.length kT, .slice aS c.stack.length kS, .bool c.dead] 143);
       have r9 := five_new wT 143 (.int .i64 c.m) (.int .i64 c.pc) (.slice aT c.temps.length kT) (.slice aS c.stack.length kS) (.bool c.dead);
       have pX := (hrS.below hbXY).below N9;
       have pY := hrT.below N9;
       have B9 := (hA.trans (hBT.mono hA.size)).trans (N9.mono (Nat.le_trans hzX (Nat.le_trans hzW hzY)));
       have HFIN : Hid (BodyNew w.heap.size (wT.alloc (.cells #[.int .i64 c.m, .int .i64 c.pc, .slice aT c.temps.length kT, .slice aS c.stack.length kS, .bool c.dead] 143)) wT.heap.size (.slice aT c.temps.length kT) (.slice aS c.stack.length kS) c) := ⟨r9, pY.mono (by first | exact hzX | exact Nat.le_trans hzX hzW), pX.mono (by first | exact hzX | exact Nat.le_trans hzX hzW), by omega, fun g e => ⟨by have := (hrT.lt g e).2; omega, fun e2 => by have q1 := hrT.lt g e; have q2 := hrS.lt g e2; omega⟩, fun g e => by have := (hrS.lt g e).2; omega⟩;
       clear HS HCT HCS;
       go_wp2;
       go_ret;
       exact ⟨_, _, _, rfl, HFIN.out, B9⟩)
end Go.Proofs.YtfpodljalccpnaaGreatDoor

/-
  What is seen of a heap, by the program: renumbered.
-/
namespace Go.Proofs.YtfpodljalccpnaaGreatDoor
open Go.RowKit
end Go.Proofs.YtfpodljalccpnaaGreatDoor

/-
  What is seen of a heap, by the model: l11Found answers the calls that can be come to.
-/
namespace Go.Proofs.YtfpodljalccpnaaGreatDoor
open Go.RowKit
theorem PsOk.nil (n : Nat) : PsOk n [] := ⟨by simp, fun p hp => by cases hp⟩
end Go.Proofs.YtfpodljalccpnaaGreatDoor

/-
  What is seen of a heap, by the model: HeapView.
-/
namespace Go.Proofs.YtfpodljalccpnaaGreatDoor
open Go.RowKit
theorem CallsAt.cl {w : World} {a : Option Addr} {n c : Nat} {cs : List Cl} (h : CallsAt w (.slice a n c) cs) {p : Nat} (hp : p < cs.length) : ∃ b o vt vs, a = some ⟨b, o, none⟩ ∧ ClAt w b (o + p * 6) vt vs cs[p] := by
  obtain ⟨a', c', e, _, hc⟩ := h
  obtain ⟨b, o, vt, vs, rfl, hx⟩ := hc p hp
  injection e with e1 e2 e3
  exact ⟨b, o, vt, vs, e1, hx⟩
end Go.Proofs.YtfpodljalccpnaaGreatDoor

/-
  Plain facts of the heap that a program begins with: it is ok, one deep, and seen as it is.
-/
namespace Go.Proofs.YtfpodljalccpnaaGreatDoor
open Go.RowKit
theorem newHp_yes {ms : List (Int × Int × List (Int × Int))} (h : progOk ms = true) : newHp ms = ⟨[⟨0, 0, List.replicate (temps0 ms) (0, 0), [], -1, false⟩], 0, 1, [], 0⟩ := if_pos h
theorem vals_zero (n : Int) (k : Nat) : valsOk n (List.replicate k (0, 0)) = true := by
  refine valsOk_yes fun i hi => ?_
  simp [valOk]
theorem newHp_ok {ms : List (Int × Int × List (Int × Int))} (h : progOk ms = true) : heapOk ms (newHp ms) = true := by
  obtain ⟨hl, h0, h4, ht, _⟩ := first_ok h
  have hg : ms.getD 0 (0, 0, []) = ms[0] := by simp [hl]
  rw [newHp_yes h]
  have hv := vals_zero 1 (temps0 ms)
  have hz : valsOk 1 [] = true := rfl
  have hz2 : valsOk (ms.length : Int) [] = true := rfl
  have hm : inR 0 0 ((ms.length : Int) - 1) = true := inR_true.2 ⟨by omega, by omega⟩
  have hpc : inR 0 0 (ms[0].2.2.length : Int) = true := inR_true.2 ⟨by omega, by omega⟩
  have hc : clOk ms 1 ⟨0, 0, List.replicate (temps0 ms) (0, 0), [], -1, false⟩ = true := by
    have a2 : inR (-1) (-1) 0 = true := by decide
    have hg2 : ms[0]? = some ms[0] := List.getElem?_eq_getElem hl
    simp [clOk, hg2, ht, hm, hpc, hv, hz, a2]
  have he : endOk ⟨[⟨0, 0, List.replicate (temps0 ms) (0, 0), [], -1, false⟩], 0, 1, [], 0⟩ = true := by
    simp [endOk, chainOf, walkC, liveN, roomP]
  have hd : headOk ms ⟨[⟨0, 0, List.replicate (temps0 ms) (0, 0), [], -1, false⟩], 0, 1, [], 0⟩ = true := by
    have a1 : inR 0 (-1) (1 - 1) = true := by decide
    have a2 : inR 1 1 30 = true := by decide
    have a3 : inR 0 0 3 = true := by decide
    simp [headOk, h, hz2, a2, a3]
    exact a1
  simp only [heapOk, hd, he, List.all_cons, List.all_nil, List.length_cons, List.length_nil, Nat.zero_add, hc, Bool.and_self]
end Go.Proofs.YtfpodljalccpnaaGreatDoor
