/-
  A heap while the program's operations are done: what a callee leaves as it is.
-/
import Derived.Test.YtlpbklgkafjfmaaGreatDoorLMem
import Derived.Test.YtlpbklgkafjfmaaGreatDoorVImpl
import Derived.Deep.RegionWith

namespace Go.Proofs.YtlpbklgkafjfmaaGreatDoor
open Go.RowKit
def LOwn (bl br : Nat) (vcs vsd : Value) (C D : Nat → Nat) (T : Nat → Value × Value) (n : Nat) (g : Nat) : Prop := ∃ x : Blk, x.ok n ∧ x.at bl br vcs vsd C D T = some g
structure LGo (B : Nat) (P P' : Nat → Prop) (w w' : World) : Prop where
  b : Below B w w'
  keep : ∀ g, g < w.heap.size → ¬ P g → w'.heap[g]? = w.heap[g]?
  own : ∀ g, P' g → P g ∨ w.heap.size ≤ g
theorem LGo.refl (B : Nat) (P : Nat → Prop) (w : World) : LGo B P P w w := ⟨Below.refl _ _, fun _ _ _ => rfl, fun _ h => .inl h⟩
theorem LGo.trans {B : Nat} {P P' P'' : Nat → Prop} {a b c : World} (h : LGo B P P' a b) (k : LGo B P' P'' b c) : LGo B P P'' a c :=
  ⟨h.b.trans k.b, fun g hg hn => (k.keep g (Nat.lt_of_lt_of_le hg h.b.size) (fun e => by rcases h.own g e with x | x; exact hn x; omega)).trans (h.keep g hg hn), fun g e => by
    rcases k.own g e with x | x
    · exact h.own g x
    · have := h.b.size; exact .inr (by omega)⟩
theorem LGo.of_below {B : Nat} {P : Nat → Prop} {w w' : World} (hB : B ≤ w.heap.size) (hb : Below w.heap.size w w') : LGo B P P w w' := ⟨hb.mono hB, fun g hg _ => hb.block g hg, fun _ h => .inl h⟩
theorem LGo.set {B : Nat} {P : Nat → Prop} {w : World} {p : Addr} (hp : P p.block) (hB : B ≤ p.block) (u : Value) : LGo B P P w (w.setCell p u) :=
  ⟨(Below.refl _ _).setCell hB u, fun _ _ hn => Below.heap_setCell _ _ _ _ (fun e => hn (by rw [e]; exact hp)), fun _ h => .inl h⟩
theorem LGo.row {B : Nat} {P P' : Nat → Prop} {w w' : World} (h : LGo B P P' w w') {g : Nat} {t : TypeId} {n : Nat} {f : Nat → Value} (hr : w.rowIs g t n f) (hg : ¬ P g) : w'.rowIs g t n f := hr.of_block (h.keep g hr.lt hg)
variable {B : Nat} {w w' : World} {bl br : Nat} {vp vcs vsd : Value} {C D : Nat → Nat} {T : Nat → Value × Value} {h h' : Hp}
theorem LV.new (k : LV B w bl br vp vcs vsd C D T h) {g : Nat} (hg : w.heap.size ≤ g) : ¬ LOwn bl br vcs vsd C D T h.calls.length g := fun ⟨x, hx, e⟩ => by have := (k.lo x hx g e).2; omega
theorem LV.turn_go {j : Nat} (hj : j < h.calls.length) {vt vs : Value} (hb : Below B w w')
    (hbl : ∀ g, g < w.heap.size → g ≠ D j → (T j).1.ownBlock ≠ some g → (T j).2.ownBlock ≠ some g → w'.heap[g]? = w.heap[g]?)
    (nt : ∀ q, vt.ownBlock = some q → (T j).1.ownBlock = some q ∨ (T j).2.ownBlock = some q ∨ w.heap.size ≤ q) (ns : ∀ q, vs.ownBlock = some q → (T j).1.ownBlock = some q ∨ (T j).2.ownBlock = some q ∨ w.heap.size ≤ q) :
    LGo B (LOwn bl br vcs vsd C D T h.calls.length) (LOwn bl br vcs vsd C D (putV T j (vt, vs)) h.calls.length) w w' := by
  refine ⟨hb, fun g hg hn => hbl g hg (fun e => hn ⟨.body j, hj, by rw [e]; rfl⟩) (fun e => hn ⟨.temps j, hj, e⟩) (fun e => hn ⟨.stack j, hj, e⟩), fun g ⟨x, hx, e⟩ => ?_⟩
  by_cases x1 : x = .temps j
  · subst x1
    simp only [Blk.at, putV_same] at e
    rcases nt g e with q | q | q
    · exact .inl ⟨.temps j, hj, q⟩
    · exact .inl ⟨.stack j, hj, q⟩
    · exact .inr q
  by_cases x2 : x = .stack j
  · subst x2
    simp only [Blk.at, putV_same] at e
    rcases ns g e with q | q | q
    · exact .inl ⟨.temps j, hj, q⟩
    · exact .inl ⟨.stack j, hj, q⟩
    · exact .inr q
  refine .inl ⟨x, hx, ?_⟩
  rw [← e]
  cases x with
  | temps i => simp only [Blk.at]; rw [putV_other _ _ (fun q => x1 (by rw [q]))]
  | stack i => simp only [Blk.at]; rw [putV_other _ _ (fun q => x2 (by rw [q]))]
  | _ => rfl
theorem LV.push (k : LV B w bl br vp vcs vsd C D T h) {j : Nat} (hj : j < h.calls.length) {w2 : World} {v' : Value} {st : List (Int × Int)} (_hB : B ≤ w.heap.size) (hg : w.heap.size ≤ w2.heap.size) (hw : Below B w w2)
    (hbl : ∀ g, g < w.heap.size → (T j).2.ownBlock ≠ some g → w2.heap[g]? = w.heap[g]?) (hr : PairRow B w2 v' st) (hv : ∀ q, v'.ownBlock = some q → (T j).2.ownBlock = some q ∨ w.heap.size ≤ q) :
    LV B (w2.setCell ⟨D j, 3, none⟩ v') bl br vp vcs vsd C D (putV T j ((T j).1, v')) { h with calls := h.calls.set j { h.calls[j] with stack := st } } ∧ LGo B (LOwn bl br vcs vsd C D T h.calls.length) (LOwn bl br vcs vsd C D (putV T j ((T j).1, v')) h.calls.length) w (w2.setCell ⟨D j, 3, none⟩ v') := by
  have hDl := k.lo (.body j) hj (D j) rfl
  have hDs : (T j).2.ownBlock ≠ some (D j) := fun e => by have := k.ap (.stack j) (.body j) hj hj (D j) e rfl; cases this
  have hDt : (T j).1.ownBlock ≠ some (D j) := fun e => by have := k.ap (.temps j) (.body j) hj hj (D j) e rfl; cases this
  have hTS : ∀ q, (T j).1.ownBlock = some q → (T j).2.ownBlock ≠ some q := fun q e e2 => by have := k.ap (.temps j) (.stack j) hj hj q e e2; cases this
  have hvD : v'.ownBlock ≠ some (D j) := fun e => by
    rcases hv _ e with x | x
    · exact hDs x
    · omega
  have hz : w.heap.size ≤ (w2.setCell ⟨D j, 3, none⟩ v').heap.size := by simp [World.setCell]; exact hg
  have hbl' : ∀ g, g < w.heap.size → g ≠ D j → (T j).1.ownBlock ≠ some g → (T j).2.ownBlock ≠ some g → (w2.setCell ⟨D j, 3, none⟩ v').heap[g]? = w.heap[g]? := fun g h1 h2 _ h4 => (Below.heap_setCell _ _ _ _ (fun e => h2 e)).trans (hbl g h1 h4)
  have hbd : (w2.setCell ⟨D j, 3, none⟩ v').rowIs (D j) 113 5 (five (.int .i64 h.calls[j].m) (.int .i64 h.calls[j].pc) (T j).1 v' (.bool h.calls[j].dead)) := five_set3 ((k.bd j hj).of_block (hbl _ hDl.2 hDs)) v'
  have ht := (k.ts j hj).1
  have ht' : PairRow B (w2.setCell ⟨D j, 3, none⟩ v') (T j).1 h.calls[j].temps := (ht.kept hg fun q e => hbl q (ht.lt q e).2 (hTS q e)).set_other _ hDt
  have nt : ∀ q, (T j).1.ownBlock = some q → (T j).1.ownBlock = some q ∨ (T j).2.ownBlock = some q ∨ w.heap.size ≤ q := fun q e => .inl e
  have ns : ∀ q, v'.ownBlock = some q → (T j).1.ownBlock = some q ∨ (T j).2.ownBlock = some q ∨ w.heap.size ≤ q := fun q e => .inr (hv q e)
  have nn : ∀ q, (T j).1.ownBlock = some q → v'.ownBlock ≠ some q := fun q e e2 => by
    rcases hv q e2 with x | x
    · exact hTS q e x
    · have := (ht.lt q e).2; omega
  exact ⟨k.turn hj rfl hz hbl' hbd ht' (hr.set_other _ hvD) nt ns nn, LV.turn_go hj (hw.setCell (p := ⟨D j, 3, none⟩) hDl.1 v') hbl' nt ns⟩
theorem LV.say_go (k : LV B w bl br vp vcs vsd C D T h) (v' : Value) (hb : Below B w w') (hbl : ∀ g, g < w.heap.size → vsd.ownBlock ≠ some g → w'.heap[g]? = w.heap[g]?) (hv : ∀ q, v'.ownBlock = some q → vsd.ownBlock = some q ∨ w.heap.size ≤ q) :
    LGo B (LOwn bl br vcs vsd C D T h.calls.length) (LOwn bl br vcs v' C D T h.calls.length) w (w'.setCell ⟨br, 3, none⟩ v') := by
  have hr := k.lo .run trivial br rfl
  refine ⟨hb.setCell (p := ⟨br, 3, none⟩) hr.1 v', fun g hg hn => (Below.heap_setCell _ _ _ _ (fun e => hn ⟨.run, trivial, by rw [e]; rfl⟩)).trans (hbl g hg (fun e => hn ⟨.said, trivial, e⟩)), fun g ⟨x, hx, e⟩ => ?_⟩
  by_cases x1 : x = .said
  · subst x1
    rcases hv g e with q | q
    · exact .inl ⟨.said, trivial, q⟩
    · exact .inr q
  · refine .inl ⟨x, hx, ?_⟩
    rw [← e]
    cases x <;> first | rfl | exact absurd rfl x1
end Go.Proofs.YtlpbklgkafjfmaaGreatDoor

/-
  The program's heap at work: who runs, who is looked at, where it is, who called it.
-/
namespace Go.Proofs.YtlpbklgkafjfmaaGreatDoor
open Go.RowKit
variable {B : Nat} {w w' : World} {bl br : Nat} {vp vcs vsd : Value} {C D : Nat → Nat} {T : Nat → Value × Value} {h h' : Hp}
theorem LV.ptr (k : LV B w bl br vp vcs vsd C D T h) (hp : 0 < h.calls.length) : ∃ g off cap, vcs = .slice (some ⟨g, off, none⟩) h.calls.length cap ∧ h.calls.length ≤ cap ∧ ∀ i, i < h.calls.length → w.cell? ⟨g, off + i, none⟩ = some (.pointer (some ⟨C i, 0, none⟩)) := by
  obtain ⟨_, hr⟩ := k.row
  rcases hr with ⟨_, e⟩ | ⟨g, off, cap, hv, _, _, hl, _, _, hx⟩
  · omega
  · refine ⟨g, off, cap, hv, hl, fun i hi => ?_⟩
    have := hx i (by simp [ptrs]; exact hi)
    simpa [ptrs] using this
set_option maxRecDepth 100000 in
theorem running_any (k : LV B w bl br vp vcs vsd C D T h) {j : Nat} (hn : h.now = (j : Int)) (hj : j < h.calls.length) :
    Calls Tryz.prog 131 #[.pointer (some ⟨bl, 0, none⟩)] w fun e w' => e = .returned (.pointer (some ⟨D j, 0, none⟩)) ∧ w' = w := by
  obtain ⟨⟨x0, x1⟩, _⟩ := two_cells k.hp
  rw [hn, ptrN_at] at x1
  obtain ⟨⟨y0, y1, y2⟩, _⟩ := trio_cells (k.cl j hj)
  go_enter Tryz.func131, Tryz.ntmps131
  go_wp2
  go_ret
  exact ⟨rfl, rfl⟩
set_option maxRecDepth 100000 in
theorem running_none (k : LV B w bl br vp vcs vsd C D T h) (hn : h.now < 0) :
    Calls Tryz.prog 131 #[.pointer (some ⟨bl, 0, none⟩)] w fun e w' => e = .returned (.pointer none) ∧ w' = w := by
  obtain ⟨⟨x0, x1⟩, _⟩ := two_cells k.hp
  rw [ptrN_neg hn] at x1
  go_enter Tryz.func131, Tryz.ntmps131
  go_wp2
  go_ret
  exact ⟨rfl, rfl⟩
set_option maxRecDepth 100000 in
theorem looked_any (k : LV B w bl br vp vcs vsd C D T h) {j : Nat} (hj : j < h.calls.length) :
    Calls Tryz.prog 130 #[.pointer (some ⟨bl, 0, none⟩), .int .i64 j] w fun e w' => e = .returned (.pointer (some ⟨D j, 0, none⟩)) ∧ w' = w := by
  obtain ⟨⟨x0, x1⟩, _⟩ := two_cells k.hp
  obtain ⟨g, off, cap, hv, hl, hx⟩ := k.ptr (by omega)
  subst hv
  have z := hx j hj
  clear hx
  obtain ⟨⟨y0, y1, y2⟩, _⟩ := trio_cells (k.cl j hj)
  have hjz : (j : Int) < (h.calls.length : Int) := by omega
  go_enter Tryz.func130, Tryz.ntmps130
  go_wp2
  go_ret
  exact ⟨rfl, rfl⟩
set_option maxRecDepth 100000 in
theorem callVal_at (j : Nat) (w : World) :
    Calls Tryz.prog 133 #[.int .i64 j] w fun e w' => e = .returned (.agg #[.int .i64 2, .int .i64 j]) ∧ Below w.heap.size w w' := by
  have hne : ((j : Int) == -1) = false := beq_eq_false_iff_ne.2 (by omega)
  go_enter Tryz.func133, Tryz.ntmps133
  go_wp2
  exact bodyPost_ret (v := .agg #[.int .i64 2, .int .i64 j]) (by simp [results, Tryz.results133, go_sem]) rfl ⟨rfl, (Below.refl _ _).alloc (Nat.le_refl _) _⟩
set_option maxRecDepth 100000 in
theorem callVal_none (w : World) :
    Calls Tryz.prog 133 #[.int .i64 (-1)] w fun e w' => e = .returned (.agg #[.int .i64 0, .int .i64 0]) ∧ Below w.heap.size w w' := by
  go_enter Tryz.func133, Tryz.ntmps133
  go_wp2
  exact bodyPost_ret (v := .agg #[.int .i64 0, .int .i64 0]) (by simp [results, Tryz.results133, go_sem]) rfl ⟨rfl, (Below.refl _ _).alloc (Nat.le_refl _) _⟩
set_option maxRecDepth 100000 in
theorem placeOf_none (w : World) : Calls Tryz.prog 35 #[.pointer none] w fun e w' => e = .returned (.int .i64 (-1)) ∧ w' = w := by
  go_enter Tryz.func35, Tryz.ntmps35
  go_wp2
  go_ret
  exact ⟨rfl, rfl⟩
set_option maxRecDepth 100000 in
theorem placeOf_at (c j : Nat) (w : World) (hc : w.cell? ⟨c, 1, none⟩ = some (.int .i64 j)) : Calls Tryz.prog 35 #[.pointer (some ⟨c, 0, none⟩)] w fun e w' => e = .returned (.int .i64 j) ∧ w' = w := by
  go_enter Tryz.func35, Tryz.ntmps35
  go_wp2
  go_ret
  exact ⟨rfl, rfl⟩
set_option maxRecDepth 100000 in
theorem here_any (k : LV B w bl br vp vcs vsd C D T h) {j : Nat} (hn : h.now = (j : Int)) (hj : j < h.calls.length) :
    Calls Tryz.prog 128 #[.pointer (some ⟨bl, 0, none⟩)] w fun e w' => e = .returned (.agg #[.int .i64 2, .int .i64 j]) ∧ Below w.heap.size w w' := by
  have hA : Below w.heap.size w (w.alloc (.cells #[.int .i64 0, .int .i64 0] 37)) := (Below.refl _ _).alloc (Nat.le_refl _) _
  have rx := two_new w 37 (.int .i64 0) (.int .i64 0)
  have kA := k.below hA
  obtain ⟨⟨x0, x1⟩, _⟩ := two_cells kA.hp
  rw [hn, ptrN_at] at x1
  obtain ⟨⟨y0, y1, y2⟩, _⟩ := trio_cells (kA.cl j hj)
  go_enter Tryz.func128, Tryz.ntmps128
  go_wp2_with (go_at_call 133; refine (callVal_at j _).mono ?_; rintro e w2 ⟨rfl, hb⟩; have r2 := row_below hb rx; obtain ⟨⟨t0, t1⟩, tf0, tf1⟩ := two_cells r2)
  have hB2 := hA.trans (hb.mono hA.size)
  have R9 : ((w2.setCell ⟨w.heap.size, 0, none⟩ (.int .i64 2)).setCell ⟨w.heap.size, 1, none⟩ (.int .i64 j)).rowIs w.heap.size 37 2 (two (.int .i64 2) (.int .i64 j)) := ((two_set0 r2 (.int .i64 2)).set 1 (.int .i64 j)).congr fun i hi => by match i, hi with | 0, _ => rfl | 1, _ => rfl
  have B9 := (hB2.setCell (p := ⟨w.heap.size, 0, none⟩) (Nat.le_refl _) (.int .i64 2)).setCell (p := ⟨w.heap.size, 1, none⟩) (Nat.le_refl _) (.int .i64 j)
  generalize (w2.setCell ⟨w.heap.size, 0, none⟩ (.int .i64 2)).setCell ⟨w.heap.size, 1, none⟩ (.int .i64 j) = W9 at *
  obtain ⟨⟨q0, q1⟩, _⟩ := two_cells R9
  exact bodyPost_ret (v := .agg #[.int .i64 2, .int .i64 j]) (by simp [results, Tryz.results128, go_sem, q0, q1]) rfl ⟨rfl, B9⟩
end Go.Proofs.YtlpbklgkafjfmaaGreatDoor

/-
  The program's step, its parts: the operation that is next, the kinds of what is taken, what is taken, who does it.
-/
namespace Go.Proofs.YtlpbklgkafjfmaaGreatDoor
open Go.RowKit
set_option maxRecDepth 100000 in
set_option maxHeartbeats 2000000 in
theorem opAt_any (vp : Value) (ms : Ms) (m pc : Nat) (w : World) (hM : MethsAt w vp ms) (hm : m < ms.length) :
    Calls Tryz.prog 66 #[.agg #[vp], .int .i64 m, .int .i64 pc] w fun e w' => e = .returned (.tuple #[.agg #[.int .i64 (ms[m].2.2.getD pc (0, 0)).1, .int .i64 (ms[m].2.2.getD pc (0, 0)).2], .bool (decide (pc < ms[m].2.2.length))]) ∧ Below w.heap.size w w' := by
  have hA : Below w.heap.size w ((w.alloc (.cells #[vp] 25)).alloc (.cells #[.int .i64 0, .int .i64 0] 35)) := ((Below.refl _ _).alloc (Nat.le_refl _) _).alloc (by simp) _
  have hMA := hM.below hA
  obtain ⟨ap, cp, hvp, hlp, hms⟩ := id hMA
  obtain ⟨pb, po, vo, hap, p0, p1, p2, p3⟩ := hms m hm
  obtain ⟨oa, oc, hvo, hol, hops⟩ := id p3
  subst hvp hap hvo
  have r1 := two_new (w.alloc (.cells #[.slice (some ⟨pb, po, none⟩) ms.length cp] 25)) 35 (.int .i64 0) (.int .i64 0)
  simp only [World.size_alloc] at r1
  have hmz : (m : Int) < (ms.length : Int) := by omega
  clear hms hM hMA
  by_cases hpl : pc < ms[m].2.2.length
  · rw [decide_eq_true hpl, getD_at hpl]
    obtain ⟨ob, oo, hob, q0, q1⟩ := hops pc hpl
    subst hob
    have hpz : (pc : Int) < (ms[m].2.2.length : Int) := by omega
    have hp0 : (0 : Int) ≤ (pc : Int) := by omega
    clear hops p3
    generalize ms[m].2.2[pc] = op at *
    obtain ⟨kk, a⟩ := op
    generalize ms[m].2.2.length = no at *
    have r0 := (box_row w 25 (.slice (some ⟨pb, po, none⟩) ms.length cp)).alloc (.cells #[.int .i64 0, .int .i64 0] 35)
    go_enter Tryz.func66, Tryz.ntmps66
    go_upto_region 1 with fail
    generalize (w.alloc (.cells #[.slice (some ⟨pb, po, none⟩) ms.length cp] 25)).alloc (.cells #[.int .i64 0, .int .i64 0] 35) = W at *
    obtain ⟨⟨u0, u1⟩, uf0, uf1⟩ := two_cells r1
    have v0 := r0.cell (i := 0) (by decide)
    go_wp2_with (go_at_call 63; refine (isPlace_any _ _ _).mono ?_; rintro e w' ⟨rfl, hw⟩; obtain rfl := hw.symm; rw [inR_true.2 ⟨hp0, by omega⟩])
    have R9 : ((W.setCell ⟨w.heap.size + 1, 0, none⟩ (.int .i64 kk)).setCell ⟨w.heap.size + 1, 1, none⟩ (.int .i64 a)).rowIs (w.heap.size + 1) 35 2 (two (.int .i64 kk) (.int .i64 a)) := ((two_set0 r1 (.int .i64 kk)).set 1 (.int .i64 a)).congr fun i hi => by match i, hi with | 0, _ => rfl | 1, _ => rfl
    have B9 : Below w.heap.size w ((W.setCell ⟨w.heap.size + 1, 0, none⟩ (.int .i64 kk)).setCell ⟨w.heap.size + 1, 1, none⟩ (.int .i64 a)) := (hA.setCell (p := ⟨w.heap.size + 1, 0, none⟩) (Nat.le_succ _) _).setCell (p := ⟨w.heap.size + 1, 1, none⟩) (Nat.le_succ _) _
    obtain ⟨⟨s0, s1⟩, _⟩ := two_cells R9
    generalize (W.setCell ⟨w.heap.size + 1, 0, none⟩ (.int .i64 kk)).setCell ⟨w.heap.size + 1, 1, none⟩ (.int .i64 a) = W9 at *
    exact bodyPost_ret (v := .tuple #[.agg #[.int .i64 kk, .int .i64 a], .bool true]) (by simp [results, Tryz.results66, go_sem, s0, s1]) rfl ⟨rfl, B9⟩
  · rw [decide_eq_false hpl, List.getD_eq_getElem?_getD, List.getElem?_eq_none (by omega)]
    clear hops
    generalize ms[m].2.2.length = no at *
    have r0 := (box_row w 25 (.slice (some ⟨pb, po, none⟩) ms.length cp)).alloc (.cells #[.int .i64 0, .int .i64 0] 35)
    go_enter Tryz.func66, Tryz.ntmps66
    go_upto_region 1 with fail
    generalize (w.alloc (.cells #[.slice (some ⟨pb, po, none⟩) ms.length cp] 25)).alloc (.cells #[.int .i64 0, .int .i64 0] 35) = W at *
    obtain ⟨⟨u0, u1⟩, uf0, uf1⟩ := two_cells r1
    have v0 := r0.cell (i := 0) (by decide)
    go_wp2_with (go_at_call 63; refine (isPlace_any _ _ _).mono ?_; rintro e w' ⟨rfl, hw⟩; obtain rfl := hw.symm; rw [inR_false.2 (by omega)])
    have R9 : ((W.setCell ⟨w.heap.size + 1, 0, none⟩ (.int .i64 0)).setCell ⟨w.heap.size + 1, 1, none⟩ (.int .i64 0)).rowIs (w.heap.size + 1) 35 2 (two (.int .i64 0) (.int .i64 0)) := ((two_set0 r1 (.int .i64 0)).set 1 (.int .i64 0)).congr fun i hi => by match i, hi with | 0, _ => rfl | 1, _ => rfl
    have B9 : Below w.heap.size w ((W.setCell ⟨w.heap.size + 1, 0, none⟩ (.int .i64 0)).setCell ⟨w.heap.size + 1, 1, none⟩ (.int .i64 0)) := (hA.setCell (p := ⟨w.heap.size + 1, 0, none⟩) (Nat.le_succ _) _).setCell (p := ⟨w.heap.size + 1, 1, none⟩) (Nat.le_succ _) _
    obtain ⟨⟨s0, s1⟩, _⟩ := two_cells R9
    generalize (W.setCell ⟨w.heap.size + 1, 0, none⟩ (.int .i64 0)).setCell ⟨w.heap.size + 1, 1, none⟩ (.int .i64 0) = W9 at *
    exact bodyPost_ret (v := .tuple #[.agg #[.int .i64 0, .int .i64 0], .bool false]) (by simp [results, Tryz.results66, go_sem, s0, s1]) rfl ⟨rfl, B9⟩
end Go.Proofs.YtlpbklgkafjfmaaGreatDoor

/-
  The program's step, its parts: the kinds of what is taken, what is taken.
-/
namespace Go.Proofs.YtlpbklgkafjfmaaGreatDoor
open Go.RowKit
set_option maxRecDepth 100000 in
set_option maxHeartbeats 4000000 in
theorem kindsFit_any (k a : Int) (va : Value) (args : List (Int × Int)) (w : World) (hM : OpsAt w va args) (h5 : k = 5 → args.length = 2) (h1 : k = 12 ∨ k = 13 ∨ k = 14 ∨ k = 15 ∨ k = 17 ∨ k = 18 → 1 ≤ args.length) :
    Calls Tryz.prog 84 #[.agg #[.int .i64 k, .int .i64 a], va] w fun e w' => e = .returned (.bool (kindsOk k args)) ∧ Below w.heap.size w w' := by
  obtain ⟨aa, ca, rfl, hal, hc⟩ := hM
  have hA : Below w.heap.size w (w.alloc (.cells #[.int .i64 k, .int .i64 a] 35)) := (Below.refl _ _).alloc (Nat.le_refl _) _
  have ro := two_new w 35 (.int .i64 k) (.int .i64 a)
  by_cases e5 : k = 5
  · subst e5
    have hl := h5 rfl
    obtain ⟨b, o, rfl, p0, p1⟩ := hc 0 (by omega)
    obtain ⟨b', o', hbo, q0, q1⟩ := hc 1 (by omega)
    obtain ⟨rfl, rfl⟩ : b = b' ∧ o = o' := by injection hbo with e; injection e with e1 e2; exact ⟨e1, e2⟩
    have hz0 : (0 : Int) < (args.length : Int) := by omega
    have hz1 : (1 : Int) < (args.length : Int) := by omega
    have HK : Hid (kindsOk 5 args = ((args[0]'(by omega)).1 == 1 && (args[1]'(by omega)).1 == 1)) := by
      show _ = _
      unfold kindsOk
      rw [if_pos rfl, getD_at (by omega), getD_at (by omega)]
    have p0A := cell_below hA p0
    have q0A := cell_below hA q0
    simp only [Nat.zero_mul, Nat.add_zero, Nat.one_mul] at p0A q0A
    go_enter Tryz.func84, Tryz.ntmps84
    go_upto_region 1 with fail
    generalize w.alloc (.cells #[.int .i64 5, .int .i64 a] 35) = W at *
    obtain ⟨⟨o0, o1⟩, _⟩ := two_cells ro
    generalize hx : args[0].1 = X at *
    generalize hy : args[1].1 = Y at *
    by_cases ex : X = 1
    · subst ex
      go_wp2
      go_ret
      exact ⟨by rw [HK.out]; simp, hA⟩
    · have ex' : (X == 1) = false := beq_eq_false_iff_ne.2 ex
      go_wp2
      go_ret
      exact ⟨by rw [HK.out, ex']; simp, hA⟩
  have e5' : (k == 5) = false := beq_eq_false_iff_ne.2 e5
  by_cases ek : k = 12 ∨ k = 13 ∨ k = 14 ∨ k = 15 ∨ k = 17 ∨ k = 18
  · have hl := h1 ek
    obtain ⟨b, o, rfl, p0, p1⟩ := hc 0 (by omega)
    have hz0 : (0 : Int) < (args.length : Int) := by omega
    have HK : Hid (kindsOk k args = ((args[0]'(by omega)).1 == 2)) := by
      show _ = _
      unfold kindsOk
      rw [if_neg e5, if_pos ek, getD_at (by omega)]
    have p0A := cell_below hA p0
    simp only [Nat.zero_mul, Nat.add_zero] at p0A
    generalize args[0].1 = X at *
    rcases ek with e | e | e | e | e | e
    all_goals
      subst e
      go_enter Tryz.func84, Tryz.ntmps84
      go_upto_region 1 with fail
      generalize w.alloc _ = W at *
      obtain ⟨⟨o0, o1⟩, _⟩ := two_cells ro
      go_wp2
      go_ret
      exact ⟨by rw [HK.out]; rfl, hA⟩
  · have HK : Hid (kindsOk k args = true) := by
      show _ = _
      unfold kindsOk
      rw [if_neg e5, if_neg ek]
    have n12 : (k == 12) = false := beq_eq_false_iff_ne.2 (by omega)
    have n13 : (k == 13) = false := beq_eq_false_iff_ne.2 (by omega)
    have n14 : (k == 14) = false := beq_eq_false_iff_ne.2 (by omega)
    have n15 : (k == 15) = false := beq_eq_false_iff_ne.2 (by omega)
    have n17 : (k == 17) = false := beq_eq_false_iff_ne.2 (by omega)
    have n18 : (k == 18) = false := beq_eq_false_iff_ne.2 (by omega)
    clear e5 ek
    go_enter Tryz.func84, Tryz.ntmps84
    go_upto_region 1 with fail
    generalize w.alloc _ = W at *
    obtain ⟨⟨o0, o1⟩, _⟩ := two_cells ro
    go_wp2
    go_ret
    exact ⟨by rw [HK.out]; rfl, hA⟩
theorem takes_kinds {ms : Ms} {kk a t l : Int} (e : takesOf ms kk a = (t, l)) {DR : List (Int × Int)} (hd : (DR.length : Int) = t) : (kk = 5 → DR.length = 2) ∧ (kk = 12 ∨ kk = 13 ∨ kk = 14 ∨ kk = 15 ∨ kk = 17 ∨ kk = 18 → 1 ≤ DR.length) := by
  refine ⟨fun q => ?_, fun q => ?_⟩
  · subst q
    rw [takes_num (by decide)] at e
    injection e with e1 e2
    have : tk 5 = 2 := rfl
    omega
  · rw [takes_num (by omega)] at e
    injection e with e1 e2
    have : 1 ≤ tk kk := by
      rcases q with q | q | q | q | q | q <;> subst q <;> decide
    omega
end Go.Proofs.YtlpbklgkafjfmaaGreatDoor
