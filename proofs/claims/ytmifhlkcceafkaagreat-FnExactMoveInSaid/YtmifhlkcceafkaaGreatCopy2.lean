/-
  The copies that the exact laws make: toOp, toOpS, toMethod, toMethodS, toProg answer the same operations, methods, program in new memory, and write to nothing that was there.
-/
import Derived.Test.YtmifhlkcceafkaaGreatProg
import Derived.Test.YtmifhlkcceafkaaGreatHPlain

namespace Go.Proofs.YtmifhlkcceafkaaGreat
open Go.RowKit
def NF (B : Nat) (w : World) : Prop := ∀ g o, B ≤ g → w.frozen? ⟨g, o, none⟩ = false
theorem NF.start (w : World) : NF w.heap.size w := fun g o h => by
  unfold World.frozen?
  rw [Array.getElem?_eq_none (by exact h)]
theorem NF.alloc {B : Nat} {w : World} (h : NF B w) (cs : Array Value) (t : TypeId) : NF B (w.alloc (.cells cs t)) := fun g o hg => by
  by_cases e : g = w.heap.size
  · subst e
    unfold World.frozen?
    rw [Go.Deep.blk_alloc_new]
    simp
  · by_cases hl : g < w.heap.size
    · rw [World.frozen?_of_block (a := ⟨g, o, none⟩) (Below.heap_alloc w _ g hl)]; exact h g o hg
    · unfold World.frozen?
      rw [Array.getElem?_eq_none (by show (w.alloc _).heap.size ≤ g; rw [World.size_alloc]; omega)]
theorem NF.set {B : Nat} {w : World} (h : NF B w) (p : Addr) (v : Value) : NF B (w.setCell p v) := fun g o hg => by rw [World.frozen?_setCell]; exact h g o hg
theorem NF.go {B : Nat} {w w' : World} (h : NF B w) (h' : NF w.heap.size w') (hb : Below w.heap.size w w') : NF B w' := fun g o hg => by
  by_cases hl : g < w.heap.size
  · rw [hb.frozen (p := ⟨g, o, none⟩) hl]; exact h g o hg
  · exact h' g o (by omega)
theorem NF.mono {B B' : Nat} {w : World} (h : NF B w) (hB : B ≤ B') : NF B' w := fun g o hg => h g o (by omega)
def MethsHi (w : World) (v : Value) (ms : List (Int × Int × List (Int × Int))) : Prop :=
  ∃ (g cap : Nat), v = .slice (some ⟨g, 0, none⟩) ms.length cap ∧ ∀ i, i < ms.length → ∃ vo, w.cell? ⟨g, i * 3 + 2, none⟩ = some vo ∧ Own (g + 1) vo
theorem MethsHi.set {w : World} {v : Value} {ms : List (Int × Int × List (Int × Int))} {B : Nat} (h : MethsHi w v ms) (hB : Own B v) {p : Addr} (hp : p.block < B) (u : Value) : MethsHi (w.setCell p u) v ms := by
  obtain ⟨g, cap, rfl, hc⟩ := h
  obtain ⟨g', _, _, e, hg⟩ := hB
  obtain rfl : g = g' := by injection e with e; injection e with e; injection e
  refine ⟨g, cap, rfl, fun i hi => ?_⟩
  obtain ⟨vo, h1, h2⟩ := hc i hi
  exact ⟨vo, by rw [World.cell?_setCell_other _ _ _ _ (fun e => by have := congrArg Addr.block e; simp at this; omega)]; exact h1, h2⟩
theorem Tryz.infoOp : (Tryz.prog.info? 156).map (fun i => (i.zero, i.size, i.bytes)) = some (some (.agg #[.int .i64 0, .int .i64 0]), 2, 16) := by kernel_rfl
theorem Tryz.infoMeth : (Tryz.prog.info? 113).map (fun i => (i.zero, i.size, i.bytes)) = some (some (.agg #[.int .i64 0, .int .i64 0, .slice none 0 0]), 3, 40) := by kernel_rfl
theorem toOp_any (k a : Int) (w : World) :
    Calls Tryz.prog 99 #[.agg #[.int .i64 k, .int .i64 a]] w fun e w' => e = .returned (.agg #[.int .i64 k, .int .i64 a]) ∧ Below w.heap.size w w' ∧ NF w.heap.size w' := by
  go_enter Tryz.func99, Tryz.ntmps99
  go_wp2
  refine bodyPost_ret (v := .agg #[.int .i64 k, .int .i64 a]) (by simp [results, Tryz.results99, go_sem]) rfl ⟨rfl, ?_, ?_⟩
  · exact (((Below.refl _ _).alloc (Nat.le_refl _) _).alloc (by simp) _).alloc (by simp; omega) _
  · exact (((NF.start w).alloc _ _).alloc _ _).alloc _ _
set_option maxHeartbeats 400000 in
theorem toOpS_any (v : Value) (ops : List (Int × Int)) (w : World) (h : OpsAt w v ops) (hn : ops.length ≤ 1048576) :
    Calls Tryz.prog 90 #[v] w fun e w' => ∃ v', e = .returned v' ∧ OpsAt w' v' ops ∧ Own w.heap.size v' ∧ Below w.heap.size w w' ∧ NF w.heap.size w' := by
  obtain ⟨a, cap, rfl, hl, hc⟩ := h
  have hl' := hl
  unfold maxLen at hl
  obtain ⟨i0, hi, hz0, hz1, hz2⟩ := info_parts Tryz.infoOp
  have hmk : ∀ w : World, (Instr.makeSlice 111 (.int .i64 (ops.length : Int)) (.int .i64 (ops.length : Int))).run Tryz.prog w = .ok (.slice (some ⟨w.heap.size, 0, none⟩) ops.length ops.length) (w.alloc (.cells (madeCells #[.int .i64 0, .int .i64 0] (ops.length * 2)) 156)) := by
    intro w
    have := run_make (P := Tryz.prog) w 111 156 i0 _ Tryz.underlying111 hi hz0 .i64 .i64 ops.length ops.length (by omega) (Int.le_refl _) (by rw [hz2]; omega) (by omega)
    simpa [hz1, Value.cells] using this
  go_enter Tryz.func90, Tryz.ntmps90
  go_wp2
  clear hmk hi hz0 hz1 hz2
  go_loopg [4] ops.length (fun g i wr => ∃ k : Nat, k ≤ ops.length ∧ g = ops.length - k ∧ i = .int .i64 k ∧ NF w.heap.size wr ∧ Below w.heap.size w wr ∧ wr.rowIs w.heap.size 156 (ops.length * 2) (fun j => if j < k * 2 then opCell ops j else .int .i64 0))
  case atStart => exact ⟨0, Nat.zero_le _, rfl, rfl, (NF.start w).alloc _ _, (Below.refl _ _).alloc (Nat.le_refl _) _, ops_row_start _ _ _ _⟩
  case round =>
    obtain ⟨k, hk, rfl, rfl, hnf, hb, hrow⟩ := hrel
    have HNF : Hid (NF w.heap.size wr) := hnf
    clear hnf
    by_cases hlt : k < ops.length
    · obtain ⟨b, o, rfl, c0, c1⟩ := hc k hlt
      have d0 := cell_below hb c0
      have d1 := cell_below hb c1
      clear c0 c1 hc
      have hkz : (k : Int) < (ops.length : Int) := by omega
      go_wp2_with fail
      refine (toOp_any _ _ _).mono ?_
      rintro e w1 ⟨rfl, hb1, hnf1⟩
      have hsz := hb.size
      have HNF1 : Hid (NF w.heap.size w1) := HNF.out.go hnf1 hb1
      clear HNF hnf1
      have hrow1 := row_below hb1 hrow
      have hb2 : Below w.heap.size w w1 := hb.trans (hb1.mono (Nat.le_of_lt hrow.lt))
      have f0 := hrow1.frozen (k * 2)
      have f1 := hrow1.frozen (k * 2 + 1)
      have g0 := hrow1.cell (i := k * 2) (by omega)
      have g1 := hrow1.cell (i := k * 2 + 1) (by omega)
      have R := ops_row_step hlt hrow1
      clear hrow hrow1 hb hb1 d0 d1
      go_wp2
      go_roundg (ops.length - (k + 1))
      case measure => omega
      case rel => exact ⟨k + 1, by omega, rfl, by go_num, (HNF1.out.set _ _).set _ _, (hb2.setCell (Nat.le_refl _) _).setCell (Nat.le_refl _) _, R⟩
    · obtain rfl : k = ops.length := by omega
      go_wp2
      go_ret
      exact ⟨_, rfl, ops_row_end hl' hrow _, ⟨_, _, _, rfl, Nat.le_refl _⟩, hb, HNF.out⟩
set_option maxHeartbeats 400000 in
theorem toMethod_any (a t : Int) (v : Value) (ops : List (Int × Int)) (w : World) (h : OpsAt w v ops) (hn : ops.length ≤ 1048576) :
    Calls Tryz.prog 60 #[.agg #[.int .i64 a, .int .i64 t, v]] w fun e w' => ∃ v', e = .returned (.agg #[.int .i64 a, .int .i64 t, v']) ∧ OpsAt w' v' ops ∧ Own w.heap.size v' ∧ Below w.heap.size w w' ∧ NF w.heap.size w' := by
  obtain ⟨ad, cap, rfl, hl, hc⟩ := h
  have h : OpsAt w (.slice ad ops.length cap) ops := ⟨ad, cap, rfl, hl, hc⟩
  clear hl hc
  go_enter Tryz.func60, Tryz.ntmps60
  go_wp2_with fail
  refine (toOpS_any _ ops _ (h.below ?_) hn).mono ?_
  · exact (((Below.refl _ _).alloc (Nat.le_refl _) _).alloc (by simp) _).alloc (by simp; omega) _
  rintro e w1 ⟨v', rfl, ho, ⟨g, l, c, rfl, hg⟩, hb1, hnf1⟩
  have HNF : Hid (NF w.heap.size w1) := ((((NF.start w).alloc _ _).alloc _ _).alloc _ _).go hnf1 hb1
  clear hnf1
  obtain ⟨hc, hf⟩ := bcell hb1
  have hz : w.heap.size + 1 + 1 < w1.heap.size := by have := hb1.size; simp at this; omega
  go_wp2
  have hg' : w.heap.size + 1 + 1 < g := by simp at hg; omega
  have hb2 : Below w.heap.size w w1 := ((((Below.refl _ _).alloc (Nat.le_refl _) _).alloc (by simp) _).alloc (by simp; omega) _).trans (hb1.mono (by simp; omega))
  have hown : Own (w.heap.size + 1 + 1 + 1) (.slice (some ⟨g, 0, none⟩) l c) := ⟨g, l, c, rfl, hg'⟩
  refine bodyPost_ret (v := .agg #[.int .i64 a, .int .i64 t, .slice (some ⟨g, 0, none⟩) l c]) (by simp [results, Tryz.results60, go_sem, hc]) rfl ⟨_, rfl, ?_, hown.mono (by omega), ?_, (((HNF.out.set _ _).set _ _).set _ _).set _ _⟩
  · exact (((ho.set hown (by show w.heap.size + 1 + 1 < _; omega) _).set hown (by show w.heap.size + 1 < _; omega) _).set hown (by show w.heap.size + 1 < _; omega) _).set hown (by show w.heap.size + 1 < _; omega) _
  · exact (((hb2.setCell (by show _ ≤ w.heap.size + 1 + 1; omega) _).setCell (by show _ ≤ w.heap.size + 1; omega) _).setCell (by show _ ≤ w.heap.size + 1; omega) _).setCell (by show _ ≤ w.heap.size + 1; omega) _
def Copied (w wr : World) (ms : List (Int × Int × List (Int × Int))) (t : TypeId) (k : Nat) : Prop :=
  ∃ V : Nat → Value, Below w.heap.size w wr ∧ NF w.heap.size wr ∧ wr.rowIs w.heap.size t (ms.length * 3) (fun j => if j < k * 3 then methCell ms V j else methZero j) ∧ ∀ i, (hi : i < ms.length) → i < k → OpsAt wr (V i) ms[i].2.2 ∧ Own (w.heap.size + 1) (V i)
theorem copied_step {w wr w1 : World} {ms : List (Int × Int × List (Int × Int))} {t : TypeId} {k : Nat} (hk : k < ms.length) (h : Copied w wr ms t k) (hb : Below wr.heap.size wr w1) {v : Value} (hv : OpsAt w1 v ms[k].2.2) (ho : Own wr.heap.size v) (hnf1 : NF wr.heap.size w1) :
    Copied w (((w1.setCell ⟨w.heap.size, k * 3, none⟩ (.int .i64 ms[k].1)).setCell ⟨w.heap.size, k * 3 + 1, none⟩ (.int .i64 ms[k].2.1)).setCell ⟨w.heap.size, k * 3 + 2, none⟩ v) ms t (k + 1) := by
  obtain ⟨V, hB, hnf, hrow, hV⟩ := h
  have hlt := hrow.lt
  have hrow1 := row_below hb hrow
  refine ⟨fun i => if i = k then v else V i, (((hB.trans (hb.mono (Nat.le_of_lt hlt))).setCell (Nat.le_refl _) _).setCell (Nat.le_refl _) _).setCell (Nat.le_refl _) _, (((hnf.go hnf1 hb).set _ _).set _ _).set _ _, meth_row_step hk v hrow1, fun i hi hik => ?_⟩
  by_cases e : i = k
  · subst e
    have ho' : Own (w.heap.size + 1) v := ho.mono (by omega)
    simp only [if_true]
    exact ⟨((hv.set ho' (Nat.lt_succ_self _) _).set ho' (Nat.lt_succ_self _) _).set ho' (Nat.lt_succ_self _) _, ho'⟩
  · simp only [if_neg e]
    obtain ⟨h1, h2⟩ := hV i hi (by omega)
    exact ⟨(((h1.below hb).set h2 (Nat.lt_succ_self _) _).set h2 (Nat.lt_succ_self _) _).set h2 (Nat.lt_succ_self _) _, h2⟩
set_option maxHeartbeats 400000 in
theorem toMethodS_any (v : Value) (ms : List (Int × Int × List (Int × Int))) (w : World) (h : MethsAt w v ms) (hn : ms.length ≤ 1048576) (ho : ∀ i, (hi : i < ms.length) → ms[i].2.2.length ≤ 1048576) :
    Calls Tryz.prog 24 #[v] w fun e w' => ∃ v', e = .returned v' ∧ MethsNew w.heap.size w' v' ms ∧ Below w.heap.size w w' ∧ NF w.heap.size w' ∧ MethsHi w' v' ms := by
  obtain ⟨a, cap, rfl, hl, hc⟩ := h
  have hl' := hl
  unfold maxLen at hl
  obtain ⟨i0, hi, hz0, hz1, hz2⟩ := info_parts Tryz.infoMeth
  have hmk : ∀ w : World, (Instr.makeSlice 39 (.int .i64 (ms.length : Int)) (.int .i64 (ms.length : Int))).run Tryz.prog w = .ok (.slice (some ⟨w.heap.size, 0, none⟩) ms.length ms.length) (w.alloc (.cells (madeCells #[.int .i64 0, .int .i64 0, .slice none 0 0] (ms.length * 3)) 113)) := by
    intro w
    have := run_make (P := Tryz.prog) w 39 113 i0 _ Tryz.underlying39 hi hz0 .i64 .i64 ms.length ms.length (by omega) (Int.le_refl _) (by rw [hz2]; omega) (by omega)
    simpa [hz1, Value.cells] using this
  go_enter Tryz.func24, Tryz.ntmps24
  go_wp2
  clear hmk hi hz0 hz1 hz2
  go_loopg [4] ms.length (fun g i wr => ∃ k : Nat, k ≤ ms.length ∧ g = ms.length - k ∧ i = .int .i64 k ∧ Copied w wr ms 113 k)
  case atStart => exact ⟨0, Nat.zero_le _, rfl, rfl, fun _ => .bool false, (Below.refl _ _).alloc (Nat.le_refl _) _, (NF.start w).alloc _ _, meth_row_start _ _ _ _, fun i _ h0 => absurd h0 (Nat.not_lt_zero _)⟩
  case round =>
    obtain ⟨k, hk, rfl, rfl, hC⟩ := hrel
    by_cases hlt : k < ms.length
    · obtain ⟨b, o, vo, rfl, c0, c1, c2, c3⟩ := hc k hlt
      have hok := ho k hlt
      obtain ⟨V, hB, _, hrow, hV⟩ := id hC
      have d0 := cell_below hB c0
      have d1 := cell_below hB c1
      have d2 := cell_below hB c2
      have d3 := c3.below hB
      clear c0 c1 c2 c3 hc ho hV
      have hkz : (k : Int) < (ms.length : Int) := by omega
      obtain ⟨ad, cap3, hvo, _⟩ := id d3
      rw [hvo] at d2 d3
      go_wp2_with fail
      refine (toMethod_any _ _ _ _ _ d3 hok).mono ?_
      rintro e w1 ⟨v', rfl, hv', hown, hb1, hnf1⟩
      have hrow1 := row_below hb1 hrow
      have f0 := hrow1.frozen (k * 3)
      have f1 := hrow1.frozen (k * 3 + 1)
      have f2 := hrow1.frozen (k * 3 + 2)
      have g0 := hrow1.cell (i := k * 3) (by omega)
      have g1 := hrow1.cell (i := k * 3 + 1) (by omega)
      have g2 := hrow1.cell (i := k * 3 + 2) (by omega)
      have R := copied_step hlt hC hb1 hv' hown hnf1
      clear hnf1
      obtain ⟨g, l, c, hvv, _⟩ := hown
      rw [hvv] at R ⊢
      clear hrow hrow1 hC hB d0 d1 d2 d3 hb1 hv' hvo
      go_wp2
      go_roundg (ms.length - (k + 1))
      case measure => omega
      case rel => exact ⟨k + 1, by omega, rfl, by go_num, R⟩
    · obtain rfl : k = ms.length := by omega
      obtain ⟨V, hB, hnf, hrow, hV⟩ := hC
      have HNF : Hid (NF w.heap.size wr) := hnf
      clear hnf
      go_wp2
      go_ret
      exact ⟨_, rfl, meth_row_end hl' hrow (Nat.le_refl _) (fun i hi => ⟨(hV i hi hi).1, (hV i hi hi).2.mono (Nat.le_succ _)⟩) _, hB, HNF.out, w.heap.size, _, rfl, fun i hi => ⟨V i, by have := hrow.cell (i := i * 3 + 2) (by omega); rw [if_pos (by omega), methCell_2] at this; exact this, (hV i hi hi).2⟩⟩
set_option maxHeartbeats 400000 in
theorem toProg_any (v : Value) (ms : List (Int × Int × List (Int × Int))) (w : World) (h : MethsAt w v ms) (hn : ms.length ≤ 1048576) (ho : ∀ i, (hi : i < ms.length) → ms[i].2.2.length ≤ 1048576) :
    Calls Tryz.prog 7 #[.agg #[v]] w fun e w' => ∃ v', e = .returned (.agg #[v']) ∧ MethsNew w.heap.size w' v' ms ∧ Below w.heap.size w w' ∧ NF w.heap.size w' ∧ MethsHi w' v' ms := by
  obtain ⟨ad, cap, rfl, hl, hc⟩ := h
  have h : MethsAt w (.slice ad ms.length cap) ms := ⟨ad, cap, rfl, hl, hc⟩
  clear hl hc
  go_enter Tryz.func7, Tryz.ntmps7
  go_wp2_with fail
  refine (toMethodS_any _ ms _ (h.below ?_) hn ho).mono ?_
  · exact (((Below.refl _ _).alloc (Nat.le_refl _) _).alloc (by simp) _).alloc (by simp; omega) _
  rintro e w1 ⟨v', rfl, hm, hb1, hnf1, hhi⟩
  have HNF : Hid (NF w.heap.size w1) := ((((NF.start w).alloc _ _).alloc _ _).alloc _ _).go hnf1 hb1
  clear hnf1
  obtain ⟨g, l, c, hv, hg⟩ := hm.own
  rw [hv] at hm hhi ⊢
  have HHI : Hid (MethsHi w1 (.slice (some ⟨g, 0, none⟩) l c) ms) := hhi
  clear hhi
  have hm' : MethsNew (w.heap.size + 1 + 1 + 1) w1 (.slice (some ⟨g, 0, none⟩) l c) ms := hm.mono (by simp)
  obtain ⟨hc, hf⟩ := bcell hb1
  have hz : w.heap.size + 1 + 1 < w1.heap.size := by have := hb1.size; simp at this; omega
  clear hm hv
  go_wp2
  have hb2 : Below w.heap.size w w1 := ((((Below.refl _ _).alloc (Nat.le_refl _) _).alloc (by simp) _).alloc (by simp; omega) _).trans (hb1.mono (by simp; omega))
  refine bodyPost_ret (v := .agg #[.slice (some ⟨g, 0, none⟩) l c]) (by simp [results, Tryz.results7, go_sem, hc]) rfl ⟨_, rfl, ?_, ?_, (HNF.out.set _ _).set _ _, (HHI.out.set hm'.own (by show w.heap.size + 1 + 1 < _; omega) _).set hm'.own (by show w.heap.size + 1 < _; omega) _⟩
  · exact ((hm'.set (by show w.heap.size + 1 + 1 < _; omega) _).set (by show w.heap.size + 1 < _; omega) _).mono (by omega)
  · exact (hb2.setCell (by show _ ≤ w.heap.size + 1 + 1; omega) _).setCell (by show _ ≤ w.heap.size + 1; omega) _
end Go.Proofs.YtmifhlkcceafkaaGreat
