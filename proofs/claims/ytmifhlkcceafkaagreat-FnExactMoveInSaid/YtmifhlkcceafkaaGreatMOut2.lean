/-
  A machine at work is handed out: mach. (Written by mkmach.py.)
-/
import Derived.Test.YtmifhlkcceafkaaGreatMOut1

namespace Go.Proofs.YtmifhlkcceafkaaGreat
open Go.RowKit
def bdAt (L : LvM) (k : Nat) : LvB := L.bodies.getD k LvB.none
def frM (L : LvM) (f : LvF) : Fr := ⟨(bdAt L f.body).m, (bdAt L f.body).pc, f.twin, (bdAt L f.body).temps, (bdAt L f.body).stack⟩
def pgM (L : LvM) (p : LvP) : Pg := ⟨p.base, p.frames.map (frM L)⟩
def twM (L : LvM) (t : LvT) : Tw := if t.page = -1 then ⟨-1, 0, ⟨(bdAt L t.body).m, (bdAt L t.body).pc, (bdAt L t.body).temps, (bdAt L t.body).stack, t.sender, (bdAt L t.body).dead⟩⟩ else ⟨t.page, t.place, ⟨0, 0, [], [], 0, false⟩⟩
def outM (L : LvM) (born : Int) (said : List (Int × Int)) (code : Int) : Mc := ⟨L.cells, L.pages.map (pgM L), L.order, L.now, L.twins.map (twM L), born, said, code⟩
theorem bdAt_at {L : LvM} {k : Nat} (h : k < L.bodies.length) : bdAt L k = L.bodies[k] := by simp [bdAt, h]
theorem framesAt_list {B : Nat} {ρ : Nat → Rl} {w w' : World} {P : Lay} (h : LvAt B ρ w P) (hb : Below w.heap.size w w') {fs : List LvF} (hwf : ∀ k, (hk : k < fs.length) → fs[k].body < P.L.bodies.length) {v : Value} {B' : Nat}
    (hr : CRow B' 5 w' v fs.length ((List.range fs.length).flatMap (frOut P fs))) : FramesAt w' v (fs.map (frM P.L)) := by
  obtain ⟨av, cv, hv, hm⟩ := hr.slice
  refine ⟨av, cv, by rw [hv, List.length_map], by rw [List.length_map]; exact hm, fun q hq => ?_⟩
  have hq' : q < fs.length := by simpa using hq
  subst hv
  obtain ⟨g, off, cap, e, _, _⟩ := hr.form (by omega)
  cases e
  have hk := hwf q hq'
  have c := fun j (hj : j < 5) => flatM_at (f := frOut P fs) (sz := 5) (fun i => frOut_len P fs i) fs.length q j hq' hj
  have e0 : fs.getD q ⟨0, -1⟩ = fs[q] := by simp [hq']
  have e1 : P.L.bodies.getD fs[q].body LvB.none = bdAt P.L fs[q].body := rfl
  have c0 := (hr.cell (c 0 (by omega))).1
  have c1 := (hr.cell (c 1 (by omega))).1
  have c2 := (hr.cell (c 2 (by omega))).1
  have c3 := (hr.cell (c 3 (by omega))).1
  have c4 := (hr.cell (c 4 (by omega))).1
  have ht := ((h (.temps _) hk).1.at).below hb
  have hs := ((h (.stack _) hk).1.at).below hb
  rw [← bdAt_at hk] at ht hs
  have em : (fs.map (frM P.L))[q] = frM P.L fs[q] := by simp
  rw [em]
  refine ⟨g, off, (P.T fs[q].body).1, (P.T fs[q].body).2, rfl, ?_, ?_, ?_, ?_, ?_, ht, hs⟩
  · have : w'.cell? ⟨g, off + (q * 5 + 0), none⟩ = some (.int .i64 (P.L.bodies.getD (fs.getD q ⟨0, -1⟩).body LvB.none).m) := c0
    rw [e0] at this
    exact this
  · have : w'.cell? ⟨g, off + (q * 5 + 1), none⟩ = some (.int .i64 (P.L.bodies.getD (fs.getD q ⟨0, -1⟩).body LvB.none).pc) := c1
    rw [e0, ← Nat.add_assoc] at this
    exact this
  · have : w'.cell? ⟨g, off + (q * 5 + 2), none⟩ = some (.int .i64 (fs.getD q ⟨0, -1⟩).twin) := c2
    rw [e0, ← Nat.add_assoc] at this
    exact this
  · have : w'.cell? ⟨g, off + (q * 5 + 3), none⟩ = some (P.T (fs.getD q ⟨0, -1⟩).body).1 := c3
    rw [e0, ← Nat.add_assoc] at this
    exact this
  · have : w'.cell? ⟨g, off + (q * 5 + 4), none⟩ = some (P.T (fs.getD q ⟨0, -1⟩).body).2 := c4
    rw [e0, ← Nat.add_assoc] at this
    exact this
theorem Tryz.infoPageO : (Tryz.prog.info? 61).map (fun i => (i.zero, i.size, i.bytes)) = some (some (.agg #[.int .i64 0, .slice none 0 0]), 2, 32) := by kernel_rfl
theorem flat_congr {f g : Nat → List Value} : ∀ n, (∀ i, i < n → f i = g i) → (List.range n).flatMap f = (List.range n).flatMap g
  | 0, _ => rfl
  | n + 1, h => by rw [flat_snoc, flat_snoc, flat_congr n (fun i hi => h i (by omega)), h n (by omega)]
def PgOut (P : Lay) (B' : Nat) (w : World) (v : Value) (k : Nat) : Prop :=
  ∃ V : Nat → Value, CRow B' 2 w v k ((List.range k).flatMap fun q => [.int .i64 (P.L.pages.getD q ⟨-1, []⟩).base, V q]) ∧
    ∀ q, q < k → CRow B' 5 w (V q) (P.L.pages.getD q ⟨-1, []⟩).frames.length ((List.range (P.L.pages.getD q ⟨-1, []⟩).frames.length).flatMap (frOut P (P.L.pages.getD q ⟨-1, []⟩).frames)) ∧ ∀ g, (V q).ownBlock = some g → v.ownBlock ≠ some g
theorem PgOut.kept {P : Lay} {B' k : Nat} {w w' : World} {v : Value} (h : PgOut P B' w v k) (hs : w.heap.size ≤ w'.heap.size) (hb : ∀ g, B' ≤ g → g < w.heap.size → w'.heap[g]? = w.heap[g]?) : PgOut P B' w' v k := by
  obtain ⟨V, h1, h2⟩ := h
  exact ⟨V, h1.kept hs fun g e => hb g (h1.lt g e).1 (h1.lt g e).2, fun q hq => ⟨(h2 q hq).1.kept hs fun g e => hb g ((h2 q hq).1.lt g e).1 ((h2 q hq).1.lt g e).2, (h2 q hq).2⟩⟩
theorem PgOut.below {P : Lay} {B' k : Nat} {w w' : World} {v : Value} (h : PgOut P B' w v k) (hb : Below w.heap.size w w') : PgOut P B' w' v k := h.kept hb.size fun g _ h2 => hb.block g h2
theorem PgOut.slice {P : Lay} {B' k : Nat} {w : World} {v : Value} (h : PgOut P B' w v k) : (∃ a c, v = .slice a k c) ∧ ∀ g, v.ownBlock = some g → B' ≤ g ∧ g < w.heap.size := by
  obtain ⟨V, h1, _⟩ := h
  obtain ⟨a, c, e, _⟩ := h1.slice
  exact ⟨⟨a, c, e⟩, h1.lt⟩
theorem PgOut.append {P : Lay} {B' B2 k : Nat} {w : World} {v u : Value} (h : PgOut P B' w v k) (hk : k < P.L.pages.length) (hu : CRow B2 5 w u P.L.pages[k].frames.length ((List.range P.L.pages[k].frames.length).flatMap (frOut P P.L.pages[k].frames))) (h2 : B' ≤ B2)
    (hv : ∀ g, v.ownBlock = some g → g < B2) (hus : u.oneCell' = true) (H : Nat) (hx : ∀ j x, ([.int .i64 P.L.pages[k].base, u] : List Value)[j]? = some x → w.cell? ⟨H, j, none⟩ = some x) (hB : B' ≤ w.heap.size) (hkf : k ≤ 2900000) :
    ∃ a' c' w', (Builtin.append_ #[31, 31] 31 #[v, .slice (some ⟨H, 0, none⟩) 1 1]).run Tryz.prog w = .ok (.slice a' (k + 1) c') w' ∧ PgOut P B' w' (.slice a' (k + 1) c') (k + 1) ∧ w.grownBy w' v.ownBlock := by
  obtain ⟨i0, hii, hz0, hz1, hz2⟩ := info_parts Tryz.infoPageO
  obtain ⟨V, h1, hV⟩ := h
  have hgd : P.L.pages.getD k ⟨-1, []⟩ = P.L.pages[k] := by simp [hk]
  obtain ⟨v', w', hrun, hrow, hg, hor⟩ := run_append_el (P := Tryz.prog) (t := 31) (ty := 31) Tryz.underlying31 hii hz0 hz1 rfl (by omega) h1 [.int .i64 P.L.pages[k].base, u] rfl (by intro x hx; simp at hx; rcases hx with rfl | rfl; rfl; exact hus) H 1 hx hkf hB
  obtain ⟨a', c', hv', _⟩ := hrow.slice
  subst hv'
  refine ⟨a', c', w', hrun, ⟨fun q => if q = k then u else V q, ?_, fun q hq => ?_⟩, hg⟩
  · rw [flat_snoc, hgd]
    simp only [if_true]
    rw [flat_congr (g := fun q => [Value.int .i64 (P.L.pages.getD q ⟨-1, []⟩).base, V q]) k fun i hi => by rw [if_neg (by omega)]]
    exact hrow
  · by_cases e : q = k
    · subst e
      simp only [if_true]
      rw [hgd]
      refine ⟨(hu.mono h2).kept hg.size fun g e => hg.block g (hu.lt g e).2 fun e2 => by have := hv g e2.symm; have := (hu.lt g e).1; omega, fun g e e2 => ?_⟩
      rcases hor with h9 | h9
      · rw [h9] at e2; have := hv g e2; have := (hu.lt g e).1; omega
      · rw [h9] at e2; injection e2 with e2; have := (hu.lt g e).2; omega
    · simp only [if_neg e]
      obtain ⟨q1, q2⟩ := hV q (by omega)
      refine ⟨q1.kept hg.size fun g e => hg.block g (q1.lt g e).2 fun e2 => q2 g e e2.symm, fun g e e2 => ?_⟩
      rcases hor with h9 | h9
      · rw [h9] at e2; exact q2 g e e2
      · rw [h9] at e2; injection e2 with e2; have := (q1.lt g e).2; omega
theorem Tryz.infoTwinO : (Tryz.prog.info? 66).map (fun i => (i.zero, i.size, i.bytes)) = some (some (.agg #[.int .i64 0, .int .i64 0, .int .i64 0, .int .i64 0, .slice none 0 0, .slice none 0 0, .int .i64 0, .bool false]), 8, 96) := by kernel_rfl
def twOut (P : Lay) (q : Nat) : List Value :=
  if (P.L.twins.getD q ⟨-1, 0, 0, 0⟩).page = -1 then
    [.int .i64 (-1), .int .i64 0, .int .i64 (bdAt P.L (P.L.twins.getD q ⟨-1, 0, 0, 0⟩).body).m, .int .i64 (bdAt P.L (P.L.twins.getD q ⟨-1, 0, 0, 0⟩).body).pc, (P.T (P.L.twins.getD q ⟨-1, 0, 0, 0⟩).body).1, (P.T (P.L.twins.getD q ⟨-1, 0, 0, 0⟩).body).2, .int .i64 (P.L.twins.getD q ⟨-1, 0, 0, 0⟩).sender, .bool (bdAt P.L (P.L.twins.getD q ⟨-1, 0, 0, 0⟩).body).dead]
  else [.int .i64 (P.L.twins.getD q ⟨-1, 0, 0, 0⟩).page, .int .i64 (P.L.twins.getD q ⟨-1, 0, 0, 0⟩).place, .int .i64 0, .int .i64 0, .slice none 0 0, .slice none 0 0, .int .i64 0, .bool false]
theorem twOut_len (P : Lay) (q : Nat) : (twOut P q).length = 8 := by unfold twOut; split <;> rfl
theorem twOut_append {P : Lay} {B' k : Nat} {w : World} {v : Value} (h : CRow B' 8 w v k ((List.range k).flatMap (twOut P))) (h1 : ∀ u ∈ twOut P k, u.oneCell' = true) (H : Nat) (hx : ∀ j x, (twOut P k)[j]? = some x → w.cell? ⟨H, j, none⟩ = some x) (hB : B' ≤ w.heap.size) (hkf : k ≤ 2900000) :
    ∃ a' c' w', (Builtin.append_ #[33, 33] 33 #[v, .slice (some ⟨H, 0, none⟩) 1 1]).run Tryz.prog w = .ok (.slice a' (k + 1) c') w' ∧ CRow B' 8 w' (.slice a' (k + 1) c') (k + 1) ((List.range (k + 1)).flatMap (twOut P)) ∧ w.grownBy w' v.ownBlock := by
  obtain ⟨i0, hii, hz0, hz1, hz2⟩ := info_parts Tryz.infoTwinO
  obtain ⟨v', w', hrun, hrow, hg, _⟩ := run_append_el (P := Tryz.prog) (t := 33) (ty := 33) Tryz.underlying33 hii hz0 hz1 rfl (by omega) h (twOut P k) (twOut_len P k) h1 H 1 hx hkf hB
  obtain ⟨a', c', hv', _⟩ := hrow.slice
  subst hv'
  rw [← flat_snoc] at hrow
  exact ⟨a', c', w', hrun, hrow, hg⟩
theorem pagesAt_out {B : Nat} {ρ : Nat → Rl} {w : World} {P : Lay} (h : LvAt B ρ w P) (hwf : P.L.wf) {B' : Nat} {v : Value} (hp : PgOut P B' w v P.L.pages.length) (hn : P.L.pages.length ≤ 1000) : PagesAt w v (P.L.pages.map (pgM P.L)) := by
  obtain ⟨V, h1, h2⟩ := hp
  obtain ⟨av, cv, hv, hm⟩ := h1.slice
  refine ⟨av, cv, by rw [hv, List.length_map], by rw [List.length_map]; exact hm, fun q hq => ?_⟩
  have hq' : q < P.L.pages.length := by simpa using hq
  have hgd : P.L.pages.getD q ⟨-1, []⟩ = P.L.pages[q] := by simp [hq']
  subst hv
  obtain ⟨g, off, cap, e, _, _⟩ := h1.form (by omega)
  cases e
  have c := fun j (hj : j < 2) => flatM_at (f := fun q => [Value.int .i64 (P.L.pages.getD q ⟨-1, []⟩).base, V q]) (sz := 2) (fun i => rfl) P.L.pages.length q j hq' hj
  have c0 := (h1.cell (c 0 (by omega))).1
  have c1 := (h1.cell (c 1 (by omega))).1
  obtain ⟨r1, _⟩ := h2 q hq'
  rw [hgd] at r1
  have hf := framesAt_list h (Below.refl _ _) (fun k hk => hwf.fr q hq' k hk) r1
  have em : (P.L.pages.map (pgM P.L))[q] = pgM P.L P.L.pages[q] := by simp
  rw [em]
  refine ⟨g, off, V q, rfl, ?_, ?_, hf⟩
  · have : w.cell? ⟨g, off + (q * 2 + 0), none⟩ = some (.int .i64 (P.L.pages.getD q ⟨-1, []⟩).base) := c0
    rw [hgd] at this
    exact this
  · have : w.cell? ⟨g, off + (q * 2 + 1), none⟩ = some (V q) := c1
    rw [← Nat.add_assoc] at this
    exact this
theorem twinsAt_out {B : Nat} {ρ : Nat → Rl} {w : World} {P : Lay} (h : LvAt B ρ w P) (hwf : P.L.wf) {B' : Nat} {v : Value} (hp : CRow B' 8 w v P.L.twins.length ((List.range P.L.twins.length).flatMap (twOut P))) : TwinsAt w v (P.L.twins.map (twM P.L)) := by
  obtain ⟨av, cv, hv, hm⟩ := hp.slice
  refine ⟨av, cv, by rw [hv, List.length_map], by rw [List.length_map]; exact hm, fun q hq => ?_⟩
  have hq' : q < P.L.twins.length := by simpa using hq
  have hgd : P.L.twins.getD q ⟨-1, 0, 0, 0⟩ = P.L.twins[q] := by simp [hq']
  subst hv
  obtain ⟨g, off, cap, e, _, _⟩ := hp.form (by omega)
  cases e
  have c := fun j (hj : j < 8) => flatM_at (f := twOut P) (sz := 8) (fun i => twOut_len P i) P.L.twins.length q j hq' hj
  have cell : ∀ j x, j < 8 → (twOut P q)[j]? = some x → w.cell? ⟨g, off + q * 8 + j, none⟩ = some x := fun j x hj hx => by
    have := (hp.cell (j := q * 8 + j) ((c j hj).trans hx)).1
    rwa [← Nat.add_assoc] at this
  have em : (P.L.twins.map (twM P.L))[q] = twM P.L P.L.twins[q] := by simp
  rw [em]
  have hk := hwf.tw q hq'
  by_cases hpg : P.L.twins[q].page = -1
  · have ht : twOut P q = [.int .i64 (-1), .int .i64 0, .int .i64 (bdAt P.L P.L.twins[q].body).m, .int .i64 (bdAt P.L P.L.twins[q].body).pc, (P.T P.L.twins[q].body).1, (P.T P.L.twins[q].body).2, .int .i64 P.L.twins[q].sender, .bool (bdAt P.L P.L.twins[q].body).dead] := by unfold twOut; rw [hgd, if_pos hpg]
    have hm2 : twM P.L P.L.twins[q] = ⟨-1, 0, ⟨(bdAt P.L P.L.twins[q].body).m, (bdAt P.L P.L.twins[q].body).pc, (bdAt P.L P.L.twins[q].body).temps, (bdAt P.L P.L.twins[q].body).stack, P.L.twins[q].sender, (bdAt P.L P.L.twins[q].body).dead⟩⟩ := by unfold twM; rw [if_pos hpg]
    have o1 := ((h (.temps _) hk).1.at)
    have o2 := ((h (.stack _) hk).1.at)
    rw [← bdAt_at hk] at o1 o2
    rw [hm2]
    exact ⟨g, off, _, _, rfl, cell 0 _ (by omega) (by rw [ht]; rfl), cell 1 _ (by omega) (by rw [ht]; rfl), cell 2 _ (by omega) (by rw [ht]; rfl), cell 3 _ (by omega) (by rw [ht]; rfl), cell 4 _ (by omega) (by rw [ht]; rfl), cell 5 _ (by omega) (by rw [ht]; rfl), cell 6 _ (by omega) (by rw [ht]; rfl), cell 7 _ (by omega) (by rw [ht]; rfl), o1, o2⟩
  · have ht : twOut P q = [.int .i64 P.L.twins[q].page, .int .i64 P.L.twins[q].place, .int .i64 0, .int .i64 0, .slice none 0 0, .slice none 0 0, .int .i64 0, .bool false] := by unfold twOut; rw [hgd, if_neg hpg]
    have hm2 : twM P.L P.L.twins[q] = ⟨P.L.twins[q].page, P.L.twins[q].place, ⟨0, 0, [], [], 0, false⟩⟩ := by unfold twM; rw [if_neg hpg]
    have on : OpsAt w (.slice none 0 0) [] := ⟨none, 0, rfl, Nat.zero_le _, fun _ h => absurd h (Nat.not_lt_zero _)⟩
    rw [hm2]
    exact ⟨g, off, _, _, rfl, cell 0 _ (by omega) (by rw [ht]; rfl), cell 1 _ (by omega) (by rw [ht]; rfl), cell 2 _ (by omega) (by rw [ht]; rfl), cell 3 _ (by omega) (by rw [ht]; rfl), cell 4 _ (by omega) (by rw [ht]; rfl), cell 5 _ (by omega) (by rw [ht]; rfl), cell 6 _ (by omega) (by rw [ht]; rfl), cell 7 _ (by omega) (by rw [ht]; rfl), on, on⟩
def MachOut (P : Lay) (B : Nat) (w' : World) (v1 v3 : Value) : Prop :=
  ∃ (wm : World) (B' : Nat), B ≤ B' ∧ PgOut P B' wm v1 P.L.pages.length ∧ B' ≤ wm.heap.size ∧ wm.heap.size ≤ w'.heap.size ∧ (∀ g, B' ≤ g → g < wm.heap.size → w'.heap[g]? = wm.heap[g]?) ∧ CRow wm.heap.size 8 w' v3 P.L.twins.length ((List.range P.L.twins.length).flatMap (twOut P))
theorem MachOut.kept {P : Lay} {B : Nat} {w' w'' : World} {v1 v3 : Value} (h : MachOut P B w' v1 v3) (hs : w'.heap.size ≤ w''.heap.size) (hb : ∀ g, B ≤ g → g < w'.heap.size → w''.heap[g]? = w'.heap[g]?) : MachOut P B w'' v1 v3 := by
  obtain ⟨wm, B', h1, h2, h3, h4, h5, h6⟩ := h
  exact ⟨wm, B', h1, h2, h3, Nat.le_trans h4 hs, fun g g1 g2 => (hb g (by omega) (by omega)).trans (h5 g g1 g2), h6.kept hs fun g e => hb g (by have := (h6.lt g e).1; omega) (h6.lt g e).2⟩
theorem MachOut.slices {P : Lay} {B : Nat} {w' : World} {v1 v3 : Value} (h : MachOut P B w' v1 v3) : (∃ a c, v1 = .slice a P.L.pages.length c) ∧ ∃ a c, v3 = .slice a P.L.twins.length c := by
  obtain ⟨wm, B', h1, h2, h3, h4, h5, h6⟩ := h
  obtain ⟨a, c, e, _⟩ := h6.slice
  exact ⟨h2.slice.1, a, c, e⟩
theorem MachOut.at {B0 : Nat} {ρ : Nat → Rl} {P : Lay} {B : Nat} {w' : World} {v1 v3 : Value} (h : LvAt B0 ρ w' P) (hwf : P.L.wf) (hn : P.L.pages.length ≤ 1000) (hm : MachOut P B w' v1 v3) {vsd : Value} {said : List (Int × Int)} (hs : OpsAt w' vsd said) (born code : Int) : MachAt w' v1 P.vo v3 vsd (outM P.L born said code) := by
  obtain ⟨wm, B', h1, h2, h3, h4, h5, h6⟩ := hm
  exact ⟨pagesAt_out h hwf (h2.kept h4 h5) hn, (h .order).1.at, twinsAt_out h hwf h6, hs⟩
theorem append_knownM {P : Program} {t ty : TypeId} {ops : Array Oper} {rest : List Oper} {o : Oper} {act : Act} {Q : Exit → Act → World → Prop} {w w' : World} {v xv v' : Value} (hgd : o.guard = none) (s x : Operand)
    (ho : o.op = .call { callee := .builtin .append, args := #[s, x], argTypes := #[t, t] }) (hty : o.type = ty) (hs : act.eval s = v) (hx : act.eval x = xv) (hr : (Builtin.append_ #[t, t] ty #[v, xv]).run P w = .ok v' w')
    (h : wpList P ops Q rest (act.put o.dst v') w') : wpList P ops Q (o :: rest) act w := by
  refine wpList_plain hgd fun K hK => ?_
  unfold Oper.wp execOp
  simp only [ho, resolve, invoke, builtin, Sem.run_bind, Sem.run_pure, Result.andThen_ok, List.map_toArray, List.map_cons, List.map_nil, hs, hx, hty, hr]
  exact hK _ _ h
set_option maxRecDepth 100000 in
set_option maxHeartbeats 4000000 in
theorem mach_own {B : Nat} {ρ : Nat → Rl} {w : World} {P : Lay} (h : LvAt B ρ w P) (hwf : P.L.wf) (hfew : P.L.pages.length ≤ 1000 ∧ ∀ i, (hi : i < P.L.pages.length) → P.L.pages[i].frames.length ≤ 1000) (hft : P.L.twins.length ≤ 800000)
    (born code : Int) (vsd : Value) (said : List (Int × Int)) (hs : OpsAt w vsd said) :
    Calls Tryz.prog 33 #[.pointer (some ⟨P.bl, 0, none⟩), .int .i64 born, vsd, .int .i64 code] w fun e w' => ∃ v1 v3, e = .returned (.agg (mcCells v1 P.vo v3 vsd (outM P.L born said code)).toArray) ∧ MachOut P w.heap.size w' v1 v3 ∧ Below w.heap.size w w' := by
  have HL : Hid (LvAt B ρ w P) := h
  have HWF : Hid P.L.wf := hwf
  have HFW : Hid (P.L.pages.length ≤ 1000 ∧ ∀ i, (hi : i < P.L.pages.length) → P.L.pages[i].frames.length ≤ 1000) := hfew
  have HS : Hid (OpsAt w vsd said) := hs
  have hpn := hfew.1
  obtain ⟨as', cs, hvs⟩ := hs.shape
  have hbx := h.box
  obtain ⟨ap, cp, hvp, _⟩ := (h .pages).1.slice
  obtain ⟨ao, co, hvo, _⟩ := (h .order).1.slice
  have hrow := (h .pages).1
  rw [hvp] at hrow
  rw [hvp, hvo] at hbx
  obtain ⟨vO, hvO⟩ : ∃ vO, P.vo = vO := ⟨_, rfl⟩
  have HVO : Hid (P.vo = vO) := hvO
  obtain ⟨i0, hii, hz0, hz1, hz2⟩ := info_parts Tryz.infoPageO
  have x0 := hbx.cell 0 rfl
  have x2 := hbx.cell 2 rfl
  have x3 := hbx.cell 3 rfl
  have hblw := hbx.lt
  clear h hwf hfew hs
  go_enter Tryz.func33, Tryz.ntmps33
  go_upto_region 1 with fail
  refine wp_gen (fun W => Below w.heap.size w W ∧ Bx W w.heap.size 36 [.int .i64 0, .slice none 0 0, .slice none 0 0, .int .i64 0, .slice none 0 0, .int .i64 0, .slice none 0 0, .int .i64 0]) ⟨(Below.refl _ _).alloc (Nat.le_refl _) _, Bx.new _ _ _⟩ ?_
  rintro W ⟨hbW, z⟩
  have hxW := hbx.below hbW
  have hzW := hbW.size
  clear x0 x2 x3
  have x0 := hxW.cell 0 rfl
  have x2 := hxW.cell 2 rfl
  have x3 := hxW.cell 3 rfl
  have hblW : P.bl < W.heap.size := hxW.lt
  subst hvs
  go_region
  refine ex_gen (fun W' => Below w.heap.size w W' ∧ Bx W' w.heap.size 36 [.int .i64 0, .slice none 0 0, .slice none 0 0, .int .i64 0, .slice none 0 0, .int .i64 0, .slice none 0 0, .int .i64 0] ∧ Bx W' W.heap.size 36 [.int .i64 P.L.cells, .slice none 0 0, .slice ao P.L.order.length co, .int .i64 P.L.now, .slice none 0 0, .int .i64 born, .slice as' said.length cs, .int .i64 code] ∧ W.heap.size < W'.heap.size) ⟨(hbW.alloc hzW _).drew, (z.alloc _).drew, (Bx.new _ _ _).drew, by show W.heap.size < (W.alloc _).heap.size; simp⟩ ?_
  rintro W1 ⟨hb1, hz1', hx1, hl1⟩
  have hgz : w.heap.size < W.heap.size := z.lt
  obtain ⟨g9, hg9⟩ : ∃ g9, W.heap.size = g9 := ⟨_, rfl⟩
  rw [hg9] at hx1 hl1 hgz ⊢
  clear hxW x0 x2 x3 z hbW hzW hblW hg9 hbx
  have hxb1 := HL.out.box.below hb1
  rw [hvp] at hxb1
  have x1 := hxb1.cell 1 rfl
  have hlz := hb1.size
  go_wp2_with fail
  clear x1
  go_loopg [11, 35] P.L.pages.length (fun d _ q wr => ∃ (k : Nat) (vpg : Value), k ≤ P.L.pages.length ∧ d = P.L.pages.length - k ∧ q = .int .i64 (k : Int) ∧ Bx wr w.heap.size 36 [.int .i64 0, .slice none 0 0, .slice none 0 0, .int .i64 0, .slice none 0 0, .int .i64 0, .slice none 0 0, .int .i64 0] ∧ Bx wr g9 36 [.int .i64 P.L.cells, vpg, .slice ao P.L.order.length co, .int .i64 P.L.now, .slice none 0 0, .int .i64 born, .slice as' said.length cs, .int .i64 code] ∧ PgOut P (g9 + 1) wr vpg k ∧ Below w.heap.size w wr ∧ g9 < wr.heap.size)
  case atStart => exact ⟨0, _, Nat.zero_le _, rfl, rfl, hz1', hx1, ⟨fun _ => undef, CRow.nil _ _ _, fun _ hq => absurd hq (Nat.not_lt_zero _)⟩, hb1, hl1⟩
  case round =>
    obtain ⟨k, vpg, hk, rfl, rfl, hzr, hxr, hpr, hbr, hlr⟩ := hrel
    have zr := hbr.size
    clear hz1' hx1 hb1 hl1 hxb1 hlz
    by_cases hlt : k < P.L.pages.length
    · obtain ⟨gp, op, cpx, hform, _, _⟩ := hrow.form (by omega)
      cases hform
      have hkz : (k : Int) < (P.L.pages.length : Int) := by omega
      obtain ⟨q0, q1⟩ := cells2_at (pgPairs P.F P.L.pages) k (by rw [pgPairs_length]; exact hlt)
      rw [pgPairs_at hlt] at q0 q1
      have c0 := cell_below hbr (hrow.cell q0).1
      have c1 := cell_below hbr (hrow.cell q1).1
      rw [← Nat.add_assoc] at c1
      obtain ⟨aF, cF, hvF, _⟩ := (HL.out (.frames k) hlt).1.slice
      dsimp only at c0 c1
      rw [hvF] at c1
      obtain ⟨⟨av, cv, hve⟩, _⟩ := hpr.slice
      subst hve
      obtain ⟨Q, hQ⟩ : ∃ Q, P.L.pages[k] = Q := ⟨_, rfl⟩
      have HLL : Hid (∀ X, Below w.heap.size w X → Calls Tryz.prog 75 #[.agg #[.int .i64 Q.base, .slice aF Q.frames.length cF]] X fun e w' => ∃ v', e = .returned v' ∧ CRow X.heap.size 5 w' v' Q.frames.length ((List.range Q.frames.length).flatMap (frOut P Q.frames)) ∧ Below X.heap.size X w') := fun X hX => by
        have := pageList_any (HL.out.below hX) HWF.out k hlt P.L.pages[k].base (HFW.out.2 k hlt)
        rw [hvF] at this
        rw [← hQ]
        exact this
      rw [hQ] at c0 c1
      go_upto_region 5 with fail
      refine wp_gen (fun W' => Below wr.heap.size wr W' ∧ Bx W' wr.heap.size 127 [.int .i64 Q.base, .slice aF Q.frames.length cF]) ⟨(Below.refl _ _).alloc (Nat.le_refl _) _, Bx.new _ _ _⟩ ?_
      rintro W2 ⟨t2, y2⟩
      have hb2 := hbr.trans (t2.mono zr)
      have z2 := hb2.size
      have v2 := hpr.below t2
      have hx2 := hxr.below t2
      have hzz2 := hzr.below t2
      have zt := t2.size
      have n0 := y2.cell 0 rfl
      have n1 := y2.cell 1 rfl
      have m1 := hx2.cell 1 rfl
      have HC : Hid (∀ X, Below W2.heap.size W2 X → Calls Tryz.prog 75 #[.agg #[.int .i64 Q.base, .slice aF Q.frames.length cF]] X fun e w' => ∃ v', e = .returned v' ∧ CRow X.heap.size 5 w' v' Q.frames.length ((List.range Q.frames.length).flatMap (frOut P Q.frames)) ∧ Below X.heap.size X w') := fun X hX => HLL.out X (hb2.trans (hX.mono z2))
      have hvl := v2.slice.2
      have HAP : Hid (∀ (w10 : World) (u : Value) (H : Nat), PgOut P (g9 + 1) w10 (.slice av k cv) k → CRow W2.heap.size 5 w10 u Q.frames.length ((List.range Q.frames.length).flatMap (frOut P Q.frames)) → u.oneCell' = true → (∀ j x, ([.int .i64 Q.base, u] : List Value)[j]? = some x → w10.cell? ⟨H, j, none⟩ = some x) → g9 + 1 ≤ w10.heap.size →
          ∃ a' c' w', (Builtin.append_ #[31, 31] 31 #[.slice av k cv, .slice (some ⟨H, 0, none⟩) 1 1]).run Tryz.prog w10 = .ok (.slice a' (k + 1) c') w' ∧ PgOut P (g9 + 1) w' (.slice a' (k + 1) c') (k + 1) ∧ w10.grownBy w' (Value.slice av k cv).ownBlock) := fun w10 u H h1 h2 h3 h4 h5 => by
        rw [← hQ] at h2 h4
        exact h1.append hlt h2 (by omega) (fun g e => (hvl g e).2) h3 H h4 h5 (by omega)
      clear c0 c1 q0 q1 hrow hpr hxr hzr t2 HLL hvF hQ y2 hvl hvO
      refine wp_region_fu [[], [0], [], [2], [], [4], [2, 3, 4, 5], [2, 3, 4, 5, 6], [0, 1, 2, 3, 4, 5, 6, 7], [0, 1, 2, 3, 4, 5, 6, 7, 8], [0, 1, 2, 3, 4, 5, 6, 7, 8, 9]] [[0], [1], [2], [3], [4], [5], [5, 6], [5, 7], [], [], []] [[], [], [], [], [], [], [], [], [], [], []] [fIs (.pointer (some ⟨g9, 1, none⟩)), fIs (.slice av k cv), fIs (.pointer (some ⟨wr.heap.size, 0, none⟩)), fIs (.int .i64 Q.base), fIs (.agg #[.int .i64 Q.base, .slice aF Q.frames.length cF]), fGh 5 (fun (x : Value) l => l = [x]) (fun x w1 => (∃ a0 c0, x = .slice a0 Q.frames.length c0) ∧ (CRow W2.heap.size 5 w1 x Q.frames.length ((List.range Q.frames.length).flatMap (frOut P Q.frames)))), fOf fun l => ∃ x : Value, l = [x, .agg #[.int .i64 Q.base, x]], fGh 7 (fun (x : Value × Nat) l => l = [x.1, .slice (some ⟨x.2, 0, none⟩) 1 1]) (fun x w1 => ∀ j u, ([.int .i64 Q.base, x.1] : List Value)[j]? = some u → w1.cell? ⟨x.2, j, none⟩ = some u), fOf fun _ => True, fOf fun _ => True, fOf fun _ => True] 8 2 rfl (by kernel_rfl) (by kernel_rfl) (by kernel_rfl) (by kernel_rfl) ?_ ?_
      · refine all_lt_succ (all_lt_succ (all_lt_succ (all_lt_succ (all_lt_succ (all_lt_succ (all_lt_succ (all_lt_succ (all_lt_zero) ?_) ?_) ?_) ?_) ?_) ?_) ?_) ?_
        · intro a w val own hB hf hown hk
          have s9 := hf.at (d := 9) (v := .pointer (some ⟨g9, 0, none⟩)) (by kernel_rfl) rfl
          exact rf_pure (v := .pointer (some ⟨g9, 1, none⟩)) hB rfl rfl (by unfold execOp; go_simp) rfl
        · intro a w val own hB hf hown hk
          obtain ⟨k0, f0⟩ := hk 0 (show 0 ∈ [0] by decide)
          have s39 := k0 39 rfl
          rw [fIs_out f0] at s39
          clear k0 f0
          have cm1 := cell_below hB m1
          exact rf_pure (v := .slice av k cv) hB rfl rfl (by unfold execOp; go_simp) rfl
        · intro a w val own hB hf hown hk
          have s11 := hf.at (d := 11) (v := .pointer (some ⟨wr.heap.size, 0, none⟩)) (by kernel_rfl) rfl
          exact rf_pure (v := .pointer (some ⟨wr.heap.size, 0, none⟩)) hB rfl rfl (by unfold execOp; go_simp) rfl
        · intro a w val own hB hf hown hk
          obtain ⟨k2, f2⟩ := hk 2 (show 2 ∈ [2] by decide)
          have s41 := k2 41 rfl
          rw [fIs_out f2] at s41
          clear k2 f2
          have cn0 := cell_below hB n0
          exact rf_pure (v := .int .i64 Q.base) hB rfl rfl (by unfold execOp; go_simp) rfl
        · intro a w val own hB hf hown hk
          have s11 := hf.at (d := 11) (v := .pointer (some ⟨wr.heap.size, 0, none⟩)) (by kernel_rfl) rfl
          have cn0 := cell_below hB n0
          have cn1 := cell_below hB n1
          exact rf_pure (v := .agg #[.int .i64 Q.base, .slice aF Q.frames.length cF]) hB rfl rfl (by unfold execOp; go_simp) rfl
        · intro a w val own hB hf hown hk
          obtain ⟨k4, f4⟩ := hk 4 (show 4 ∈ [4] by decide)
          have s43 := k4 43 rfl
          rw [fIs_out f4] at s43
          clear k4 f4
          have hzB := hB.size
          refine rf_call hB rfl rfl (by unfold execOp; go_simp) ((HC.out w hB).mono ?_)
          rintro e w' ⟨v1, rfl, r1, hb'⟩
          refine ⟨_, rfl, hb', v1, rfl, Made.new fun w1 hs hbw hr => ⟨?_, ?_⟩⟩
          · obtain ⟨a0, c0, e0, _⟩ := r1.slice
            exact ⟨a0, c0, e0⟩
          · exact (r1.kept hs fun g e => hr g (r1.lt g e).1 (r1.lt g e).2).mono hzB
        · intro a w val own hB hf hown hk
          obtain ⟨kc, xc, ec, mc⟩ := hk 5 (show 5 ∈ [2, 3, 4, 5] by decide)
          have vc := one_eq ec
          have s44 := kc 44 rfl
          rw [vc] at s44
          obtain ⟨⟨a0, c0, q1⟩, rc⟩ := mc.here hB
          clear kc ec mc
          subst q1
          obtain ⟨k3, f3⟩ := hk 3 (show 3 ∈ [2, 3, 4, 5] by decide)
          have s42 := k3 42 rfl
          rw [fIs_out f3] at s42
          clear k3 f3
          exact rf_pure (v := .agg #[.int .i64 Q.base, .slice a0 Q.frames.length c0]) hB rfl rfl (by unfold execOp; go_simp) ⟨.slice a0 Q.frames.length c0, by show [val 5, _] = _; rw [vc]; rfl⟩
        · intro a w val own hB hf hown hk
          obtain ⟨kc, xc, ec, mc⟩ := hk 5 (show 5 ∈ [2, 3, 4, 5, 6] by decide)
          have vc := one_eq ec
          have s44 := kc 44 rfl
          rw [vc] at s44
          obtain ⟨⟨a0, c0, q1⟩, rc⟩ := mc.here hB
          clear kc ec mc
          obtain ⟨kd, xd, ed⟩ := hk 6 (show 6 ∈ [2, 3, 4, 5, 6] by decide)
          have ed' : [val 5, val 6] = _ := ed
          injection ed' with ed1 ed2
          have vd := one_eq ed2
          rw [vc] at ed1
          subst ed1
          have s45 := kd 45 rfl
          rw [vd] at s45
          clear kd ed ed2 vd
          subst q1
          refine rf_new (v := .slice (some ⟨w.heap.size, 0, none⟩) 1 1) (w' := w.alloc (.cells #[.int .i64 Q.base, .slice a0 Q.frames.length c0] 61)) hB rfl rfl (by unfold execOp; go_simp) ((Below.refl _ _).alloc (Nat.le_refl _) _) ⟨(.slice a0 Q.frames.length c0, w.heap.size), ?_, Made.new fun w1 _ _ hr => ?_⟩
          · show [val 5, _] = _
            rw [vc]
            rfl
          · exact fun j u hu => ((Bx.new w 61 [.int .i64 Q.base, .slice a0 Q.frames.length c0]).kept (hr _ (Nat.le_refl _) (by simp))).cell j hu
      intro aE w10 val own hB hf hown hk
      obtain ⟨kc, xc, ec, mc⟩ := hk 5 (by decide)
      have vc := one_eq ec
      have s44 := kc 44 rfl
      rw [vc] at s44
      obtain ⟨⟨a0, c0, q1⟩, rc⟩ := mc.here hB
      clear kc ec mc
      obtain ⟨kb, xb, eb, mb⟩ := hk 7 (by decide)
      have eb' : [val 5, val 7] = _ := eb
      injection eb' with eba ebb
      have vb := one_eq ebb
      have s46 := kb 46 rfl
      rw [vb] at s46
      obtain ⟨ya, H⟩ := xb
      have hxx : xc = ya := by rw [vc] at eba; exact eba
      subst hxx
      have mh := mb.here hB
      dsimp only at mh
      subst q1
      obtain ⟨kq, fq⟩ := hk 1 (by decide)
      have s40 := kq 40 rfl
      rw [fIs_out fq] at s40
      clear kq fq
      have hB0 : Below W2.heap.size W2 w10 := hB
      have hz0' := hB0.size
      obtain ⟨a9, c9, W3, hrun, hP3, hg3⟩ := HAP.out w10 (.slice a0 Q.frames.length c0) H (v2.below hB0) rc rfl mh (by omega)
      have hown2 := fun q (e : (Value.slice av k cv).ownBlock = some q) => (v2.slice.2 q e).1
      have hb3 : Below w.heap.size w W3 := (hb2.trans (hB0.mono z2)).grown hg3 (by omega) fun q e => by have := hown2 q e; omega
      have hx3 := (hx2.below hB0).grown hg3 (fun e => by have := hown2 _ e; omega)
      have hz3 := (hzz2.below hB0).grown hg3 (fun e => by have := hown2 _ e; omega)
      have g1 := hx3.cell 1 rfl
      have gf1 := hx3.frozen 1
      have HE : Hid (Bx (W3.setCell ⟨g9, 1, none⟩ (.slice a9 (k + 1) c9)) w.heap.size 36 [.int .i64 0, .slice none 0 0, .slice none 0 0, .int .i64 0, .slice none 0 0, .int .i64 0, .slice none 0 0, .int .i64 0] ∧ Bx (W3.setCell ⟨g9, 1, none⟩ (.slice a9 (k + 1) c9)) g9 36 [.int .i64 P.L.cells, .slice a9 (k + 1) c9, .slice ao P.L.order.length co, .int .i64 P.L.now, .slice none 0 0, .int .i64 born, .slice as' said.length cs, .int .i64 code] ∧ PgOut P (g9 + 1) (W3.setCell ⟨g9, 1, none⟩ (.slice a9 (k + 1) c9)) (.slice a9 (k + 1) c9) (k + 1) ∧ Below w.heap.size w (W3.setCell ⟨g9, 1, none⟩ (.slice a9 (k + 1) c9)) ∧ g9 < (W3.setCell ⟨g9, 1, none⟩ (.slice a9 (k + 1) c9)).heap.size) :=
        ⟨hz3.other (by omega) _, hx3.set 1 _, hP3.kept (by rw [World.size_setCell]; exact Nat.le_refl _) fun g h1 _ => Below.heap_setCell _ _ _ _ (by show g ≠ g9; omega), hb3.setCell (p := ⟨g9, 1, none⟩) (by show w.heap.size ≤ g9; omega) _, by rw [World.size_setCell]; have := hg3.size; omega⟩
      clear hP3 hb3 hx3 hz3 hown2 hg3 hB0 rc
      clear kb eb ebb vb mb mh vc eba
      have hu := frame_sets hf [39, 40, 41, 42, 43, 44, 45, 46] (by kernel_rfl)
      dsimp only at hu
      simp only [List.foldl_cons, List.foldl_nil, List.setIfInBounds_toArray, List.set_cons_succ, List.set_cons_zero] at hu
      rw [s40, s46] at hu
      generalize aE.tmps[39]?.getD undef = u39 at hu
      generalize aE.tmps[41]?.getD undef = u41 at hu
      generalize aE.tmps[42]?.getD undef = u42 at hu
      generalize aE.tmps[43]?.getD undef = u43 at hu
      generalize aE.tmps[44]?.getD undef = u44 at hu
      generalize aE.tmps[45]?.getD undef = u45 at hu
      obtain rfl := act_eq hu (show aE.defers = [] from hf.defers)
      clear hu hk hown hf s40 s46 s44
      refine wpOp_val (v := .slice a9 (k + 1) c9) (w' := W3) rfl rfl (append_runD rfl (by go_simp) (by go_simp) hrun) ?_
      simp only [Act.put]
      refine wpOp_val (v := .pointer (some ⟨g9, 1, none⟩)) (w' := W3) rfl rfl (by unfold execOp; go_simp) ?_
      simp only [Act.put]
      refine wpOp_skip (w' := W3.setCell ⟨g9, 1, none⟩ (.slice a9 (k + 1) c9)) rfl rfl (by unfold execOp; go_simp) ?_
      simp only [Act.put]
      clear hrun hB g1 gf1
      refine ex_gen (fun W9 => Bx W9 w.heap.size 36 [.int .i64 0, .slice none 0 0, .slice none 0 0, .int .i64 0, .slice none 0 0, .int .i64 0, .slice none 0 0, .int .i64 0] ∧ Bx W9 g9 36 [.int .i64 P.L.cells, .slice a9 (k + 1) c9, .slice ao P.L.order.length co, .int .i64 P.L.now, .slice none 0 0, .int .i64 born, .slice as' said.length cs, .int .i64 code] ∧ PgOut P (g9 + 1) W9 (.slice a9 (k + 1) c9) (k + 1) ∧ Below w.heap.size w W9 ∧ g9 < W9.heap.size) HE.out ?_
      rintro W9 ⟨k1, k2, k3, k4, k5⟩
      clear HE
      go_wp2
      go_roundg (P.L.pages.length - (k + 1))
      case measure => omega
      case rel => exact ⟨k + 1, _, by omega, rfl, by go_num, k1, k2, k3, k4, k5⟩
    · obtain rfl : k = P.L.pages.length := by omega
      obtain ⟨⟨av, cv, hve⟩, hvl⟩ := hpr.slice
      subst hve
      have hbl9 := HL.out.box.below hbr
      rw [hvp, hvo] at hbl9
      have x4 := hbl9.cell 4 rfl
      have hTM := (HL.out .twins).1.below hbr
      have hlen := TMap.len (P := Tryz.prog) (t := 120) (by kernel_rfl) hTM 3
      rw [List.length_map] at hlen
      clear hrow
      go_wp2_with fail
      obtain ⟨wo, hwo⟩ : ∃ wo, wo = wr := ⟨_, rfl⟩
      subst hwo
      go_loopg [12, 13, 55] P.L.twins.length (fun d _ _ q wt => ∃ (k : Nat) (vtw : Value), k ≤ P.L.twins.length ∧ d = P.L.twins.length - k ∧ q = .int .i64 (k : Int) ∧ Bx wt w.heap.size 36 [.int .i64 0, .slice none 0 0, .slice none 0 0, .int .i64 0, .slice none 0 0, .int .i64 0, .slice none 0 0, .int .i64 0] ∧ Bx wt g9 36 [.int .i64 P.L.cells, .slice av P.L.pages.length cv, .slice ao P.L.order.length co, .int .i64 P.L.now, vtw, .int .i64 born, .slice as' said.length cs, .int .i64 code] ∧ CRow wo.heap.size 8 wt vtw k ((List.range k).flatMap (twOut P)) ∧ Below w.heap.size w wt ∧ wo.heap.size ≤ wt.heap.size ∧ ∀ g, g9 + 1 ≤ g → g < wo.heap.size → wt.heap[g]? = wo.heap[g]?)
      case atStart => exact ⟨0, _, Nat.zero_le _, rfl, rfl, hzr, hxr, CRow.nil _ _ _, hbr, Nat.le_refl _, fun _ _ _ => rfl⟩
      case round =>
        obtain ⟨k, vtw, hk, rfl, rfl, hz2, hx2', ht2, hb2', hle, hkp⟩ := hrel
        obtain ⟨at2, ct2, hvt, _⟩ := ht2.slice
        subst hvt
        have z2' := hb2'.size
        have hzo := hbr.size
        have hxb := HL.out.box.below hb2'
        rw [hvp, hvo] at hxb
        clear x4 hbl9 hTM hlen
        have x4 := hxb.cell 4 rfl
        by_cases hlt : k < P.L.twins.length
        · have hkz : (k : Int) < (P.L.twins.length : Int) := by omega
          have hTM2 := (HL.out .twins).1.below hb2'
          have hlk := TMap.look (P := Tryz.prog) (t := 120) (kt := 3) (et := 131) (by kernel_rfl) (by kernel_rfl) hTM2 (k := k) (by simpa using hlt)
          have hval : (P.L.twins.map (twVal P.D))[k]'(by simpa using hlt) = twVal P.D P.L.twins[k] := by simp
          rw [hval] at hlk
          unfold twVal at hlk
          have hbk := HWF.out.tw k hlt
          obtain ⟨a1, k1, a2, k2, hT⟩ := HL.out.lists hbk
          have hbody := (HL.out (.body P.L.twins[k].body) hbk).1
          have hgd : P.L.twins.getD k ⟨-1, 0, 0, 0⟩ = P.L.twins[k] := by simp [hlt]
          have hto0 : twOut P k = if P.L.twins[k].page = -1 then [.int .i64 (-1), .int .i64 0, .int .i64 P.L.bodies[P.L.twins[k].body].m, .int .i64 P.L.bodies[P.L.twins[k].body].pc, (P.T P.L.twins[k].body).1, (P.T P.L.twins[k].body).2, .int .i64 P.L.twins[k].sender, .bool P.L.bodies[P.L.twins[k].body].dead] else [.int .i64 P.L.twins[k].page, .int .i64 P.L.twins[k].place, .int .i64 0, .int .i64 0, .slice none 0 0, .slice none 0 0, .int .i64 0, .bool false] := by unfold twOut; rw [hgd, bdAt_at hbk]
          obtain ⟨b, hb⟩ : ∃ b, P.L.bodies[P.L.twins[k].body] = b := ⟨_, rfl⟩
          rw [hb] at hT hbody hto0
          obtain ⟨T, hTe⟩ : ∃ T, P.L.twins[k] = T := ⟨_, rfl⟩
          rw [hTe] at hlk hT hbody hto0
          rw [hT] at hbody hto0
          clear hTM2 hval hgd hb hTe hbk hT
          go_upto_region 11 with fail
          refine wp_gen (fun W' => Below wr.heap.size wr W' ∧ Bx W' wr.heap.size 131 [.int .i64 T.page, .int .i64 T.place, .pointer (some ⟨P.D T.body, 0, none⟩), .int .i64 T.sender]) ⟨(Below.refl _ _).alloc (Nat.le_refl _) _, Bx.new _ _ _⟩ ?_
          rintro W2 ⟨t2, y2⟩
          have hb2 := hb2'.trans (t2.mono z2')
          have z2 := hb2.size
          have zt := t2.size
          have t2' := ht2.below t2
          have hx2 := hx2'.below t2
          have hzz2 := hz2.below t2
          have hkp2 : ∀ g, g9 + 1 ≤ g → g < wo.heap.size → W2.heap[g]? = wo.heap[g]? := fun g h1 h2 => (t2.block g (by omega)).trans (hkp g h1 h2)
          have n0 := y2.cell 0 rfl
          have n1 := y2.cell 1 rfl
          have n2 := y2.cell 2 rfl
          have n3 := y2.cell 3 rfl
          have m4 := hx2.cell 4 rfl
          have hwz : w.heap.size < g9 := by omega
          clear hlk x4 hxb ht2 hx2' hz2 t2 y2 hkp
          by_cases hpg : T.page = -1
          · rw [if_pos hpg] at hto0
            have hto := hto0
            clear hto0
            have HCB : Hid (∀ X, Below W2.heap.size W2 X → Calls Tryz.prog 76 #[.pointer (some ⟨P.D T.body, 0, none⟩), .int .i64 T.sender] X fun e w' => e = .returned (.agg #[.int .i64 b.m, .int .i64 b.pc, .slice a1 b.temps.length k1, .slice a2 b.stack.length k2, .int .i64 T.sender, .bool b.dead]) ∧ Below X.heap.size X w') := fun X hX => bodyCall_mach T.sender X ((hbody.below hb2).below hX)
            rw [hpg] at n0
            clear hbody
            go_wp2_with fail
            refine wp_region_fu [[], [0], [], [2], [], [4], [2, 3, 4, 5], [2, 3, 4, 5, 6], [2, 3, 4, 5, 6, 7], [0, 1, 2, 3, 4, 5, 6, 7, 8], [0, 1, 2, 3, 4, 5, 6, 7, 8, 9], [0, 1, 2, 3, 4, 5, 6, 7, 8, 9, 10]] [[0], [1], [2], [3], [4], [5], [6], [7], [8], [], [], []] [[], [], [], [], [], [], [], [], [], [], [], []] [fIs (.pointer (some ⟨g9, 4, none⟩)), fIs (.slice at2 k ct2), fIs (.pointer (some ⟨wr.heap.size, 2, none⟩)), fIs (.pointer (some ⟨P.D T.body, 0, none⟩)), fIs (.pointer (some ⟨wr.heap.size, 3, none⟩)), fIs (.int .i64 T.sender), fIs (.agg #[.int .i64 b.m, .int .i64 b.pc, .slice a1 b.temps.length k1, .slice a2 b.stack.length k2, .int .i64 T.sender, .bool b.dead]), fIs (.agg #[.int .i64 (-1), .int .i64 0, .int .i64 b.m, .int .i64 b.pc, .slice a1 b.temps.length k1, .slice a2 b.stack.length k2, .int .i64 T.sender, .bool b.dead]), fGh 8 (fun (x : Nat) l => l = [.slice (some ⟨x, 0, none⟩) 1 1]) (fun x w1 => ∀ j u, ([.int .i64 (-1), .int .i64 0, .int .i64 b.m, .int .i64 b.pc, .slice a1 b.temps.length k1, .slice a2 b.stack.length k2, .int .i64 T.sender, .bool b.dead] : List Value)[j]? = some u → w1.cell? ⟨x, j, none⟩ = some u), fOf fun _ => True, fOf fun _ => True, fOf fun _ => True] 9 2 rfl (by kernel_rfl) (by kernel_rfl) (by kernel_rfl) (by kernel_rfl) ?_ ?_
            · refine all_lt_succ (all_lt_succ (all_lt_succ (all_lt_succ (all_lt_succ (all_lt_succ (all_lt_succ (all_lt_succ (all_lt_succ (all_lt_zero) ?_) ?_) ?_) ?_) ?_) ?_) ?_) ?_) ?_
              · intro a w val own hB hf hown hk
                have s9 := hf.at (d := 9) (v := .pointer (some ⟨g9, 0, none⟩)) (by kernel_rfl) rfl
                exact rf_pure (v := .pointer (some ⟨g9, 4, none⟩)) hB rfl rfl (by unfold execOp; go_simp) rfl
              · intro a w val own hB hf hown hk
                obtain ⟨k0, f0⟩ := hk 0 (show 0 ∈ [0] by decide)
                have s67 := k0 67 rfl
                rw [fIs_out f0] at s67
                clear k0 f0
                have cm4 := cell_below hB m4
                exact rf_pure (v := .slice at2 k ct2) hB rfl rfl (by unfold execOp; go_simp) rfl
              · intro a w val own hB hf hown hk
                have s13 := hf.at (d := 13) (v := .pointer (some ⟨wr.heap.size, 0, none⟩)) (by kernel_rfl) rfl
                exact rf_pure (v := .pointer (some ⟨wr.heap.size, 2, none⟩)) hB rfl rfl (by unfold execOp; go_simp) rfl
              · intro a w val own hB hf hown hk
                obtain ⟨k2, f2⟩ := hk 2 (show 2 ∈ [2] by decide)
                have s69 := k2 69 rfl
                rw [fIs_out f2] at s69
                clear k2 f2
                have cn2 := cell_below hB n2
                exact rf_pure (v := .pointer (some ⟨P.D T.body, 0, none⟩)) hB rfl rfl (by unfold execOp; go_simp) rfl
              · intro a w val own hB hf hown hk
                have s13 := hf.at (d := 13) (v := .pointer (some ⟨wr.heap.size, 0, none⟩)) (by kernel_rfl) rfl
                exact rf_pure (v := .pointer (some ⟨wr.heap.size, 3, none⟩)) hB rfl rfl (by unfold execOp; go_simp) rfl
              · intro a w val own hB hf hown hk
                obtain ⟨k4, f4⟩ := hk 4 (show 4 ∈ [4] by decide)
                have s71 := k4 71 rfl
                rw [fIs_out f4] at s71
                clear k4 f4
                have cn3 := cell_below hB n3
                exact rf_pure (v := .int .i64 T.sender) hB rfl rfl (by unfold execOp; go_simp) rfl
              · intro a w val own hB hf hown hk
                obtain ⟨k3, f3⟩ := hk 3 (show 3 ∈ [2, 3, 4, 5] by decide)
                have s70 := k3 70 rfl
                rw [fIs_out f3] at s70
                clear k3 f3
                obtain ⟨k5, f5⟩ := hk 5 (show 5 ∈ [2, 3, 4, 5] by decide)
                have s72 := k5 72 rfl
                rw [fIs_out f5] at s72
                clear k5 f5
                exact rf_call hB rfl rfl (by unfold execOp; go_simp) ((HCB.out w hB).mono fun e w' ⟨he, hb⟩ => ⟨_, he, hb, rfl⟩)
              · intro a w val own hB hf hown hk
                obtain ⟨k6, f6⟩ := hk 6 (show 6 ∈ [2, 3, 4, 5, 6] by decide)
                have s73 := k6 73 rfl
                rw [fIs_out f6] at s73
                clear k6 f6
                exact rf_pure (v := .agg #[.int .i64 (-1), .int .i64 0, .int .i64 b.m, .int .i64 b.pc, .slice a1 b.temps.length k1, .slice a2 b.stack.length k2, .int .i64 T.sender, .bool b.dead]) hB rfl rfl (by unfold execOp; go_simp) rfl
              · intro a w val own hB hf hown hk
                obtain ⟨k7, f7⟩ := hk 7 (show 7 ∈ [2, 3, 4, 5, 6, 7] by decide)
                have s74 := k7 74 rfl
                rw [fIs_out f7] at s74
                clear k7 f7
                refine rf_new (v := .slice (some ⟨w.heap.size, 0, none⟩) 1 1) (w' := w.alloc (.cells #[.int .i64 (-1), .int .i64 0, .int .i64 b.m, .int .i64 b.pc, .slice a1 b.temps.length k1, .slice a2 b.stack.length k2, .int .i64 T.sender, .bool b.dead] 66)) hB rfl rfl (by unfold execOp; go_simp) ((Below.refl _ _).alloc (Nat.le_refl _) _) ⟨w.heap.size, rfl, Made.new fun w1 _ _ hr => ?_⟩
                exact fun j u hu => ((Bx.new w 66 [.int .i64 (-1), .int .i64 0, .int .i64 b.m, .int .i64 b.pc, .slice a1 b.temps.length k1, .slice a2 b.stack.length k2, .int .i64 T.sender, .bool b.dead]).kept (hr _ (Nat.le_refl _) (by simp))).cell j hu
            intro aE w10 val own hB hf hown hk
            obtain ⟨kb, H, eb, mb⟩ := hk 8 (by decide)
            have vb := one_eq eb
            have s75 := kb 75 rfl
            rw [vb] at s75
            have mh := mb.here hB
            obtain ⟨kq, fq⟩ := hk 1 (by decide)
            have s68 := kq 68 rfl
            rw [fIs_out fq] at s68
            clear kq fq
            have hB0 : Below W2.heap.size W2 w10 := hB
            have hz0' := hB0.size
            have mh2 : ∀ j x, (twOut P k)[j]? = some x → w10.cell? ⟨H, j, none⟩ = some x := by rw [hto]; exact mh
            obtain ⟨a9, c9, W3, hrun, hrow3, hg3⟩ := twOut_append (P := P) (w := w10) (t2'.below hB0) (by rw [hto]; intro u hu; simp at hu; rcases hu with rfl | rfl | rfl | rfl | rfl | rfl | rfl | rfl <;> rfl) H mh2 (by omega) (by omega)
            have hown2 := fun q (e : (Value.slice at2 k ct2).ownBlock = some q) => (t2'.lt q e)
            have hb3 : Below w.heap.size w W3 := (hb2.trans (hB0.mono z2)).grown hg3 (by omega) fun q e => by have := hown2 q e; omega
            have hx3 := (hx2.below hB0).grown hg3 (fun e => by have := hown2 _ e; omega)
            have hz3 := (hzz2.below hB0).grown hg3 (fun e => by have := hown2 _ e; omega)
            have g1 := hx3.cell 4 rfl
            have gf1 := hx3.frozen 4
            have HE : Hid (Bx (W3.setCell ⟨g9, 4, none⟩ (.slice a9 (k + 1) c9)) w.heap.size 36 [.int .i64 0, .slice none 0 0, .slice none 0 0, .int .i64 0, .slice none 0 0, .int .i64 0, .slice none 0 0, .int .i64 0] ∧ Bx (W3.setCell ⟨g9, 4, none⟩ (.slice a9 (k + 1) c9)) g9 36 [.int .i64 P.L.cells, .slice av P.L.pages.length cv, .slice ao P.L.order.length co, .int .i64 P.L.now, .slice a9 (k + 1) c9, .int .i64 born, .slice as' said.length cs, .int .i64 code] ∧ CRow wo.heap.size 8 (W3.setCell ⟨g9, 4, none⟩ (.slice a9 (k + 1) c9)) (.slice a9 (k + 1) c9) (k + 1) ((List.range (k + 1)).flatMap (twOut P)) ∧ Below w.heap.size w (W3.setCell ⟨g9, 4, none⟩ (.slice a9 (k + 1) c9)) ∧ wo.heap.size ≤ (W3.setCell ⟨g9, 4, none⟩ (.slice a9 (k + 1) c9)).heap.size ∧ ∀ g, g9 + 1 ≤ g → g < wo.heap.size → (W3.setCell ⟨g9, 4, none⟩ (.slice a9 (k + 1) c9)).heap[g]? = wo.heap[g]?) :=
              ⟨hz3.other (by omega) _, hx3.set 4 _, hrow3.kept (by rw [World.size_setCell]; exact Nat.le_refl _) fun g e => Below.heap_setCell _ _ _ _ (by have := (hrow3.lt g e).1; show g ≠ g9; omega), hb3.setCell (p := ⟨g9, 4, none⟩) (by show w.heap.size ≤ g9; omega) _, by rw [World.size_setCell]; have := hg3.size; omega,
               fun g h1 h2 => by rw [Below.heap_setCell _ _ _ _ (by show g ≠ g9; omega), hg3.block g (by omega) (fun e => by have := hown2 g e.symm; omega), hB0.block g (by omega)]; exact hkp2 g h1 h2⟩
            clear hrow3 hb3 hx3 hz3 hown2 hg3 mh2
            clear hB0
            clear kb eb vb mb mh
            have hu := frame_sets hf [67, 68, 69, 70, 71, 72, 73, 74, 75] (by kernel_rfl)
            dsimp only at hu
            simp only [List.foldl_cons, List.foldl_nil, List.setIfInBounds_toArray, List.set_cons_succ, List.set_cons_zero] at hu
            rw [s68, s75] at hu
            generalize aE.tmps[67]?.getD undef = u67 at hu
            generalize aE.tmps[69]?.getD undef = u69 at hu
            generalize aE.tmps[70]?.getD undef = u70 at hu
            generalize aE.tmps[71]?.getD undef = u71 at hu
            generalize aE.tmps[72]?.getD undef = u72 at hu
            generalize aE.tmps[73]?.getD undef = u73 at hu
            generalize aE.tmps[74]?.getD undef = u74 at hu
            obtain rfl := act_eq hu (show aE.defers = [] from hf.defers)
            clear hu hk hown hf s68 s75
            refine wpOp_val (v := .slice a9 (k + 1) c9) (w' := W3) rfl rfl (append_runD rfl (by go_simp) (by go_simp) hrun) ?_
            simp only [Act.put]
            refine wpOp_val (v := .pointer (some ⟨g9, 4, none⟩)) (w' := W3) rfl rfl (by unfold execOp; go_simp) ?_
            simp only [Act.put]
            refine wpOp_skip (w' := W3.setCell ⟨g9, 4, none⟩ (.slice a9 (k + 1) c9)) rfl rfl (by unfold execOp; go_simp) ?_
            simp only [Act.put]
            clear hrun hB g1 gf1
            refine ex_gen (fun W9 => Bx W9 w.heap.size 36 [.int .i64 0, .slice none 0 0, .slice none 0 0, .int .i64 0, .slice none 0 0, .int .i64 0, .slice none 0 0, .int .i64 0] ∧ Bx W9 g9 36 [.int .i64 P.L.cells, .slice av P.L.pages.length cv, .slice ao P.L.order.length co, .int .i64 P.L.now, .slice a9 (k + 1) c9, .int .i64 born, .slice as' said.length cs, .int .i64 code] ∧ CRow wo.heap.size 8 W9 (.slice a9 (k + 1) c9) (k + 1) ((List.range (k + 1)).flatMap (twOut P)) ∧ Below w.heap.size w W9 ∧ wo.heap.size ≤ W9.heap.size ∧ ∀ g, g9 + 1 ≤ g → g < wo.heap.size → W9.heap[g]? = wo.heap[g]?) HE.out ?_
            rintro W9 ⟨k1, k2, k3, k4, k5, k6⟩
            clear HE
            go_wp2
            go_roundg (P.L.twins.length - (k + 1))
            case measure => omega
            case rel => exact ⟨k + 1, _, by omega, rfl, by go_num, k1, k2, k3, k4, k5, k6⟩
          · rw [if_neg hpg] at hto0
            have hto := hto0
            have hpb : (T.page == -1) = false := by simpa using hpg
            clear hto0 hbody
            obtain ⟨H, hH⟩ : ∃ H, W2.heap.size = H := ⟨_, rfl⟩
            obtain ⟨WA, hWA⟩ : ∃ WA, W2.alloc (.cells #[.int .i64 T.page, .int .i64 T.place, .int .i64 0, .int .i64 0, .slice none 0 0, .slice none 0 0, .int .i64 0, .bool false] 66) = WA := ⟨_, rfl⟩
            have hB0 : Below W2.heap.size W2 WA := by rw [← hWA]; exact (Below.refl _ _).alloc (Nat.le_refl _) _
            have hz0' := hB0.size
            have mh : ∀ j x, ([.int .i64 T.page, .int .i64 T.place, .int .i64 0, .int .i64 0, .slice none 0 0, .slice none 0 0, .int .i64 0, .bool false] : List Value)[j]? = some x → WA.cell? ⟨H, j, none⟩ = some x := by
              rw [← hWA, ← hH]
              exact fun j u hu => (Bx.new W2 66 _).cell j hu
            have mh2 : ∀ j x, (twOut P k)[j]? = some x → WA.cell? ⟨H, j, none⟩ = some x := by rw [hto]; exact mh
            obtain ⟨a9, c9, W3, hrun, hrow3, hg3⟩ := twOut_append (P := P) (w := WA) (t2'.below hB0) (by rw [hto]; intro u hu; simp at hu; rcases hu with rfl | rfl | rfl | rfl | rfl | rfl <;> rfl) H mh2 (by omega) (by omega)
            have hown2 := fun q (e : (Value.slice at2 k ct2).ownBlock = some q) => (t2'.lt q e)
            have hb3 : Below w.heap.size w W3 := (hb2.trans (hB0.mono z2)).grown hg3 (by omega) fun q e => by have := hown2 q e; omega
            have hx3 := (hx2.below hB0).grown hg3 (fun e => by have := hown2 _ e; omega)
            have hz3 := (hzz2.below hB0).grown hg3 (fun e => by have := hown2 _ e; omega)
            have g1 := hx3.cell 4 rfl
            have gf1 := hx3.frozen 4
            have HE : Hid (Bx (W3.setCell ⟨g9, 4, none⟩ (.slice a9 (k + 1) c9)) w.heap.size 36 [.int .i64 0, .slice none 0 0, .slice none 0 0, .int .i64 0, .slice none 0 0, .int .i64 0, .slice none 0 0, .int .i64 0] ∧ Bx (W3.setCell ⟨g9, 4, none⟩ (.slice a9 (k + 1) c9)) g9 36 [.int .i64 P.L.cells, .slice av P.L.pages.length cv, .slice ao P.L.order.length co, .int .i64 P.L.now, .slice a9 (k + 1) c9, .int .i64 born, .slice as' said.length cs, .int .i64 code] ∧ CRow wo.heap.size 8 (W3.setCell ⟨g9, 4, none⟩ (.slice a9 (k + 1) c9)) (.slice a9 (k + 1) c9) (k + 1) ((List.range (k + 1)).flatMap (twOut P)) ∧ Below w.heap.size w (W3.setCell ⟨g9, 4, none⟩ (.slice a9 (k + 1) c9)) ∧ wo.heap.size ≤ (W3.setCell ⟨g9, 4, none⟩ (.slice a9 (k + 1) c9)).heap.size ∧ ∀ g, g9 + 1 ≤ g → g < wo.heap.size → (W3.setCell ⟨g9, 4, none⟩ (.slice a9 (k + 1) c9)).heap[g]? = wo.heap[g]?) :=
              ⟨hz3.other (by omega) _, hx3.set 4 _, hrow3.kept (by rw [World.size_setCell]; exact Nat.le_refl _) fun g e => Below.heap_setCell _ _ _ _ (by have := (hrow3.lt g e).1; show g ≠ g9; omega), hb3.setCell (p := ⟨g9, 4, none⟩) (by show w.heap.size ≤ g9; omega) _, by rw [World.size_setCell]; have := hg3.size; omega,
               fun g h1 h2 => by rw [Below.heap_setCell _ _ _ _ (by show g ≠ g9; omega), hg3.block g (by omega) (fun e => by have := hown2 g e.symm; omega), hB0.block g (by omega)]; exact hkp2 g h1 h2⟩
            clear hrow3 hb3 hx3 hz3 hown2 hg3 mh2
            rw [← hWA] at hrun
            subst hH
            clear hWA hB0 mh hz0'
            go_upto_region 14 with (at_builtin; refine append_knownM (by rfl) _ _ (by rfl) (by rfl) (by rfl) (by rfl) hrun ?_)
            refine wp_gen (fun W9 => Bx W9 w.heap.size 36 [.int .i64 0, .slice none 0 0, .slice none 0 0, .int .i64 0, .slice none 0 0, .int .i64 0, .slice none 0 0, .int .i64 0] ∧ Bx W9 g9 36 [.int .i64 P.L.cells, .slice av P.L.pages.length cv, .slice ao P.L.order.length co, .int .i64 P.L.now, .slice a9 (k + 1) c9, .int .i64 born, .slice as' said.length cs, .int .i64 code] ∧ CRow wo.heap.size 8 W9 (.slice a9 (k + 1) c9) (k + 1) ((List.range (k + 1)).flatMap (twOut P)) ∧ Below w.heap.size w W9 ∧ wo.heap.size ≤ W9.heap.size ∧ ∀ g, g9 + 1 ≤ g → g < wo.heap.size → W9.heap[g]? = wo.heap[g]?) HE.out ?_
            rintro W9 ⟨k1, k2, k3, k4, k5, k6⟩
            clear HE hrun
            go_wp2
            go_roundg (P.L.twins.length - (k + 1))
            case measure => omega
            case rel => exact ⟨k + 1, _, by omega, rfl, by go_num, k1, k2, k3, k4, k5, k6⟩
        · obtain rfl : k = P.L.twins.length := by omega
          obtain ⟨⟨s0, s1, s2, s3, s4, s5, s6, s7⟩, _⟩ := bx8 hx2'
          obtain ⟨⟨r0, r1, r2, r3, r4, r5, r6, r7⟩, f0, f1, f2, f3, f4, f5, f6, f7⟩ := bx8 hz2
          have hwz : w.heap.size < g9 := by omega
          clear x4 hxb
          go_wp2
          refine bp_gen (fun W' => Below w.heap.size w W' ∧ Bx W' w.heap.size 36 [.int .i64 P.L.cells, .slice av P.L.pages.length cv, .slice ao P.L.order.length co, .int .i64 P.L.now, .slice at2 P.L.twins.length ct2, .int .i64 born, .slice as' said.length cs, .int .i64 code] ∧ wr.heap.size ≤ W'.heap.size ∧ ∀ g, g ≠ w.heap.size → W'.heap[g]? = wr.heap[g]?) ⟨((((((((hb2'.setCell (p := ⟨w.heap.size, 0, none⟩) (Nat.le_refl _) _).setCell (p := ⟨w.heap.size, 1, none⟩) (Nat.le_refl _) _).setCell (p := ⟨w.heap.size, 2, none⟩) (Nat.le_refl _) _).setCell (p := ⟨w.heap.size, 3, none⟩) (Nat.le_refl _) _).setCell (p := ⟨w.heap.size, 4, none⟩) (Nat.le_refl _) _).setCell (p := ⟨w.heap.size, 5, none⟩) (Nat.le_refl _) _).setCell (p := ⟨w.heap.size, 6, none⟩) (Nat.le_refl _) _).setCell (p := ⟨w.heap.size, 7, none⟩) (Nat.le_refl _) _), ((((((((hz2.set 0 _).set 1 _).set 2 _).set 3 _).set 4 _).set 5 _).set 6 _).set 7 _), (by simp only [World.size_setCell]; exact Nat.le_refl _), fun g hg => by rw [Below.heap_setCell _ _ _ _ hg, Below.heap_setCell _ _ _ _ hg, Below.heap_setCell _ _ _ _ hg, Below.heap_setCell _ _ _ _ hg, Below.heap_setCell _ _ _ _ hg, Below.heap_setCell _ _ _ _ hg, Below.heap_setCell _ _ _ _ hg, Below.heap_setCell _ _ _ _ hg]⟩ ?_
          rintro W9 ⟨k1, k2, k3, k4⟩
          obtain ⟨⟨q0, q1, q2, q3, q4, q5, q6, q7⟩, _⟩ := bx8 k2
          have hMO : MachOut P w.heap.size W9 (.slice av P.L.pages.length cv) (.slice at2 P.L.twins.length ct2) := ⟨wo, g9 + 1, by omega, hpr, by omega, Nat.le_trans hle k3, fun g h1 h2 => (k4 g (by omega)).trans (hkp g h1 h2), ht2.kept k3 fun g e => k4 g (by have := (ht2.lt g e).1; omega)⟩
          exact bodyPost_ret (v := .agg #[.int .i64 P.L.cells, .slice av P.L.pages.length cv, .slice ao P.L.order.length co, .int .i64 P.L.now, .slice at2 P.L.twins.length ct2, .int .i64 born, .slice as' said.length cs, .int .i64 code]) (by simp [results, Tryz.results33, go_sem, q0, q1, q2, q3, q4, q5, q6, q7]) rfl ⟨.slice av P.L.pages.length cv, .slice at2 P.L.twins.length ct2, by rw [hvo]; rfl, hMO, k1⟩
end Go.Proofs.YtmifhlkcceafkaaGreat
