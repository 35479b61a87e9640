/-
  MoveIn of the program: a heap's calls are things of their own, the one that runs is put on the first page.
-/
import Derived.Test.YtmifhlkcceafkaaGreatMIn1
import Derived.Test.YtmifhlkcceafkaaGreatMOut2
import Derived.Test.YtmifhlkcceafkaaGreatMNew
import Derived.Test.YtmifhlkcceafkaaGreatTrimPlain
import Derived.Test.YtmifhlkcceafkaaGreatHImpl4

namespace Go.Proofs.YtmifhlkcceafkaaGreat
open Go.RowKit
/-! ### in plain words -/
def twC (c : Cl) : Tw := ⟨-1, 0, c⟩
def twGone : Tw := ⟨0, 0, ⟨0, 0, [], [], 0, false⟩⟩
def pgE : Pg := ⟨-1, []⟩
def mvM (h : Hp) (n : Nat) (c : Int) : Mc := ⟨c, List.replicate n pgE, ordTo n n, -1, h.calls.map twC, 0, [], 0⟩
def mvIn (h : Hp) (n : Nat) (c : Int) : Mc :=
  if h.now = -1 then ⟨c, List.replicate n pgE, ordTo n n, -1, h.calls.map twC, h.born, h.said, h.code⟩
  else ⟨c, (List.replicate n pgE).set 0 ⟨(h.calls.getD h.now.toNat Cl.none).sender, [⟨(h.calls.getD h.now.toNat Cl.none).m, (h.calls.getD h.now.toNat Cl.none).pc, h.now, (h.calls.getD h.now.toNat Cl.none).temps, (h.calls.getD h.now.toNat Cl.none).stack⟩]⟩, ordTo n n, 0, (h.calls.map twC).set h.now.toNat twGone, h.born, h.said, h.code⟩
theorem bodies_in (h : Hp) (n : Nat) (c : Int) : (lvIn (mvM h n c)).bodies = h.calls.map bdOf := by simp [lvIn, mvM, twC, Function.comp_def]
theorem twins_in (h : Hp) (n : Nat) (c : Int) : (lvIn (mvM h n c)).twins.length = h.calls.length := by simp [lvIn, mvM, twIn_len]
theorem twin_in (h : Hp) (n : Nat) (c : Int) (j : Nat) (hj : j < h.calls.length) : (lvIn (mvM h n c)).twins[j]'(by rw [twins_in]; exact hj) = ⟨-1, 0, j, h.calls[j].sender⟩ := by simp [lvIn, mvM, twIn, twC]
theorem pages_in (h : Hp) (n : Nat) (c : Int) : (lvIn (mvM h n c)).pages = List.replicate n ⟨-1, []⟩ := by simp [lvIn, mvM, pgIn, pgE]
theorem twM_in {L : LvM} {h : Hp} (hb : L.bodies = h.calls.map bdOf) {j : Nat} (hj : j < h.calls.length) : twM L ⟨-1, 0, j, h.calls[j].sender⟩ = twC h.calls[j] := by
  have hbd : bdAt L j = bdOf h.calls[j] := by rw [bdAt_at (by rw [hb]; simpa using hj)]; simp [hb]
  unfold twM
  rw [if_pos rfl, hbd]
  rfl
theorem twins_out {L : LvM} {h : Hp} {n : Nat} {c : Int} (hb : L.bodies = h.calls.map bdOf) : (lvIn (mvM h n c)).twins.map (twM L) = h.calls.map twC := by
  refine List.ext_getElem (by rw [List.length_map, twins_in, List.length_map]) fun j h1 h2 => ?_
  have hj : j < h.calls.length := by simpa using h2
  rw [List.getElem_map, twin_in h n c j hj, twM_in hb hj, List.getElem_map]
theorem pages_out {L : LvM} {h : Hp} {n : Nat} {c : Int} : (lvIn (mvM h n c)).pages.map (pgM L) = List.replicate n pgE := by
  rw [pages_in, List.map_replicate]
  rfl
theorem out_none {h : Hp} {n : Nat} {c : Int} (hn : h.now = -1) : outM (lvIn (mvM h n c)) h.born h.said h.code = mvIn h n c := by
  unfold mvIn
  rw [if_pos hn]
  show (⟨c, (lvIn (mvM h n c)).pages.map _, ordTo n n, -1, (lvIn (mvM h n c)).twins.map _, h.born, h.said, h.code⟩ : Mc) = _
  rw [pages_out, twins_out (bodies_in h n c)]
theorem useOrd_last (n : Nat) (hn : 1 ≤ n) : useOrd (ordTo n n) (n - 1) 0 = ordTo n n := by
  obtain ⟨m, rfl⟩ : ∃ m, n = m + 1 := ⟨n - 1, by omega⟩
  have hl : (ordTo (m + 1) m).length = m := ordTo_length _ _
  have e : ordTo (m + 1) (m + 1) = ordTo (m + 1) m ++ [0] := by
    rw [ordTo_succ, Nat.mod_self]
    rfl
  unfold useOrd
  rw [e, Nat.add_sub_cancel, List.take_append_of_le_length (by omega), List.take_of_length_le (by omega), List.drop_of_length_le (by simp; omega), List.append_nil]
def lvRun (h : Hp) (n : Nat) (c : Int) (j : Nat) : LvM := { putL (lvIn (mvM h n c)) 0 j ⟨-1, 0, j, (h.calls.getD j Cl.none).sender⟩ with order := useOrd (ordTo n n) (n - 1) 0, now := 0 }
theorem lvRun_wf {h : Hp} {n : Nat} {c : Int} {j : Nat} (hj : j < h.calls.length) (hw : (lvIn (mvM h n c)).wf) : (lvRun h n c j).wf := by
  have hbl : (lvIn (mvM h n c)).bodies.length = h.calls.length := by rw [bodies_in, List.length_map]
  refine ⟨fun i hi k hk => ?_, fun k hk => ?_⟩
  · show _ < (lvIn (mvM h n c)).bodies.length
    have hi' : i < ((lvIn (mvM h n c)).pages.set 0 ⟨(h.calls.getD j Cl.none).sender, [⟨j, (j : Int)⟩]⟩).length := hi
    have hk' : k < ((lvIn (mvM h n c)).pages.set 0 ⟨(h.calls.getD j Cl.none).sender, [⟨j, (j : Int)⟩]⟩)[i].frames.length := hk
    show (((lvIn (mvM h n c)).pages.set 0 ⟨(h.calls.getD j Cl.none).sender, [⟨j, (j : Int)⟩]⟩)[i].frames[k]).body < _
    by_cases e : 0 = i
    · subst e
      simp only [List.getElem_set_self] at hk' ⊢
      have : k = 0 := by simpa using hk'
      subst this
      rw [hbl]
      exact hj
    · simp only [List.getElem_set_ne e] at hk' ⊢
      exact hw.fr i (by simpa using hi') k hk'
  · show _ < (lvIn (mvM h n c)).bodies.length
    have hk' : k < ((lvIn (mvM h n c)).twins.set j ⟨((0 : Nat) : Int), 0, j, 0⟩).length := hk
    show (((lvIn (mvM h n c)).twins.set j ⟨((0 : Nat) : Int), 0, j, 0⟩)[k]).body < _
    by_cases e : j = k
    · subst e
      rw [List.getElem_set_self, hbl]
      exact hj
    · rw [List.getElem_set_ne e]
      exact hw.tw k (by simpa using hk')
theorem out_run {h : Hp} {n : Nat} {c : Int} {j : Nat} (hj : j < h.calls.length) (hn : 1 ≤ n) (hnow : h.now = (j : Int)) : outM (lvRun h n c j) h.born h.said h.code = mvIn h n c := by
  have hb : (lvRun h n c j).bodies = h.calls.map bdOf := bodies_in h n c
  have hjn : h.now.toNat = j := by rw [hnow]; rfl
  have hbd : bdAt (lvRun h n c j) j = bdOf h.calls[j] := by rw [bdAt_at (by rw [hb]; simpa using hj)]; simp [hb]
  have hg : h.calls.getD j Cl.none = h.calls[j] := by simp [hj]
  unfold mvIn
  rw [if_neg (by rw [hnow]; omega), hjn, hnow, hg]
  show (⟨c, ((lvIn (mvM h n c)).pages.set 0 ⟨(h.calls.getD j Cl.none).sender, [⟨j, (j : Int)⟩]⟩).map (pgM (lvRun h n c j)), useOrd (ordTo n n) (n - 1) 0, 0, ((lvIn (mvM h n c)).twins.set j ⟨((0 : Nat) : Int), 0, j, 0⟩).map (twM (lvRun h n c j)), h.born, h.said, h.code⟩ : Mc) = _
  rw [List.map_set, List.map_set, pages_out, twins_out hb, useOrd_last n hn, hg]
  have e1 : pgM (lvRun h n c j) ⟨h.calls[j].sender, [⟨j, (j : Int)⟩]⟩ = ⟨h.calls[j].sender, [⟨h.calls[j].m, h.calls[j].pc, (j : Int), h.calls[j].temps, h.calls[j].stack⟩]⟩ := by
    unfold pgM frM
    rw [List.map_singleton, hbd]
    rfl
  have e2 : twM (lvRun h n c j) ⟨((0 : Nat) : Int), 0, j, 0⟩ = twGone := by
    unfold twM
    rw [if_neg (by simp)]
    rfl
  rw [e1, e2]
theorem ordTo_lastv (n : Nat) (hn : 1 ≤ n) (h : n - 1 < (ordTo n n).length) : (ordTo n n)[n - 1] = 0 := by
  simp only [ordTo, List.getElem_map, List.getElem_range, Nat.sub_add_cancel hn, Nat.mod_self]
  rfl
theorem ordTo_pre (n j : Nat) (hj : j < n - 1) (h : j < (ordTo n n).length) : (ordTo n n)[j] ≠ 0 := by
  have : (j + 1) % n = j + 1 := Nat.mod_eq_of_lt (by omega)
  simp only [ordTo, List.getElem_map, List.getElem_range, this]
  omega
theorem ok_now {ms : List (Int × Int × List (Int × Int))} {h : Hp} (e : heapOk ms h = true) : h.now < h.calls.length := by
  unfold heapOk headOk at e
  simp only [Bool.and_eq_true, inR_true] at e
  omega
/-! ### in memory -/
def twRow (h : Hp) (VT VS : Nat → Value) (i : Nat) : List Value := [.int .i64 (-1), .int .i64 0, .int .i64 (h.calls.getD i Cl.none).m, .int .i64 (h.calls.getD i Cl.none).pc, VT i, VS i, .int .i64 (h.calls.getD i Cl.none).sender, .bool (h.calls.getD i Cl.none).dead]
theorem rowE_pages {B : Nat} {w : World} {v : Value} {n : Nat} (h : CRow B 2 w v n (rowE (.slice none 0 0) n)) : PagesAt w v (List.replicate n pgE) := by
  obtain ⟨a, c, hv, hm⟩ := h.slice
  refine ⟨a, c, by rw [hv, List.length_replicate], by rw [List.length_replicate]; exact hm, fun i hi => ?_⟩
  have hi' : i < n := by simpa using hi
  subst hv
  obtain ⟨g, off, cap, e, _, _⟩ := h.form (by omega)
  cases e
  have re := rowE_at (.slice none 0 0) n i hi'
  have c0 := (h.cell re.1).1
  have c1 := (h.cell re.2).1
  rw [← Nat.add_assoc] at c1
  rw [List.getElem_replicate]
  exact ⟨g, off, _, rfl, c0, c1, FramesAt.nil w⟩
theorem twRow_twins {B : Nat} {w : World} {v : Value} {h : Hp} {VT VS : Nat → Value} (hr : CRow B 8 w v h.calls.length ((List.range h.calls.length).flatMap (twRow h VT VS))) (ho : ∀ i, (hi : i < h.calls.length) → OpsAt w (VT i) h.calls[i].temps ∧ OpsAt w (VS i) h.calls[i].stack) : TwinsAt w v (h.calls.map twC) := by
  obtain ⟨a, c, hv, hm⟩ := hr.slice
  refine ⟨a, c, by rw [hv, List.length_map], by rw [List.length_map]; exact hm, fun q hq => ?_⟩
  have hq' : q < h.calls.length := by simpa using hq
  have hg : h.calls.getD q Cl.none = h.calls[q] := by simp [hq']
  subst hv
  obtain ⟨g, off, cap, e, _, _⟩ := hr.form (by omega)
  cases e
  have cell : ∀ j x, j < 8 → (twRow h VT VS q)[j]? = some x → w.cell? ⟨g, off + q * 8 + j, none⟩ = some x := fun j x hj hx => by
    have := (hr.cell (j := q * 8 + j) ((flatM_at (f := twRow h VT VS) (sz := 8) (fun i => rfl) h.calls.length q j hq' hj).trans hx)).1
    rwa [← Nat.add_assoc] at this
  have em : (h.calls.map twC)[q] = twC h.calls[q] := by simp
  rw [em]
  obtain ⟨o1, o2⟩ := ho q hq'
  have ht : twRow h VT VS q = [.int .i64 (-1), .int .i64 0, .int .i64 h.calls[q].m, .int .i64 h.calls[q].pc, VT q, VS q, .int .i64 h.calls[q].sender, .bool h.calls[q].dead] := by unfold twRow; rw [hg]
  exact ⟨g, off, _, _, rfl, cell 0 _ (by omega) (by rw [ht]; rfl), cell 1 _ (by omega) (by rw [ht]; rfl), cell 2 _ (by omega) (by rw [ht]; rfl), cell 3 _ (by omega) (by rw [ht]; rfl), cell 4 _ (by omega) (by rw [ht]; rfl), cell 5 _ (by omega) (by rw [ht]; rfl), cell 6 _ (by omega) (by rw [ht]; rfl), cell 7 _ (by omega) (by rw [ht]; rfl), o1, o2⟩
theorem Tryz.infoTwinI : (Tryz.prog.info? 66).map (fun i => (i.zero, i.size, i.bytes)) = some (some (.agg #[.int .i64 0, .int .i64 0, .int .i64 0, .int .i64 0, .slice none 0 0, .slice none 0 0, .int .i64 0, .bool false]), 8, 96) := by kernel_rfl
theorem LvAt.from {B : Nat} {ρ : Nat → Rl} {w w' : World} {P : Lay} (h : LvAt B ρ w P) (hs : w.heap.size ≤ w'.heap.size) (hk : ∀ g, B ≤ g → g < w.heap.size → w'.heap[g]? = w.heap[g]?) : LvAt B ρ w' P := fun r => by
  cases r with
  | other => trivial
  | live =>
    obtain ⟨h1, h2, h3⟩ := h .live
    exact ⟨h1.kept (hk _ h3 h1.lt), h2, h3⟩
  | pages =>
    obtain ⟨h1, h2⟩ := h .pages
    exact ⟨h1.kept hs fun g e => hk g (h1.lt g e).1 (h1.lt g e).2, h2⟩
  | frames i =>
    intro hi
    obtain ⟨h1, h2⟩ := h (.frames i) hi
    exact ⟨h1.kept hs fun g e => hk g (h1.lt g e).1 (h1.lt g e).2, h2⟩
  | order =>
    obtain ⟨h1, h2⟩ := h .order
    exact ⟨h1.kept hs fun g e => hk g (h1.lt g e).1 (h1.lt g e).2, h2⟩
  | twins =>
    obtain ⟨h1, h2, h3⟩ := h .twins
    exact ⟨h1.kept (hk _ h3 h1.lt), h2, h3⟩
  | body k =>
    intro hi
    obtain ⟨h1, h2, h3⟩ := h (.body k) hi
    exact ⟨h1.kept (hk _ h3 h1.lt), h2, h3⟩
  | temps k =>
    intro hi
    obtain ⟨h1, h2⟩ := h (.temps k) hi
    exact ⟨h1.kept hs fun g e => hk g (h1.lt g e).1 (h1.lt g e).2, h2⟩
  | stack k =>
    intro hi
    obtain ⟨h1, h2⟩ := h (.stack k) hi
    exact ⟨h1.kept hs fun g e => hk g (h1.lt g e).1 (h1.lt g e).2, h2⟩
def LvLt (S : Nat) (P : Lay) : Prop := (∀ g, P.vo.ownBlock = some g → g < S) ∧ ∀ k, k < P.L.bodies.length → (∀ g, (P.T k).1.ownBlock = some g → g < S) ∧ ∀ g, (P.T k).2.ownBlock = some g → g < S
theorem LvAt.lts {B : Nat} {ρ : Nat → Rl} {w : World} {P : Lay} (h : LvAt B ρ w P) : LvLt w.heap.size P :=
  ⟨fun g e => ((h .order).1.lt g e).2, fun k hk => ⟨fun g e => ((h (.temps k) hk).1.lt g e).2, fun g e => ((h (.stack k) hk).1.lt g e).2⟩⟩
def MvRaw (B0 : Nat) (w' : World) (v1 v2 v3 v4 : Value) (h : Hp) (n : Nat) (c : Int) : Prop :=
  ∃ (P : Lay) (B : Nat) (ρ : Nat → Rl) (S X : Nat), B0 ≤ B ∧ B0 ≤ S ∧ LvAt B ρ w' P ∧ LvLt S P ∧ P.L.wf ∧ P.L.pages.length ≤ 1000 ∧ P.vo = v2 ∧ MachOut P X w' v1 v3 ∧ PairRow S w' v4 h.said ∧ S ≤ X ∧ (∀ g, v4.ownBlock = some g → g < X) ∧
    outM P.L h.born h.said h.code = mvIn h n c ∧ ((h.now = -1 ∧ P.L = lvIn (mvM h n c)) ∨ ∃ j, j < h.calls.length ∧ h.now = (j : Int) ∧ P.L = lvRun h n c j)
theorem MvRaw.at {B0 : Nat} {w' : World} {v1 v2 v3 v4 : Value} {h : Hp} {n : Nat} {c : Int} (k : MvRaw B0 w' v1 v2 v3 v4 h n c) : MachAt w' v1 v2 v3 v4 (mvIn h n c) := by
  obtain ⟨P, B, ρ, S, X, _, _, hL, _, hw, hn, rfl, hm, hs, _, _, e, _⟩ := k
  rw [← e]
  exact hm.at hL hw hn hs.at h.born h.code
set_option maxRecDepth 100000 in
set_option maxHeartbeats 4000000 in
theorem implMoveIn_raw (vp vc vs : Value) (ms : List (Int × Int × List (Int × Int))) (h : Hp) (r c : Int) (w : World) (hp : MethsAt w vp ms) (hh : HeapAt w vc vs h) (hn : h.calls.length ≤ 1048576) (hsd : h.said.length ≤ 1048576) :
    Calls Tryz.prog 9 #[.agg #[vp], .agg (hpCells vc vs h), .int .i64 r, .int .i64 c] w fun e w' => Below w.heap.size w w' ∧
      (((heapOk ms h && roomsB r c) = false ∧ e = .returned (.tuple #[.agg #[.int .i64 0, .slice none 0 0, .slice none 0 0, .int .i64 0, .slice none 0 0, .int .i64 0, .slice none 0 0, .int .i64 0], .bool false])) ∨
       ((heapOk ms h && roomsB r c) = true ∧ ∃ v1 v2 v3 v4, e = .returned (.tuple #[.agg (mcCells v1 v2 v3 v4 (mvIn h r.toNat c)).toArray, .bool true]) ∧ MvRaw w.heap.size w' v1 v2 v3 v4 h r.toNat c)) := by
  obtain ⟨ap0, cap0, rfl, _, _⟩ := id hp
  obtain ⟨ac, kc, hvc⟩ := hh.c.shape
  obtain ⟨aD, kD, hvs⟩ := hh.s.shape
  subst hvc hvs
  obtain ⟨fp, hfp⟩ : ∃ fp, heapOk ms h = fp := ⟨_, rfl⟩
  obtain ⟨fr, hfr⟩ : ∃ fr, roomsB r c = fr := ⟨_, rfl⟩
  have HFP : Hid (heapOk ms h = fp) := hfp
  have HFR : Hid (roomsB r c = fr) := hfr
  have HHH : Hid (HeapAt w (.slice ac h.calls.length kc) (.slice aD h.said.length kD) h) := hh
  have HOK := fun W (hb : Below w.heap.size w W) => implHeapOk_any _ _ _ ms h W (hp.below hb) (hh.below hb) hn
  have HRO := fun W => roomsOk_any r c W
  rw [hfp] at HOK ⊢
  rw [hfr] at HRO ⊢
  unfold hpCells at HOK ⊢
  clear hfp hfr hp hh
  go_enter Tryz.func9, Tryz.ntmps9
  go_upto_region 1 with fail
  refine wp_gen (fun W => Below w.heap.size w W ∧ Bx W w.heap.size 41 [.slice ap0 ms.length cap0] ∧ Bx W (w.heap.size + 1) 45 [.slice ac h.calls.length kc, .int .i64 h.now, .int .i64 h.born, .slice aD h.said.length kD, .int .i64 h.code] ∧ Bx W (w.heap.size + 2) 36 [.int .i64 0, .slice none 0 0, .slice none 0 0, .int .i64 0, .slice none 0 0, .int .i64 0, .slice none 0 0, .int .i64 0]) ⟨(((Below.refl _ _).alloc (Nat.le_refl _) _).alloc (by simp) _).alloc (by simp; omega) _, ((Bx.new w _ _).alloc _).alloc _, (Bx.newAt _ _ _ (by simp)).alloc _, Bx.newAt _ _ _ (by simp)⟩ ?_
  rintro W0 ⟨B0, x0, y0, r0⟩
  have p0 := x0.cell 0 rfl
  obtain ⟨b0, b1, b2, b3, b4⟩ : W0.cell? ⟨w.heap.size + 1, 0, none⟩ = some (.slice ac h.calls.length kc) ∧ W0.cell? ⟨w.heap.size + 1, 1, none⟩ = some (.int .i64 h.now) ∧ W0.cell? ⟨w.heap.size + 1, 2, none⟩ = some (.int .i64 h.born) ∧ W0.cell? ⟨w.heap.size + 1, 3, none⟩ = some (.slice aD h.said.length kD) ∧ W0.cell? ⟨w.heap.size + 1, 4, none⟩ = some (.int .i64 h.code) := ⟨y0.cell 0 rfl, y0.cell 1 rfl, y0.cell 2 rfl, y0.cell 3 rfl, y0.cell 4 rfl⟩
  have z0 := B0.size
  go_wp2_with fail
  refine (HOK _ B0).mono ?_
  rintro e W1 ⟨rfl, t1⟩
  have y1 := y0.below t1
  have r1 := r0.below t1
  have B1 := B0.trans (t1.mono z0)
  have z1 := B1.size
  clear HOK t1 x0 y0 B0 z0 p0 b0 b1 b2 b3 b4 r0
  obtain ⟨⟨r0, r1', r2, r3, r4, r5, r6, r7⟩, ⟨g0, g1, g2, g3, g4, g5, g6, g7⟩⟩ := bx8 r1
  have HZ : Below w.heap.size w ((((((((W1.setCell ⟨w.heap.size + 2, 0, none⟩ (.int .i64 0)).setCell ⟨w.heap.size + 2, 1, none⟩ (.slice none 0 0)).setCell ⟨w.heap.size + 2, 2, none⟩ (.slice none 0 0)).setCell ⟨w.heap.size + 2, 3, none⟩ (.int .i64 0)).setCell ⟨w.heap.size + 2, 4, none⟩ (.slice none 0 0)).setCell ⟨w.heap.size + 2, 5, none⟩ (.int .i64 0)).setCell ⟨w.heap.size + 2, 6, none⟩ (.slice none 0 0)).setCell ⟨w.heap.size + 2, 7, none⟩ (.int .i64 0)) ∧ Bx ((((((((W1.setCell ⟨w.heap.size + 2, 0, none⟩ (.int .i64 0)).setCell ⟨w.heap.size + 2, 1, none⟩ (.slice none 0 0)).setCell ⟨w.heap.size + 2, 2, none⟩ (.slice none 0 0)).setCell ⟨w.heap.size + 2, 3, none⟩ (.int .i64 0)).setCell ⟨w.heap.size + 2, 4, none⟩ (.slice none 0 0)).setCell ⟨w.heap.size + 2, 5, none⟩ (.int .i64 0)).setCell ⟨w.heap.size + 2, 6, none⟩ (.slice none 0 0)).setCell ⟨w.heap.size + 2, 7, none⟩ (.int .i64 0)) (w.heap.size + 2) 36 [.int .i64 0, .slice none 0 0, .slice none 0 0, .int .i64 0, .slice none 0 0, .int .i64 0, .slice none 0 0, .int .i64 0] := by
    have HW := ((((((((Wr.refl1 (w.heap.size + 2) W1).set1 (o := 0) (.int .i64 0)).set1 (o := 1) (.slice none 0 0)).set1 (o := 2) (.slice none 0 0)).set1 (o := 3) (.int .i64 0)).set1 (o := 4) (.slice none 0 0)).set1 (o := 5) (.int .i64 0)).set1 (o := 6) (.slice none 0 0)).set1 (o := 7) (.int .i64 0)
    exact ⟨HW.below1 B1 (Nat.le_refl _) (Nat.le_add_right _ _), (((((((r1.set 0 _).set 1 _).set 2 _).set 3 _).set 4 _).set 5 _).set 6 _).set 7 _⟩
  have HZH : Hid _ := HZ
  clear HZ
  cases fp
  · go_wp2
    refine bp_gen (fun W => Below w.heap.size w W ∧ Bx W (w.heap.size + 2) 36 [.int .i64 0, .slice none 0 0, .slice none 0 0, .int .i64 0, .slice none 0 0, .int .i64 0, .slice none 0 0, .int .i64 0]) HZH.out ?_
    rintro W9 ⟨B9, x9⟩
    obtain ⟨⟨q0, q1, q2, q3, q4, q5, q6, q7⟩, _⟩ := bx8 x9
    exact bodyPost_ret (v := .tuple #[.agg #[.int .i64 0, .slice none 0 0, .slice none 0 0, .int .i64 0, .slice none 0 0, .int .i64 0, .slice none 0 0, .int .i64 0], .bool false]) (by simp [results, Tryz.results9, go_sem, q0, q1, q2, q3, q4, q5, q6, q7]) rfl ⟨B9, .inl ⟨rfl, rfl⟩⟩
  go_wp2_with fail
  refine (HRO _).mono ?_
  rintro e W2 ⟨rfl, hw⟩
  obtain rfl := hw.symm
  clear HRO
  cases fr
  · go_wp2
    refine bp_gen (fun W => Below w.heap.size w W ∧ Bx W (w.heap.size + 2) 36 [.int .i64 0, .slice none 0 0, .slice none 0 0, .int .i64 0, .slice none 0 0, .int .i64 0, .slice none 0 0, .int .i64 0]) HZH.out ?_
    rintro W9 ⟨B9, x9⟩
    obtain ⟨⟨q0, q1, q2, q3, q4, q5, q6, q7⟩, _⟩ := bx8 x9
    exact bodyPost_ret (v := .tuple #[.agg #[.int .i64 0, .slice none 0 0, .slice none 0 0, .int .i64 0, .slice none 0 0, .int .i64 0, .slice none 0 0, .int .i64 0], .bool false]) (by simp [results, Tryz.results9, go_sem, q0, q1, q2, q3, q4, q5, q6, q7]) rfl ⟨B9, .inl ⟨rfl, rfl⟩⟩
  clear HZH
  obtain ⟨hr1, hr4, _, _⟩ := roomsB_true HFR.out
  obtain ⟨n, rfl⟩ := Int.eq_ofNat_of_zero_le (show 0 ≤ r by omega)
  have hn1 : 1 ≤ n := by omega
  have hn4 : n ≤ 4 := by omega
  have OK := ok_parts HFP.out
  go_wp2_with fail
  refine (emptyPages_any n c _ (by omega)).mono ?_
  rintro e W3 ⟨v, vo, rfl, hrow, hord, hap, t3⟩
  have y3 := y1.below t3
  have q3 := r1.below t3
  have B3 := B1.trans (t3.mono z1)
  have z3 := t3.size
  have zw3 := B3.size
  have hr3l : w.heap.size + 2 < W3.heap.size := q3.lt
  clear t3 y1 r1 r0 r1' r2 r3 r4 r5 r6 r7 g0 g1 g2 g3 g4 g5 g6 g7
  obtain ⟨ap, cp, hvp, _⟩ := hrow.slice
  obtain ⟨ao0, co0, hvo, _⟩ := hord.slice
  subst hvp hvo
  go_upto_region 4 with fail
  refine wp_gen (fun W => Below W3.heap.size W3 W ∧ Bx W W3.heap.size 36 [.int .i64 c, .slice ap n cp, .slice ao0 (ordTo n n).length co0, .int .i64 (-1), .slice none 0 0, .int .i64 0, .slice none 0 0, .int .i64 0]) ⟨(Below.refl _ _).alloc (Nat.le_refl _) _, Bx.new _ _ _⟩ ?_
  rintro W4 ⟨t4, m4⟩
  have y4 := y3.below t4
  have b0 := y4.cell 0 rfl
  have hcs : ∀ i, (hi : i < h.calls.length) → ∃ b o vt vs, ac = some ⟨b, o, none⟩ ∧ ClAt w b (o + i * 6) vt vs h.calls[i] := by
    obtain ⟨a9, c9, e, _, hc⟩ := HHH.out.c
    cases e
    exact hc
  have hex : ∀ i, ∃ vt vs, ∀ hi : i < h.calls.length, ∃ b o, ac = some ⟨b, o, none⟩ ∧ ClAt w b (o + i * 6) vt vs h.calls[i] := fun i => by
    by_cases hi : i < h.calls.length
    · obtain ⟨b, o, vt, vs, h1, h2⟩ := hcs i hi
      exact ⟨vt, vs, fun _ => ⟨b, o, h1, h2⟩⟩
    · exact ⟨undef, undef, fun h => absurd h hi⟩
  obtain ⟨VT, VS, hVT⟩ : ∃ VT VS : Nat → Value, ∀ i, (hi : i < h.calls.length) → ∃ b o, ac = some ⟨b, o, none⟩ ∧ ClAt w b (o + i * 6) (VT i) (VS i) h.calls[i] :=
    ⟨fun i => (hex i).choose, fun i => (hex i).choose_spec.choose, fun i hi => (hex i).choose_spec.choose_spec hi⟩
  have HVT : Hid (∀ i, (hi : i < h.calls.length) → ∃ b o, ac = some ⟨b, o, none⟩ ∧ ClAt w b (o + i * 6) (VT i) (VS i) h.calls[i]) := hVT
  clear hex hcs hVT
  obtain ⟨i0, hii, hz0, hz1, hz2⟩ := info_parts Tryz.infoTwinI
  have h30 : h.calls.length ≤ 30 := OK.n30
  go_wp2_with fail
  clear b0
  go_loopg [12, 31] h.calls.length (fun d _ q wr => ∃ (k : Nat) (vt : Value), k ≤ h.calls.length ∧ d = h.calls.length - k ∧ q = .int .i64 (k : Int) ∧ Below W3.heap.size W3 wr ∧ Bx wr W3.heap.size 36 [.int .i64 c, .slice ap n cp, .slice ao0 (ordTo n n).length co0, .int .i64 (-1), vt, .int .i64 0, .slice none 0 0, .int .i64 0] ∧ CRow (W3.heap.size + 1) 8 wr (vt) k ((List.range k).flatMap (twRow h VT VS)))
  case atStart => exact ⟨0, _, Nat.zero_le _, rfl, rfl, t4, m4, CRow.nil _ _ _⟩
  case round =>
    obtain ⟨k, vt, hk, rfl, rfl, hbr, hmr, htr⟩ := hrel
    clear t4 m4 y4
    have zr := hbr.size
    have hbw := B3.trans (hbr.mono zw3)
    have hgmr : W3.heap.size < wr.heap.size := hmr.lt
    obtain ⟨at', ct, hvt, _⟩ := htr.slice
    subst hvt
    by_cases hlt : k < h.calls.length
    · obtain ⟨b, o, hac, hcl⟩ := HVT.out k hlt
      subst hac
      have hkz : (k : Int) < (h.calls.length : Int) := by omega
      obtain ⟨a1, k1, h1⟩ := hcl.t.shape
      obtain ⟨a2, k2, h2⟩ := hcl.s.shape
      have c0 := cell_below hbw hcl.c0
      have c1 := cell_below hbw hcl.c1
      have c2 := cell_below hbw hcl.c2
      have c3 := cell_below hbw hcl.c3
      have c4 := cell_below hbw hcl.c4
      have c5 := cell_below hbw hcl.c5
      have hto : twRow h VT VS k = [.int .i64 (-1), .int .i64 0, .int .i64 h.calls[k].m, .int .i64 h.calls[k].pc, VT k, VS k, .int .i64 h.calls[k].sender, .bool h.calls[k].dead] := by unfold twRow; simp [hlt]
      rw [h1] at c2 hto
      rw [h2] at c3 hto
      clear hcl
      obtain ⟨Q, hQ⟩ : ∃ Q, h.calls[k] = Q := ⟨_, rfl⟩
      rw [hQ] at c0 c1 c2 c3 c4 c5 hto
      clear hQ h1 h2
      go_upto_region 7 with fail
      refine wp_gen (fun W' => Below wr.heap.size wr W' ∧ Bx W' wr.heap.size 63 [.int .i64 Q.m, .int .i64 Q.pc, .slice a1 Q.temps.length k1, .slice a2 Q.stack.length k2, .int .i64 Q.sender, .bool Q.dead]) ⟨(Below.refl _ _).alloc (Nat.le_refl _) _, Bx.new _ _ _⟩ ?_
      rintro W5 ⟨t5, x5⟩
      have z5 := t5.size
      have n0 := x5.cell 0 rfl
      have n1 := x5.cell 1 rfl
      have n2 := x5.cell 2 rfl
      have n3 := x5.cell 3 rfl
      have n4 := x5.cell 4 rfl
      have n5 := x5.cell 5 rfl
      have m5 := hmr.below t5
      have p4 := m5.cell 4 rfl
      have N1 : Below W5.heap.size W5 (W5.alloc (.cells #[.int .i64 (-1), .int .i64 0, .int .i64 Q.m, .int .i64 Q.pc, .slice a1 Q.temps.length k1, .slice a2 Q.stack.length k2, .int .i64 Q.sender, .bool Q.dead] 66)) := (Below.refl _ _).alloc (Nat.le_refl _) _
      have y1 := Bx.new W5 66 [.int .i64 (-1), .int .i64 0, .int .i64 Q.m, .int .i64 Q.pc, .slice a1 Q.temps.length k1, .slice a2 Q.stack.length k2, .int .i64 Q.sender, .bool Q.dead]
      have rT := (htr.below t5).below N1
      have M1 := m5.below N1
      have zN := N1.size
      have hlo : ∀ g, (Value.slice at' k ct).ownBlock = some g → W3.heap.size + 1 ≤ g := fun g e => (htr.lt g e).1
      clear c0 c1 c2 c3 c4 c5
      go_upto_region 8 with (at_builtin; refine append_el Tryz.underlying33 hii hz0 hz1 rfl (by rw [hz2]; omega) _ (by rfl) _ _ (by rfl) _ k _ [.int .i64 (-1), .int .i64 0, .int .i64 Q.m, .int .i64 Q.pc, .slice a1 Q.temps.length k1, .slice a2 Q.stack.length k2, .int .i64 Q.sender, .bool Q.dead] (by rfl) W5.heap.size 1 (by rfl) rT rfl (fun u hu => by simp at hu; rcases hu with rfl | rfl | rfl | rfl | rfl | rfl | rfl | rfl <;> rfl) (fun j u hu => y1.cell j hu) (by omega) (by omega) ?_; intro v2 w2 hrow2 hg2 hor2; have hx2 := M1.grown hg2 (fun e => by have := hlo _ e; omega); have x8' := hx2.cell 4 rfl; have f8' := hx2.frozen 4; obtain ⟨a9, c9, hv2, _⟩ := hrow2.slice; subst hv2)
      rw [← hto, ← flat_snoc] at hrow2
      refine wp_gen (fun W' => Below W3.heap.size W3 W' ∧ Bx W' W3.heap.size 36 [.int .i64 c, .slice ap n cp, .slice ao0 (ordTo n n).length co0, .int .i64 (-1), .slice a9 (k + 1) c9, .int .i64 0, .slice none 0 0, .int .i64 0] ∧ CRow (W3.heap.size + 1) 8 W' (.slice a9 (k + 1) c9) (k + 1) ((List.range (k + 1)).flatMap (twRow h VT VS))) ?_ ?_
      · have HW := (Wr.refl1 W3.heap.size w2).set1 (o := 4) (.slice a9 (k + 1) c9)
        exact ⟨HW.below1 (((hbr.trans (t5.mono zr)).trans (N1.mono (by omega))).grown hg2 (by omega) (fun q e => by have := hlo q e; omega)) (Nat.le_refl _) (Nat.le_refl _), hx2.set 4 _, hrow2.wr HW (fun g e e2 => by have := (hrow2.lt g e).1; omega)⟩
      clear hx2 x8' f8' hrow2 hg2 hor2 M1 rT y1 N1 zN p4 m5 n0 n1 n2 n3 n4 n5 x5 t5
      rintro W6 ⟨k1', k2', k3'⟩
      go_wp2
      go_roundg (h.calls.length - (k + 1))
      case measure => omega
      case rel => exact ⟨k + 1, _, by omega, rfl, by go_num, k1', k2', k3'⟩
    · obtain rfl : k = h.calls.length := by omega
      obtain ⟨⟨p0, p1, p2, p3, p4, p5, p6, p7⟩, _⟩ := bx8 hmr
      have HMV : MachAt wr (.slice ap n cp) (.slice ao0 (ordTo n n).length co0) (.slice at' h.calls.length ct) (.slice none 0 0) (mvM h n c) :=
        ⟨rowE_pages (hrow.below hbr), (hord.below hbr).at, twRow_twins htr fun i hi => by
          obtain ⟨b, o, _, q⟩ := HVT.out i hi
          exact ⟨q.t.below hbw, q.s.below hbw⟩, ⟨none, 0, rfl, Nat.zero_le _, fun _ h => absurd h (Nat.not_lt_zero _)⟩⟩
      go_wp2_with fail
      refine (livePagesOf_things (.slice ap n cp) (.slice ao0 (ordTo n n).length co0) (.slice at' h.calls.length ct) (.slice none 0 0) (mvM h n c) _ HMV (by show (ordTo n n).length ≤ 1000; rw [ordTo_length]; omega) (by simp [mvM]; omega) (by simp [mvM]; omega) (fun i hi => by simp [mvM, pgE]) (fun i hi => by simp [mvM, twC]) (fun i hi => by
        have hi' : i < h.calls.length := by simpa [mvM] using hi
        have := OK.small i hi'
        have e : (mvM h n c).twins[i].left = h.calls[i] := by simp [mvM, twC]
        rw [e]
        omega)).mono ?_
      rintro e W6 ⟨P6, ρ6, hL6, rfl, hPL, hwf6, t6⟩
      obtain ⟨bl, vpp, voo, bm, F, D, T, LL⟩ := P6
      dsimp only at hPL
      subst hPL
      have hb6 := hbw.trans (t6.mono hbw.size)
      have t36 := hbr.trans (t6.mono zr)
      have y6 := y3.below t36
      have q6 := q3.below t36
      have z6 := t6.size
      clear HMV p0 p1 p2 p3 p4 p5 p6 p7 hmr htr hrow hord hap hbr
      by_cases hno : h.now = -1
      · rw [hno] at y6
        obtain ⟨ao, co, hvo, _⟩ := (hL6 .order).1.slice
        dsimp only at hvo
        have hvo' : voo = .slice ao (ordTo n n).length co := hvo
        subst hvo'
        have y1 := y6.cell 1 rfl
        go_wp2_with fail
        obtain ⟨W2, hW2⟩ : ∃ W2, W2 = W6 := ⟨_, rfl⟩
        subst hW2
        have hb2 := hb6
        have hr2 := q6
        have hL2 := hL6
        have HEQ : Hid (outM (lvIn (mvM h n c)) h.born h.said h.code = mvIn h n c) := out_none hno
        have HFEW : Hid (((lvIn (mvM h n c)).pages.length ≤ 1000 ∧ ∀ i, (hi : i < (lvIn (mvM h n c)).pages.length) → (lvIn (mvM h n c)).pages[i].frames.length ≤ 1000) ∧ (lvIn (mvM h n c)).twins.length ≤ 800000) :=
          ⟨⟨by simp [lvIn, mvM]; omega, fun i hi => by simp [lvIn, mvM, pgIn]⟩, by rw [twins_in]; omega⟩
        have y2 := y6.cell 2 rfl
        have y3 := y6.cell 3 rfl
        have y4 := y6.cell 4 rfl
        have z2 := hb2.size
        have hWL : w.heap.size + 2 < W3.heap.size := hr3l
        have HCL : Hid (∀ X, Below W2.heap.size W2 X → Calls Tryz.prog 34 #[.slice aD h.said.length kD] X fun e w' => ∃ v', e = .returned v' ∧ PairRow X.heap.size w' v' h.said ∧ Below X.heap.size X w') := fun X hX => clone_big _ _ X ((HHH.out.s.below hb2).below hX) hsd
        have HMC : Hid (∀ X, Below W2.heap.size W2 X → ∀ v, OpsAt X v h.said → Calls Tryz.prog 33 #[.pointer (some ⟨bl, 0, none⟩), .int .i64 h.born, v, .int .i64 h.code] X fun e w' => ∃ v1 v3, e = .returned (.agg (mcCells v1 (.slice ao (ordTo n n).length co) v3 v (outM (lvIn (mvM h n c)) h.born h.said h.code)).toArray) ∧ MachOut ⟨bl, vpp, .slice ao (ordTo n n).length co, bm, F, D, T, lvIn (mvM h n c)⟩ X.heap.size w' v1 v3 ∧ Below X.heap.size X w') := fun X hX v hv => mach_own (hL2.below hX) hwf6 HFEW.out.1 HFEW.out.2 h.born h.code v h.said hv
        have hPN : (lvIn (mvM h n c)).pages.length ≤ 1000 := HFEW.out.1.1
        clear y1
        refine wp_region_fu [[], [], [1], [], [3], [3, 4], [], [6], [0, 1, 2, 3, 4, 5, 6, 7], [0, 1, 2, 3, 4, 5, 6, 7, 8], [0, 1, 2, 3, 4, 5, 6, 7, 8, 9]] [[0], [1], [2], [3], [4], [5], [6], [7], [5, 8], [], []] [[], [], [], [], [], [], [], [], [], [], []] [fIs (.pointer (some ⟨bl, 0, none⟩)), fIs (.pointer (some ⟨(w.heap.size + 1), 2, none⟩)), fIs (.int .i64 h.born), fIs (.pointer (some ⟨(w.heap.size + 1), 3, none⟩)), fIs (.slice aD h.said.length kD), fGh 5 (fun (x : Option Addr × Nat) l => l = [.slice x.1 h.said.length x.2]) (fun x w1 => PairRow W2.heap.size w1 (.slice x.1 h.said.length x.2) h.said), fIs (.pointer (some ⟨(w.heap.size + 1), 4, none⟩)), fIs (.int .i64 h.code), fGh 8 (fun (x : (Option Addr × Nat) × (Option Addr × Nat) × (Option Addr × Nat)) l => l = [.slice x.1.1 h.said.length x.1.2, .agg #[.int .i64 c, .slice x.2.1.1 (lvIn (mvM h n c)).pages.length x.2.1.2, .slice ao (ordTo n n).length co, .int .i64 (-1), .slice x.2.2.1 (lvIn (mvM h n c)).twins.length x.2.2.2, .int .i64 h.born, .slice x.1.1 h.said.length x.1.2, .int .i64 h.code]]) (fun x w1 => ∃ X, W2.heap.size ≤ X ∧ (∀ g, (Value.slice x.1.1 h.said.length x.1.2).ownBlock = some g → g < X) ∧ MachOut ⟨bl, vpp, .slice ao (ordTo n n).length co, bm, F, D, T, lvIn (mvM h n c)⟩ X w1 (.slice x.2.1.1 (lvIn (mvM h n c)).pages.length x.2.1.2) (.slice x.2.2.1 (lvIn (mvM h n c)).twins.length x.2.2.2)), fOf fun _ => True, fOf fun _ => True] 9 1 rfl (by kernel_rfl) (by kernel_rfl) (by kernel_rfl) (by kernel_rfl) ?_ ?_
        · refine all_lt_succ (all_lt_succ (all_lt_succ (all_lt_succ (all_lt_succ (all_lt_succ (all_lt_succ (all_lt_succ (all_lt_succ (all_lt_zero) ?_) ?_) ?_) ?_) ?_) ?_) ?_) ?_) ?_
          · intro a wS val own hB hf hown hk
            have s13 := hf.at (d := 13) (v := .pointer (some ⟨bl, 0, none⟩)) (by kernel_rfl) rfl
            exact rf_pure (v := .pointer (some ⟨bl, 0, none⟩)) hB rfl rfl (by unfold execOp; go_simp) rfl
          · intro a wS val own hB hf hown hk
            have s5 := hf.at (d := 5) (v := .pointer (some ⟨(w.heap.size + 1), 0, none⟩)) (by kernel_rfl) rfl
            exact rf_pure (v := .pointer (some ⟨(w.heap.size + 1), 2, none⟩)) hB rfl rfl (by unfold execOp; go_simp) rfl
          · intro a wS val own hB hf hown hk
            obtain ⟨k1, f1⟩ := hk 1 (show 1 ∈ [1] by decide)
            have s55 := k1 55 rfl
            rw [fIs_out f1] at s55
            clear k1 f1
            have cy2 := cell_below hB y2
            exact rf_pure (v := .int .i64 h.born) hB rfl rfl (by unfold execOp; go_simp) rfl
          · intro a wS val own hB hf hown hk
            have s5 := hf.at (d := 5) (v := .pointer (some ⟨(w.heap.size + 1), 0, none⟩)) (by kernel_rfl) rfl
            exact rf_pure (v := .pointer (some ⟨(w.heap.size + 1), 3, none⟩)) hB rfl rfl (by unfold execOp; go_simp) rfl
          · intro a wS val own hB hf hown hk
            obtain ⟨k3, f3⟩ := hk 3 (show 3 ∈ [3] by decide)
            have s57 := k3 57 rfl
            rw [fIs_out f3] at s57
            clear k3 f3
            have cy3 := cell_below hB y3
            exact rf_pure (v := .slice aD h.said.length kD) hB rfl rfl (by unfold execOp; go_simp) rfl
          · intro a wS val own hB hf hown hk
            obtain ⟨k4, f4⟩ := hk 4 (show 4 ∈ [3, 4] by decide)
            have s58 := k4 58 rfl
            rw [fIs_out f4] at s58
            clear k4 f4
            have hzB := hB.size
            refine rf_call hB rfl rfl (by unfold execOp; go_simp) ((HCL.out wS hB).mono ?_)
            rintro e w' ⟨v1, rfl, r1, hb'⟩
            obtain ⟨a0, c0, e0, _⟩ := r1.slice
            subst e0
            refine ⟨_, rfl, hb', (a0, c0), rfl, Made.new fun w1 hs hbw hr => ?_⟩
            exact (r1.kept hs fun g e => hr g (r1.lt g e).1 (r1.lt g e).2).mono hzB
          · intro a wS val own hB hf hown hk
            have s5 := hf.at (d := 5) (v := .pointer (some ⟨(w.heap.size + 1), 0, none⟩)) (by kernel_rfl) rfl
            exact rf_pure (v := .pointer (some ⟨(w.heap.size + 1), 4, none⟩)) hB rfl rfl (by unfold execOp; go_simp) rfl
          · intro a wS val own hB hf hown hk
            obtain ⟨k6, f6⟩ := hk 6 (show 6 ∈ [6] by decide)
            have s60 := k6 60 rfl
            rw [fIs_out f6] at s60
            clear k6 f6
            have cy4 := cell_below hB y4
            exact rf_pure (v := .int .i64 h.code) hB rfl rfl (by unfold execOp; go_simp) rfl
          · intro a wS val own hB hf hown hk
            obtain ⟨k0, f0⟩ := hk 0 (show 0 ∈ [0, 1, 2, 3, 4, 5, 6, 7] by decide)
            have s54 := k0 54 rfl
            rw [fIs_out f0] at s54
            clear k0 f0
            obtain ⟨k2, f2⟩ := hk 2 (show 2 ∈ [0, 1, 2, 3, 4, 5, 6, 7] by decide)
            have s56 := k2 56 rfl
            rw [fIs_out f2] at s56
            clear k2 f2
            obtain ⟨kc, xc, ec, mc⟩ := hk 5 (show 5 ∈ [0, 1, 2, 3, 4, 5, 6, 7] by decide)
            have vc := one_eq ec
            have s59 := kc 59 rfl
            rw [vc] at s59
            have rc := mc.here hB
            clear kc ec mc
            obtain ⟨k7, f7⟩ := hk 7 (show 7 ∈ [0, 1, 2, 3, 4, 5, 6, 7] by decide)
            have s61 := k7 61 rfl
            rw [fIs_out f7] at s61
            clear k7 f7
            have hzB := hB.size
            refine rf_call hB rfl rfl (by unfold execOp; go_simp) ((HMC.out wS hB _ rc.at).mono ?_)
            rintro e w' ⟨v1, v3, rfl, r1, hb'⟩
            obtain ⟨⟨m1, c1, e1⟩, m3, c3, e3⟩ := r1.slices
            subst e1 e3
            refine ⟨_, rfl, hb', (xc, (m1, c1), (m3, c3)), by show [val 5, _] = _; rw [vc]; rfl, Made.new fun w1 hs hbw hr => ?_⟩
            exact ⟨wS.heap.size, hzB, fun g e => (rc.lt g e).2, r1.kept hs hr⟩
        intro aE w10 val own hB hf hown hk
        obtain ⟨kc, xc, ec, mc⟩ := hk 5 (by decide)
        have vc := one_eq ec
        have rc := mc.here hB
        clear kc ec mc
        obtain ⟨kd, xd, ed, md⟩ := hk 8 (by decide)
        have ed' : [val 5, val 8] = _ := ed
        injection ed' with ed1 ed2
        have vd := one_eq ed2
        rw [vc] at ed1
        have s62 := kd 62 rfl
        rw [vd] at s62
        have mo0 := md.here hB
        clear kd ed ed2 vd md vc
        obtain ⟨⟨y1', y2'⟩, ⟨m1, c1⟩, m3, c3⟩ := xd
        obtain ⟨x1, x2⟩ := xc
        dsimp only at ed1 mo0 rc
        dsimp only at s62
        injection ed1 with e1 _ e2
        subst e1 e2
        obtain ⟨X, hX1, hX2, mo⟩ := mo0
        have hB0 : Below W2.heap.size W2 w10 := hB
        have hz0' := hB0.size
        have hL10 := hL2.below hB0
        have hb3 : Below w.heap.size w w10 := hb2.trans (hB0.mono z2)
        have hr3 := hr2.below hB0
        have hrl := hr2.lt
        obtain ⟨⟨r0, r1', r2', r3, r4, r5, r6, r7⟩, ⟨g0, g1, g2, g3, g4, g5, g6, g7⟩⟩ := bx8 hr3
        have HE : Hid (Below w.heap.size w ((((((((w10.setCell ⟨w.heap.size + 2, 0, none⟩ (.int .i64 c)).setCell ⟨w.heap.size + 2, 1, none⟩ (.slice m1 (lvIn (mvM h n c)).pages.length c1)).setCell ⟨w.heap.size + 2, 2, none⟩ (.slice ao (ordTo n n).length co)).setCell ⟨w.heap.size + 2, 3, none⟩ (.int .i64 (-1))).setCell ⟨w.heap.size + 2, 4, none⟩ (.slice m3 (lvIn (mvM h n c)).twins.length c3)).setCell ⟨w.heap.size + 2, 5, none⟩ (.int .i64 h.born)).setCell ⟨w.heap.size + 2, 6, none⟩ (.slice x1 h.said.length x2)).setCell ⟨w.heap.size + 2, 7, none⟩ (.int .i64 h.code)) ∧ Bx ((((((((w10.setCell ⟨w.heap.size + 2, 0, none⟩ (.int .i64 c)).setCell ⟨w.heap.size + 2, 1, none⟩ (.slice m1 (lvIn (mvM h n c)).pages.length c1)).setCell ⟨w.heap.size + 2, 2, none⟩ (.slice ao (ordTo n n).length co)).setCell ⟨w.heap.size + 2, 3, none⟩ (.int .i64 (-1))).setCell ⟨w.heap.size + 2, 4, none⟩ (.slice m3 (lvIn (mvM h n c)).twins.length c3)).setCell ⟨w.heap.size + 2, 5, none⟩ (.int .i64 h.born)).setCell ⟨w.heap.size + 2, 6, none⟩ (.slice x1 h.said.length x2)).setCell ⟨w.heap.size + 2, 7, none⟩ (.int .i64 h.code)) (w.heap.size + 2) 36 [.int .i64 c, .slice m1 (lvIn (mvM h n c)).pages.length c1, .slice ao (ordTo n n).length co, .int .i64 (-1), .slice m3 (lvIn (mvM h n c)).twins.length c3, .int .i64 h.born, .slice x1 h.said.length x2, .int .i64 h.code] ∧ w10.heap.size ≤ ((((((((w10.setCell ⟨w.heap.size + 2, 0, none⟩ (.int .i64 c)).setCell ⟨w.heap.size + 2, 1, none⟩ (.slice m1 (lvIn (mvM h n c)).pages.length c1)).setCell ⟨w.heap.size + 2, 2, none⟩ (.slice ao (ordTo n n).length co)).setCell ⟨w.heap.size + 2, 3, none⟩ (.int .i64 (-1))).setCell ⟨w.heap.size + 2, 4, none⟩ (.slice m3 (lvIn (mvM h n c)).twins.length c3)).setCell ⟨w.heap.size + 2, 5, none⟩ (.int .i64 h.born)).setCell ⟨w.heap.size + 2, 6, none⟩ (.slice x1 h.said.length x2)).setCell ⟨w.heap.size + 2, 7, none⟩ (.int .i64 h.code)).heap.size ∧ ∀ g, g ≠ w.heap.size + 2 → ((((((((w10.setCell ⟨w.heap.size + 2, 0, none⟩ (.int .i64 c)).setCell ⟨w.heap.size + 2, 1, none⟩ (.slice m1 (lvIn (mvM h n c)).pages.length c1)).setCell ⟨w.heap.size + 2, 2, none⟩ (.slice ao (ordTo n n).length co)).setCell ⟨w.heap.size + 2, 3, none⟩ (.int .i64 (-1))).setCell ⟨w.heap.size + 2, 4, none⟩ (.slice m3 (lvIn (mvM h n c)).twins.length c3)).setCell ⟨w.heap.size + 2, 5, none⟩ (.int .i64 h.born)).setCell ⟨w.heap.size + 2, 6, none⟩ (.slice x1 h.said.length x2)).setCell ⟨w.heap.size + 2, 7, none⟩ (.int .i64 h.code)).heap[g]? = w10.heap[g]?) := by
          have HW := ((((((((Wr.refl1 (w.heap.size + 2) w10).set1 (o := 0) (.int .i64 c)).set1 (o := 1) (.slice m1 (lvIn (mvM h n c)).pages.length c1)).set1 (o := 2) (.slice ao (ordTo n n).length co)).set1 (o := 3) (.int .i64 (-1))).set1 (o := 4) (.slice m3 (lvIn (mvM h n c)).twins.length c3)).set1 (o := 5) (.int .i64 h.born)).set1 (o := 6) (.slice x1 h.said.length x2)).set1 (o := 7) (.int .i64 h.code)
          exact ⟨HW.below1 hb3 (Nat.le_refl _) (Nat.le_add_right _ _), (((((((hr3.set 0 _).set 1 _).set 2 _).set 3 _).set 4 _).set 5 _).set 6 _).set 7 _, by simp only [World.size_setCell]; exact Nat.le_refl _, fun g hg => (Below.heap_setCell _ ⟨w.heap.size + 2, 7, none⟩ _ _ hg).trans ((Below.heap_setCell _ ⟨w.heap.size + 2, 6, none⟩ _ _ hg).trans ((Below.heap_setCell _ ⟨w.heap.size + 2, 5, none⟩ _ _ hg).trans ((Below.heap_setCell _ ⟨w.heap.size + 2, 4, none⟩ _ _ hg).trans ((Below.heap_setCell _ ⟨w.heap.size + 2, 3, none⟩ _ _ hg).trans ((Below.heap_setCell _ ⟨w.heap.size + 2, 2, none⟩ _ _ hg).trans ((Below.heap_setCell _ ⟨w.heap.size + 2, 1, none⟩ _ _ hg).trans (Below.heap_setCell _ ⟨w.heap.size + 2, 0, none⟩ _ _ hg)))))))⟩
        have hu := frame_sets hf [54, 55, 56, 57, 58, 59, 60, 61, 62] (by kernel_rfl)
        dsimp only at hu
        simp only [List.foldl_cons, List.foldl_nil, List.setIfInBounds_toArray, List.set_cons_succ, List.set_cons_zero] at hu
        rw [s62] at hu
        generalize aE.tmps[54]?.getD undef = u54 at hu
        generalize aE.tmps[55]?.getD undef = u55 at hu
        generalize aE.tmps[56]?.getD undef = u56 at hu
        generalize aE.tmps[57]?.getD undef = u57 at hu
        generalize aE.tmps[58]?.getD undef = u58 at hu
        generalize aE.tmps[59]?.getD undef = u59 at hu
        generalize aE.tmps[60]?.getD undef = u60 at hu
        generalize aE.tmps[61]?.getD undef = u61 at hu
        obtain rfl := act_eq hu (show aE.defers = [] from hf.defers)
        clear hu hk hown hf hr3 s62
        refine wpOp_skip (w' := ((((((((w10.setCell ⟨w.heap.size + 2, 0, none⟩ (.int .i64 c)).setCell ⟨w.heap.size + 2, 1, none⟩ (.slice m1 (lvIn (mvM h n c)).pages.length c1)).setCell ⟨w.heap.size + 2, 2, none⟩ (.slice ao (ordTo n n).length co)).setCell ⟨w.heap.size + 2, 3, none⟩ (.int .i64 (-1))).setCell ⟨w.heap.size + 2, 4, none⟩ (.slice m3 (lvIn (mvM h n c)).twins.length c3)).setCell ⟨w.heap.size + 2, 5, none⟩ (.int .i64 h.born)).setCell ⟨w.heap.size + 2, 6, none⟩ (.slice x1 h.said.length x2)).setCell ⟨w.heap.size + 2, 7, none⟩ (.int .i64 h.code))) rfl rfl (by unfold execOp; go_simp) ?_
        simp only [Act.put]
        refine wpOp_val (v := .bool true) (w' := ((((((((w10.setCell ⟨w.heap.size + 2, 0, none⟩ (.int .i64 c)).setCell ⟨w.heap.size + 2, 1, none⟩ (.slice m1 (lvIn (mvM h n c)).pages.length c1)).setCell ⟨w.heap.size + 2, 2, none⟩ (.slice ao (ordTo n n).length co)).setCell ⟨w.heap.size + 2, 3, none⟩ (.int .i64 (-1))).setCell ⟨w.heap.size + 2, 4, none⟩ (.slice m3 (lvIn (mvM h n c)).twins.length c3)).setCell ⟨w.heap.size + 2, 5, none⟩ (.int .i64 h.born)).setCell ⟨w.heap.size + 2, 6, none⟩ (.slice x1 h.said.length x2)).setCell ⟨w.heap.size + 2, 7, none⟩ (.int .i64 h.code))) rfl rfl (by unfold execOp; go_simp) ?_
        simp only [Act.put]
        clear r0 r1' r2' r3 r4 r5 r6 r7 g0 g1 g2 g3 g4 g5 g6 g7 hB
        refine ex_gen (fun W9 => Below w.heap.size w W9 ∧ Bx W9 (w.heap.size + 2) 36 [.int .i64 c, .slice m1 (lvIn (mvM h n c)).pages.length c1, .slice ao (ordTo n n).length co, .int .i64 (-1), .slice m3 (lvIn (mvM h n c)).twins.length c3, .int .i64 h.born, .slice x1 h.said.length x2, .int .i64 h.code] ∧ w10.heap.size ≤ W9.heap.size ∧ ∀ g, g ≠ w.heap.size + 2 → W9.heap[g]? = w10.heap[g]?) HE.out ?_
        rintro W9 ⟨k1, k2, k3, k4⟩
        clear HE
        obtain ⟨⟨q0, q1, q2, q3, q4, q5, q6, q7⟩, _⟩ := bx8 k2
        have hL9 := hL10.from k3 fun g h1 h2 => k4 g (by omega)
        have mo9 := mo.kept k3 fun g h1 h2 => k4 g (by omega)
        have rc9 := rc.kept k3 fun g e => k4 g (by have := (rc.lt g e).1; omega)
        go_wp2
        exact bodyPost_ret (v := .tuple #[.agg #[.int .i64 c, .slice m1 (lvIn (mvM h n c)).pages.length c1, .slice ao (ordTo n n).length co, .int .i64 (-1), .slice m3 (lvIn (mvM h n c)).twins.length c3, .int .i64 h.born, .slice x1 h.said.length x2, .int .i64 h.code], .bool true]) (by simp [results, Tryz.results9, go_sem, q0, q1, q2, q3, q4, q5, q6, q7]) rfl ⟨k1, .slice m1 (lvIn (mvM h n c)).pages.length c1, .slice ao (ordTo n n).length co, .slice m3 (lvIn (mvM h n c)).twins.length c3, .slice x1 h.said.length x2, by rw [← HEQ.out]; rfl, _, _, _, W2.heap.size, X, by have := hbw.size; omega, z2, hL9, hL2.lts, hwf6, hPN, rfl, mo9, rc9, hX1, hX2, HEQ.out, .inl ⟨hno, rfl⟩⟩
      · obtain ⟨j, hj⟩ := Int.eq_ofNat_of_zero_le (show 0 ≤ h.now by have := OK.now0; omega)
        have hjl : j < h.calls.length := by have := ok_now HFP.out; omega
        have hgd : h.calls.getD j Cl.none = h.calls[j] := by simp [hjl]
        rw [hj] at y6
        have y1 := y6.cell 1 rfl
        have hjn : ¬ ((j : Int) = -1) := by omega
        have hBW6 : wr.heap.size + 1 ≤ W6.heap.size := Nat.le_trans (hL6 .live).2.2 (Nat.le_of_lt hL6.box.lt)
        have hPT := putOn_any hL6 (by omega) 0 (by show 0 < (lvIn (mvM h n c)).pages.length; rw [pages_in, List.length_replicate]; omega) j (by show j < (lvIn (mvM h n c)).twins.length; rw [twins_in]; exact hjl) _ (twin_in h n c j hjl)
        have HPT : Hid _ := hPT
        clear hPT
        go_wp2_with fail
        refine Calls.mono HPT.out ?_
        rintro e W7 ⟨rfl, ρ7, F9, hL7, hC7, hB7⟩
        have y7 := y6.kept (hB7.block _ (by omega))
        have q7 := q6.kept (hB7.block _ (by omega))
        have hb7 := hb6.trans (hB7.mono (by omega))
        have z7 := hC7.size
        have HRN : Hid _ := runOn_any hL7 (by omega) 0 (n - 1) (by show n - 1 < (ordTo n n).length; rw [ordTo_length]; omega) (ordTo_lastv n hn1 _) (fun j hj' hlt' => ordTo_pre n j hlt' _) (by show (ordTo n n).length ≤ 1000; rw [ordTo_length]; omega)
        clear HPT hC7 y1
        go_wp2_with fail
        refine Calls.mono HRN.out ?_
        rintro e W2 ⟨rfl, ρ8, vo8, hL8, hC8, hB8⟩
        have y8 := y7.kept (hB8.block _ (by omega))
        have hr2 := q7.kept (hB8.block _ (by omega))
        have hb2 := hb7.trans (hB8.mono (by omega))
        have z8 := hC8.size
        obtain ⟨ao, co, hvo, _⟩ := (hL8 .order).1.slice
        have hvo' : vo8 = .slice ao (ordTo n n).length co := by
          have e : vo8 = .slice ao (useOrd (ordTo n n) (n - 1) 0).length co := hvo
          rw [useOrd_last n hn1] at e
          exact e
        clear hvo
        subst hvo'
        have hL2 : LvAt (wr.heap.size + 1) ρ8 W2 ⟨bl, vpp, .slice ao (ordTo n n).length co, bm, F9, D, T, lvRun h n c j⟩ := by
          unfold lvRun
          rw [hgd]
          exact hL8
        have hwf8 := lvRun_wf (n := n) (c := c) hjl hwf6
        clear HRN hC8 hL8 hL7 hL6 y7 q7 y6 q6 hjn hgd
        have y6 := y8
        have HEQ : Hid (outM (lvRun h n c j) h.born h.said h.code = mvIn h n c) := out_run hjl hn1 hj
        have HFEW : Hid (((lvRun h n c j).pages.length ≤ 1000 ∧ ∀ i, (hi : i < (lvRun h n c j).pages.length) → (lvRun h n c j).pages[i].frames.length ≤ 1000) ∧ (lvRun h n c j).twins.length ≤ 800000) := by
          refine ⟨⟨?_, fun i hi => ?_⟩, ?_⟩
          · show ((lvIn (mvM h n c)).pages.set 0 _).length ≤ 1000
            rw [List.length_set, pages_in, List.length_replicate]
            omega
          · have hi' : i < ((lvIn (mvM h n c)).pages.set 0 ⟨(h.calls.getD j Cl.none).sender, [⟨j, (j : Int)⟩]⟩).length := hi
            show ((lvIn (mvM h n c)).pages.set 0 ⟨(h.calls.getD j Cl.none).sender, [⟨j, (j : Int)⟩]⟩)[i].frames.length ≤ 1000
            by_cases e : 0 = i
            · subst e
              simp
            · rw [List.getElem_set_ne e]
              simp [lvIn, mvM, pgIn]
          · show ((lvIn (mvM h n c)).twins.set j _).length ≤ 800000
            rw [List.length_set, twins_in]
            omega
        have y2 := y6.cell 2 rfl
        have y3 := y6.cell 3 rfl
        have y4 := y6.cell 4 rfl
        have z2 := hb2.size
        have hWL : w.heap.size + 2 < W3.heap.size := hr3l
        have HCL : Hid (∀ X, Below W2.heap.size W2 X → Calls Tryz.prog 34 #[.slice aD h.said.length kD] X fun e w' => ∃ v', e = .returned v' ∧ PairRow X.heap.size w' v' h.said ∧ Below X.heap.size X w') := fun X hX => clone_big _ _ X ((HHH.out.s.below hb2).below hX) hsd
        have HMC : Hid (∀ X, Below W2.heap.size W2 X → ∀ v, OpsAt X v h.said → Calls Tryz.prog 33 #[.pointer (some ⟨bl, 0, none⟩), .int .i64 h.born, v, .int .i64 h.code] X fun e w' => ∃ v1 v3, e = .returned (.agg (mcCells v1 (.slice ao (ordTo n n).length co) v3 v (outM (lvRun h n c j) h.born h.said h.code)).toArray) ∧ MachOut ⟨bl, vpp, .slice ao (ordTo n n).length co, bm, F9, D, T, lvRun h n c j⟩ X.heap.size w' v1 v3 ∧ Below X.heap.size X w') := fun X hX v hv => mach_own (hL2.below hX) hwf8 HFEW.out.1 HFEW.out.2 h.born h.code v h.said hv
        have hPN : (lvRun h n c j).pages.length ≤ 1000 := HFEW.out.1.1
        have HJ : Hid (h.now = (j : Int)) := hj
        clear hj y8
        go_wp2_with fail
        refine wp_region_fu [[], [], [1], [], [3], [3, 4], [], [6], [0, 1, 2, 3, 4, 5, 6, 7], [0, 1, 2, 3, 4, 5, 6, 7, 8], [0, 1, 2, 3, 4, 5, 6, 7, 8, 9]] [[0], [1], [2], [3], [4], [5], [6], [7], [5, 8], [], []] [[], [], [], [], [], [], [], [], [], [], []] [fIs (.pointer (some ⟨bl, 0, none⟩)), fIs (.pointer (some ⟨(w.heap.size + 1), 2, none⟩)), fIs (.int .i64 h.born), fIs (.pointer (some ⟨(w.heap.size + 1), 3, none⟩)), fIs (.slice aD h.said.length kD), fGh 5 (fun (x : Option Addr × Nat) l => l = [.slice x.1 h.said.length x.2]) (fun x w1 => PairRow W2.heap.size w1 (.slice x.1 h.said.length x.2) h.said), fIs (.pointer (some ⟨(w.heap.size + 1), 4, none⟩)), fIs (.int .i64 h.code), fGh 8 (fun (x : (Option Addr × Nat) × (Option Addr × Nat) × (Option Addr × Nat)) l => l = [.slice x.1.1 h.said.length x.1.2, .agg #[.int .i64 c, .slice x.2.1.1 (lvRun h n c j).pages.length x.2.1.2, .slice ao (ordTo n n).length co, .int .i64 0, .slice x.2.2.1 (lvRun h n c j).twins.length x.2.2.2, .int .i64 h.born, .slice x.1.1 h.said.length x.1.2, .int .i64 h.code]]) (fun x w1 => ∃ X, W2.heap.size ≤ X ∧ (∀ g, (Value.slice x.1.1 h.said.length x.1.2).ownBlock = some g → g < X) ∧ MachOut ⟨bl, vpp, .slice ao (ordTo n n).length co, bm, F9, D, T, lvRun h n c j⟩ X w1 (.slice x.2.1.1 (lvRun h n c j).pages.length x.2.1.2) (.slice x.2.2.1 (lvRun h n c j).twins.length x.2.2.2)), fOf fun _ => True, fOf fun _ => True] 9 1 rfl (by kernel_rfl) (by kernel_rfl) (by kernel_rfl) (by kernel_rfl) ?_ ?_
        · refine all_lt_succ (all_lt_succ (all_lt_succ (all_lt_succ (all_lt_succ (all_lt_succ (all_lt_succ (all_lt_succ (all_lt_succ (all_lt_zero) ?_) ?_) ?_) ?_) ?_) ?_) ?_) ?_) ?_
          · intro a wS val own hB hf hown hk
            have s13 := hf.at (d := 13) (v := .pointer (some ⟨bl, 0, none⟩)) (by kernel_rfl) rfl
            exact rf_pure (v := .pointer (some ⟨bl, 0, none⟩)) hB rfl rfl (by unfold execOp; go_simp) rfl
          · intro a wS val own hB hf hown hk
            have s5 := hf.at (d := 5) (v := .pointer (some ⟨(w.heap.size + 1), 0, none⟩)) (by kernel_rfl) rfl
            exact rf_pure (v := .pointer (some ⟨(w.heap.size + 1), 2, none⟩)) hB rfl rfl (by unfold execOp; go_simp) rfl
          · intro a wS val own hB hf hown hk
            obtain ⟨k1, f1⟩ := hk 1 (show 1 ∈ [1] by decide)
            have s55 := k1 55 rfl
            rw [fIs_out f1] at s55
            clear k1 f1
            have cy2 := cell_below hB y2
            exact rf_pure (v := .int .i64 h.born) hB rfl rfl (by unfold execOp; go_simp) rfl
          · intro a wS val own hB hf hown hk
            have s5 := hf.at (d := 5) (v := .pointer (some ⟨(w.heap.size + 1), 0, none⟩)) (by kernel_rfl) rfl
            exact rf_pure (v := .pointer (some ⟨(w.heap.size + 1), 3, none⟩)) hB rfl rfl (by unfold execOp; go_simp) rfl
          · intro a wS val own hB hf hown hk
            obtain ⟨k3, f3⟩ := hk 3 (show 3 ∈ [3] by decide)
            have s57 := k3 57 rfl
            rw [fIs_out f3] at s57
            clear k3 f3
            have cy3 := cell_below hB y3
            exact rf_pure (v := .slice aD h.said.length kD) hB rfl rfl (by unfold execOp; go_simp) rfl
          · intro a wS val own hB hf hown hk
            obtain ⟨k4, f4⟩ := hk 4 (show 4 ∈ [3, 4] by decide)
            have s58 := k4 58 rfl
            rw [fIs_out f4] at s58
            clear k4 f4
            have hzB := hB.size
            refine rf_call hB rfl rfl (by unfold execOp; go_simp) ((HCL.out wS hB).mono ?_)
            rintro e w' ⟨v1, rfl, r1, hb'⟩
            obtain ⟨a0, c0, e0, _⟩ := r1.slice
            subst e0
            refine ⟨_, rfl, hb', (a0, c0), rfl, Made.new fun w1 hs hbw hr => ?_⟩
            exact (r1.kept hs fun g e => hr g (r1.lt g e).1 (r1.lt g e).2).mono hzB
          · intro a wS val own hB hf hown hk
            have s5 := hf.at (d := 5) (v := .pointer (some ⟨(w.heap.size + 1), 0, none⟩)) (by kernel_rfl) rfl
            exact rf_pure (v := .pointer (some ⟨(w.heap.size + 1), 4, none⟩)) hB rfl rfl (by unfold execOp; go_simp) rfl
          · intro a wS val own hB hf hown hk
            obtain ⟨k6, f6⟩ := hk 6 (show 6 ∈ [6] by decide)
            have s60 := k6 60 rfl
            rw [fIs_out f6] at s60
            clear k6 f6
            have cy4 := cell_below hB y4
            exact rf_pure (v := .int .i64 h.code) hB rfl rfl (by unfold execOp; go_simp) rfl
          · intro a wS val own hB hf hown hk
            obtain ⟨k0, f0⟩ := hk 0 (show 0 ∈ [0, 1, 2, 3, 4, 5, 6, 7] by decide)
            have s54 := k0 54 rfl
            rw [fIs_out f0] at s54
            clear k0 f0
            obtain ⟨k2, f2⟩ := hk 2 (show 2 ∈ [0, 1, 2, 3, 4, 5, 6, 7] by decide)
            have s56 := k2 56 rfl
            rw [fIs_out f2] at s56
            clear k2 f2
            obtain ⟨kc, xc, ec, mc⟩ := hk 5 (show 5 ∈ [0, 1, 2, 3, 4, 5, 6, 7] by decide)
            have vc := one_eq ec
            have s59 := kc 59 rfl
            rw [vc] at s59
            have rc := mc.here hB
            clear kc ec mc
            obtain ⟨k7, f7⟩ := hk 7 (show 7 ∈ [0, 1, 2, 3, 4, 5, 6, 7] by decide)
            have s61 := k7 61 rfl
            rw [fIs_out f7] at s61
            clear k7 f7
            have hzB := hB.size
            refine rf_call hB rfl rfl (by unfold execOp; go_simp) ((HMC.out wS hB _ rc.at).mono ?_)
            rintro e w' ⟨v1, v3, rfl, r1, hb'⟩
            obtain ⟨⟨m1, c1, e1⟩, m3, c3, e3⟩ := r1.slices
            subst e1 e3
            refine ⟨_, rfl, hb', (xc, (m1, c1), (m3, c3)), by show [val 5, _] = _; rw [vc]; rfl, Made.new fun w1 hs hbw hr => ?_⟩
            exact ⟨wS.heap.size, hzB, fun g e => (rc.lt g e).2, r1.kept hs hr⟩
        intro aE w10 val own hB hf hown hk
        obtain ⟨kc, xc, ec, mc⟩ := hk 5 (by decide)
        have vc := one_eq ec
        have rc := mc.here hB
        clear kc ec mc
        obtain ⟨kd, xd, ed, md⟩ := hk 8 (by decide)
        have ed' : [val 5, val 8] = _ := ed
        injection ed' with ed1 ed2
        have vd := one_eq ed2
        rw [vc] at ed1
        have s62 := kd 62 rfl
        rw [vd] at s62
        have mo0 := md.here hB
        clear kd ed ed2 vd md vc
        obtain ⟨⟨y1', y2'⟩, ⟨m1, c1⟩, m3, c3⟩ := xd
        obtain ⟨x1, x2⟩ := xc
        dsimp only at ed1 mo0 rc
        dsimp only at s62
        injection ed1 with e1 _ e2
        subst e1 e2
        obtain ⟨X, hX1, hX2, mo⟩ := mo0
        have hB0 : Below W2.heap.size W2 w10 := hB
        have hz0' := hB0.size
        have hL10 := hL2.below hB0
        have hb3 : Below w.heap.size w w10 := hb2.trans (hB0.mono z2)
        have hr3 := hr2.below hB0
        have hrl := hr2.lt
        obtain ⟨⟨r0, r1', r2', r3, r4, r5, r6, r7⟩, ⟨g0, g1, g2, g3, g4, g5, g6, g7⟩⟩ := bx8 hr3
        have HE : Hid (Below w.heap.size w ((((((((w10.setCell ⟨w.heap.size + 2, 0, none⟩ (.int .i64 c)).setCell ⟨w.heap.size + 2, 1, none⟩ (.slice m1 (lvRun h n c j).pages.length c1)).setCell ⟨w.heap.size + 2, 2, none⟩ (.slice ao (ordTo n n).length co)).setCell ⟨w.heap.size + 2, 3, none⟩ (.int .i64 0)).setCell ⟨w.heap.size + 2, 4, none⟩ (.slice m3 (lvRun h n c j).twins.length c3)).setCell ⟨w.heap.size + 2, 5, none⟩ (.int .i64 h.born)).setCell ⟨w.heap.size + 2, 6, none⟩ (.slice x1 h.said.length x2)).setCell ⟨w.heap.size + 2, 7, none⟩ (.int .i64 h.code)) ∧ Bx ((((((((w10.setCell ⟨w.heap.size + 2, 0, none⟩ (.int .i64 c)).setCell ⟨w.heap.size + 2, 1, none⟩ (.slice m1 (lvRun h n c j).pages.length c1)).setCell ⟨w.heap.size + 2, 2, none⟩ (.slice ao (ordTo n n).length co)).setCell ⟨w.heap.size + 2, 3, none⟩ (.int .i64 0)).setCell ⟨w.heap.size + 2, 4, none⟩ (.slice m3 (lvRun h n c j).twins.length c3)).setCell ⟨w.heap.size + 2, 5, none⟩ (.int .i64 h.born)).setCell ⟨w.heap.size + 2, 6, none⟩ (.slice x1 h.said.length x2)).setCell ⟨w.heap.size + 2, 7, none⟩ (.int .i64 h.code)) (w.heap.size + 2) 36 [.int .i64 c, .slice m1 (lvRun h n c j).pages.length c1, .slice ao (ordTo n n).length co, .int .i64 0, .slice m3 (lvRun h n c j).twins.length c3, .int .i64 h.born, .slice x1 h.said.length x2, .int .i64 h.code] ∧ w10.heap.size ≤ ((((((((w10.setCell ⟨w.heap.size + 2, 0, none⟩ (.int .i64 c)).setCell ⟨w.heap.size + 2, 1, none⟩ (.slice m1 (lvRun h n c j).pages.length c1)).setCell ⟨w.heap.size + 2, 2, none⟩ (.slice ao (ordTo n n).length co)).setCell ⟨w.heap.size + 2, 3, none⟩ (.int .i64 0)).setCell ⟨w.heap.size + 2, 4, none⟩ (.slice m3 (lvRun h n c j).twins.length c3)).setCell ⟨w.heap.size + 2, 5, none⟩ (.int .i64 h.born)).setCell ⟨w.heap.size + 2, 6, none⟩ (.slice x1 h.said.length x2)).setCell ⟨w.heap.size + 2, 7, none⟩ (.int .i64 h.code)).heap.size ∧ ∀ g, g ≠ w.heap.size + 2 → ((((((((w10.setCell ⟨w.heap.size + 2, 0, none⟩ (.int .i64 c)).setCell ⟨w.heap.size + 2, 1, none⟩ (.slice m1 (lvRun h n c j).pages.length c1)).setCell ⟨w.heap.size + 2, 2, none⟩ (.slice ao (ordTo n n).length co)).setCell ⟨w.heap.size + 2, 3, none⟩ (.int .i64 0)).setCell ⟨w.heap.size + 2, 4, none⟩ (.slice m3 (lvRun h n c j).twins.length c3)).setCell ⟨w.heap.size + 2, 5, none⟩ (.int .i64 h.born)).setCell ⟨w.heap.size + 2, 6, none⟩ (.slice x1 h.said.length x2)).setCell ⟨w.heap.size + 2, 7, none⟩ (.int .i64 h.code)).heap[g]? = w10.heap[g]?) := by
          have HW := ((((((((Wr.refl1 (w.heap.size + 2) w10).set1 (o := 0) (.int .i64 c)).set1 (o := 1) (.slice m1 (lvRun h n c j).pages.length c1)).set1 (o := 2) (.slice ao (ordTo n n).length co)).set1 (o := 3) (.int .i64 0)).set1 (o := 4) (.slice m3 (lvRun h n c j).twins.length c3)).set1 (o := 5) (.int .i64 h.born)).set1 (o := 6) (.slice x1 h.said.length x2)).set1 (o := 7) (.int .i64 h.code)
          exact ⟨HW.below1 hb3 (Nat.le_refl _) (Nat.le_add_right _ _), (((((((hr3.set 0 _).set 1 _).set 2 _).set 3 _).set 4 _).set 5 _).set 6 _).set 7 _, by simp only [World.size_setCell]; exact Nat.le_refl _, fun g hg => (Below.heap_setCell _ ⟨w.heap.size + 2, 7, none⟩ _ _ hg).trans ((Below.heap_setCell _ ⟨w.heap.size + 2, 6, none⟩ _ _ hg).trans ((Below.heap_setCell _ ⟨w.heap.size + 2, 5, none⟩ _ _ hg).trans ((Below.heap_setCell _ ⟨w.heap.size + 2, 4, none⟩ _ _ hg).trans ((Below.heap_setCell _ ⟨w.heap.size + 2, 3, none⟩ _ _ hg).trans ((Below.heap_setCell _ ⟨w.heap.size + 2, 2, none⟩ _ _ hg).trans ((Below.heap_setCell _ ⟨w.heap.size + 2, 1, none⟩ _ _ hg).trans (Below.heap_setCell _ ⟨w.heap.size + 2, 0, none⟩ _ _ hg)))))))⟩
        have hu := frame_sets hf [54, 55, 56, 57, 58, 59, 60, 61, 62] (by kernel_rfl)
        dsimp only at hu
        simp only [List.foldl_cons, List.foldl_nil, List.setIfInBounds_toArray, List.set_cons_succ, List.set_cons_zero] at hu
        rw [s62] at hu
        generalize aE.tmps[54]?.getD undef = u54 at hu
        generalize aE.tmps[55]?.getD undef = u55 at hu
        generalize aE.tmps[56]?.getD undef = u56 at hu
        generalize aE.tmps[57]?.getD undef = u57 at hu
        generalize aE.tmps[58]?.getD undef = u58 at hu
        generalize aE.tmps[59]?.getD undef = u59 at hu
        generalize aE.tmps[60]?.getD undef = u60 at hu
        generalize aE.tmps[61]?.getD undef = u61 at hu
        obtain rfl := act_eq hu (show aE.defers = [] from hf.defers)
        clear hu hk hown hf hr3 s62
        refine wpOp_skip (w' := ((((((((w10.setCell ⟨w.heap.size + 2, 0, none⟩ (.int .i64 c)).setCell ⟨w.heap.size + 2, 1, none⟩ (.slice m1 (lvRun h n c j).pages.length c1)).setCell ⟨w.heap.size + 2, 2, none⟩ (.slice ao (ordTo n n).length co)).setCell ⟨w.heap.size + 2, 3, none⟩ (.int .i64 0)).setCell ⟨w.heap.size + 2, 4, none⟩ (.slice m3 (lvRun h n c j).twins.length c3)).setCell ⟨w.heap.size + 2, 5, none⟩ (.int .i64 h.born)).setCell ⟨w.heap.size + 2, 6, none⟩ (.slice x1 h.said.length x2)).setCell ⟨w.heap.size + 2, 7, none⟩ (.int .i64 h.code))) rfl rfl (by unfold execOp; go_simp) ?_
        simp only [Act.put]
        refine wpOp_val (v := .bool true) (w' := ((((((((w10.setCell ⟨w.heap.size + 2, 0, none⟩ (.int .i64 c)).setCell ⟨w.heap.size + 2, 1, none⟩ (.slice m1 (lvRun h n c j).pages.length c1)).setCell ⟨w.heap.size + 2, 2, none⟩ (.slice ao (ordTo n n).length co)).setCell ⟨w.heap.size + 2, 3, none⟩ (.int .i64 0)).setCell ⟨w.heap.size + 2, 4, none⟩ (.slice m3 (lvRun h n c j).twins.length c3)).setCell ⟨w.heap.size + 2, 5, none⟩ (.int .i64 h.born)).setCell ⟨w.heap.size + 2, 6, none⟩ (.slice x1 h.said.length x2)).setCell ⟨w.heap.size + 2, 7, none⟩ (.int .i64 h.code))) rfl rfl (by unfold execOp; go_simp) ?_
        simp only [Act.put]
        clear r0 r1' r2' r3 r4 r5 r6 r7 g0 g1 g2 g3 g4 g5 g6 g7 hB
        refine ex_gen (fun W9 => Below w.heap.size w W9 ∧ Bx W9 (w.heap.size + 2) 36 [.int .i64 c, .slice m1 (lvRun h n c j).pages.length c1, .slice ao (ordTo n n).length co, .int .i64 0, .slice m3 (lvRun h n c j).twins.length c3, .int .i64 h.born, .slice x1 h.said.length x2, .int .i64 h.code] ∧ w10.heap.size ≤ W9.heap.size ∧ ∀ g, g ≠ w.heap.size + 2 → W9.heap[g]? = w10.heap[g]?) HE.out ?_
        rintro W9 ⟨k1, k2, k3, k4⟩
        clear HE
        obtain ⟨⟨q0, q1, q2, q3, q4, q5, q6, q7⟩, _⟩ := bx8 k2
        have hL9 := hL10.from k3 fun g h1 h2 => k4 g (by omega)
        have mo9 := mo.kept k3 fun g h1 h2 => k4 g (by omega)
        have rc9 := rc.kept k3 fun g e => k4 g (by have := (rc.lt g e).1; omega)
        go_wp2
        exact bodyPost_ret (v := .tuple #[.agg #[.int .i64 c, .slice m1 (lvRun h n c j).pages.length c1, .slice ao (ordTo n n).length co, .int .i64 0, .slice m3 (lvRun h n c j).twins.length c3, .int .i64 h.born, .slice x1 h.said.length x2, .int .i64 h.code], .bool true]) (by simp [results, Tryz.results9, go_sem, q0, q1, q2, q3, q4, q5, q6, q7]) rfl ⟨k1, .slice m1 (lvRun h n c j).pages.length c1, .slice ao (ordTo n n).length co, .slice m3 (lvRun h n c j).twins.length c3, .slice x1 h.said.length x2, by rw [← HEQ.out]; rfl, _, _, _, W2.heap.size, X, by have := hbw.size; omega, z2, hL9, hL2.lts, hwf8, hPN, rfl, mo9, rc9, hX1, hX2, HEQ.out, .inr ⟨j, hjl, HJ.out, rfl⟩⟩
end Go.Proofs.YtmifhlkcceafkaaGreat
