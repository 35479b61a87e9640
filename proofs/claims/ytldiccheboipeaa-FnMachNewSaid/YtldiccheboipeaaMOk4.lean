/-
  Pieces of the program's MachOk: whether a frame, a twin, a page is in form. (Written by mkmo4.py.)
-/
import Derived.Test.YtldiccheboipeaaMOk3
namespace Go.Proofs.Ytldiccheboipeaa
open Go.RowKit

/-- a frame as a call that nobody called -/
def frCl (f : Fr) : Cl := ⟨f.m, f.pc, f.temps, f.stack, -1, false⟩
/-- whether frame k of page i is in form, and its twin tells it -/
def frameB (ms : List (Int × Int × List (Int × Int))) (m : Mc) (i k : Nat) (f : Fr) : Bool :=
  clOk ms m.twins.length (frCl f) && (f.twin == -1 || (inR f.twin 0 ((m.twins.length : Int) - 1) && ((twAt m f.twin).page == (i : Int) && (twAt m f.twin).place == (k : Int))))


set_option maxRecDepth 100000 in
set_option maxHeartbeats 4000000 in
theorem frameOk_any (vq : Value) (ms : List (Int × Int × List (Int × Int))) (vp vo vt vs : Value) (m : Mc) (i k : Nat) (w : World) (hq : MethsAt w vq ms) (h : MachAt w vp vo vt vs m) (hops : ∀ i, (h : i < ms.length) → ms[i].2.2.length ≤ 1000000) (hi : i < m.pages.length) (hk : k < m.pages[i].frames.length) (F : Fr) (hF0 : m.pages[i].frames[k] = F) :
    Calls Try.prog 90 #[.agg #[vq], .agg (mcCells vp vo vt vs m).toArray, .int .i64 (i : Int), .int .i64 (k : Int)] w fun e w' => e = .returned (.bool (frameB ms m i k F)) ∧ Below w.heap.size w w' := by
  have HF : Hid (m.pages[i].frames[k] = F) := hF0
  clear hF0
  have HOPS : Hid (∀ i, (h : i < ms.length) → ms[i].2.2.length ≤ 1000000) := hops
  clear hops
  have htm : m.twins.length ≤ maxLen := by obtain ⟨_, _, _, hl, _⟩ := id h.t; exact hl
  obtain ⟨aq, cq, hvq, hlq, hcq⟩ := id hq
  subst hvq
  obtain ⟨ap, cp, hvp, hlp, hcp⟩ := id h.p
  obtain ⟨ao, co, hvo, hlo, hco⟩ := id h.o
  obtain ⟨at', ct, hvt, hlt', hct⟩ := id h.t
  obtain ⟨as', cs, hvs⟩ := h.s.shape
  subst hvp hvo hvt hvs
  unfold mcCells
  go_enter Try.func90, Try.ntmps90
  go_upto_region 1 with fail
  refine wp_gen (fun W => Below w.heap.size w W ∧ Bx W w.heap.size 25 [.slice aq ms.length cq] ∧ Bx W (w.heap.size + 1) 33 [.int .i64 m.cells, .slice ap m.pages.length cp, .slice ao m.order.length co, .int .i64 m.now, .slice at' m.twins.length ct, .int .i64 m.born, .slice as' m.said.length cs, .int .i64 m.code]) ⟨((Below.refl _ _).alloc (Nat.le_refl _) _).alloc (by simp) _, (Bx.new w _ _).alloc _, Bx.newAt _ _ _ (by simp)⟩ ?_
  rintro W ⟨hb, hx, hm⟩
  have x0 := hx.cell 0 rfl
  obtain ⟨⟨m0, m1, m2, m3, m4, m5, m6, m7⟩, _⟩ := bx8 hm
  obtain ⟨bp, op, vf, hap, hpg⟩ := hcp i hi
  subst hap
  obtain ⟨af, cf, hvf, _, hcf⟩ := id hpg.f
  obtain ⟨bf, of, vt1, vs1, haf, hfr⟩ := hcf k hk
  subst haf
  have g1 := cell_below hb hpg.c1
  rw [hvf] at g1
  obtain ⟨nf, hnf⟩ : ∃ nf, m.pages[i].frames.length = nf := ⟨_, rfl⟩
  rw [HF.out] at hfr
  rw [hnf] at g1
  obtain ⟨d0, d1, d2, d3, d4, dt, ds⟩ := hfr.below hb
  obtain ⟨a1, k1, e1⟩ := dt.shape
  obtain ⟨a2, k2, e2⟩ := ds.shape
  rw [e1] at d3 dt
  rw [e2] at d4 ds
  have hiz : (i : Int) < (m.pages.length : Int) := by omega
  have hkz : (k : Int) < (nf : Int) := by omega
  have hkn : k < nf := by omega
  have zb := hb.size
  clear hcp hpg hvf hcf hfr HF e1 e2
  have HK0 : Hid (m.pages[i].frames.length = nf) := hnf
  clear hnf hk
  go_upto_region 2 with fail
  refine wp_gen (fun W' => Below W.heap.size W W' ∧ Bx W' W.heap.size 53 [.int .i64 F.m, .int .i64 F.pc, .int .i64 F.twin, .slice a1 F.temps.length k1, .slice a2 F.stack.length k2]) ⟨(Below.refl _ _).alloc (Nat.le_refl _) _, Bx.new _ _ _⟩ ?_
  rintro W2 ⟨t2, y2⟩
  have hb2 := hb.trans (t2.mono zb)
  have hm2 := hm.below t2
  have hx2 := hx.below t2
  have z2 := hb2.size
  have dt2 := dt.below t2
  have ds2 := ds.below t2
  clear hb hm hx t2 zb d0 d1 d2 d3 d4 dt ds m0 m1 m2 m3 m4 m5 m6 m7 x0 g1
  obtain ⟨⟨m0, m1, m2, m3, m4, m5, m6, m7⟩, _⟩ := bx8 hm2
  have x0 := hx2.cell 0 rfl
  have y0 := y2.cell 0 rfl
  have y1 := y2.cell 1 rfl
  have y2' := y2.cell 2 rfl
  have y3 := y2.cell 3 rfl
  have y4 := y2.cell 4 rfl
  obtain ⟨f, hf⟩ : ∃ f, clOk ms m.twins.length (frCl F) = f := ⟨_, rfl⟩
  have HC := implCallOk_any _ _ _ ms (frCl F) m.twins.length W2 (hq.below hb2) (show OpsAt W2 (.slice a1 F.temps.length k1) (frCl F).temps from dt2) (show OpsAt W2 (.slice a2 F.stack.length k2) (frCl F).stack from ds2) htm HOPS.out
  rw [hf] at HC
  unfold clCells frCl at HC
  go_wp2_with fail
  refine HC.mono ?_
  rintro e W3 ⟨rfl, t3⟩
  have hb3 := hb2.trans (t3.mono z2)
  have hm3 := hm2.below t3
  have y3r := y2.below t3
  clear HC t3 hm2 hx2 y2 hb2 z2 dt2 ds2 m0 m1 m2 m3 m4 m5 m6 m7 x0 y0 y1 y2' y3 y4
  cases f
  · have HE : Hid (frameB ms m i k F = false) := by show _ = _; unfold frameB; rw [hf]; rfl
    go_wp2
    go_ret
    exact ⟨ret_bool HE.out.symm, hb3⟩
  have HE0 : Hid (frameB ms m i k F = (F.twin == -1 || (inR F.twin 0 ((m.twins.length : Int) - 1) && ((twAt m F.twin).page == (i : Int) && (twAt m F.twin).place == (k : Int))))) := by show _ = _; unfold frameB; rw [hf]; rfl
  clear hf
  have y2' := y3r.cell 2 rfl
  obtain ⟨⟨m0, m1, m2, m3, m4, m5, m6, m7⟩, _⟩ := bx8 hm3
  by_cases htw1 : F.twin = -1
  · have HE : Hid (frameB ms m i k F = true) := by rw [HE0.out, htw1]; rfl
    rw [htw1] at y2'
    go_wp2
    go_ret
    exact ⟨ret_bool HE.out.symm, hb3⟩
  have hte : (F.twin == -1) = false := by simpa using htw1
  obtain ⟨f, hf⟩ : ∃ f, inR F.twin 0 ((m.twins.length : Int) - 1) = f := ⟨_, rfl⟩
  have HP := isPlace_any F.twin m.twins.length W3
  rw [hf] at HP
  go_wp2_with fail
  refine HP.mono ?_
  rintro e W4 ⟨rfl, hw⟩
  obtain rfl := hw.symm
  clear hw HP
  cases f
  · have HE : Hid (frameB ms m i k F = false) := by rw [HE0.out, hte, hf]; rfl
    go_wp2
    go_ret
    exact ⟨ret_bool HE.out.symm, hb3⟩
  obtain ⟨j, hj, hjl⟩ := tw_of hf
  rw [hte, hf, hj, twAt_at hjl] at HE0
  rw [hj] at y2' hte
  obtain ⟨b, o, vt, vs, hat, htw⟩ := hct j hjl
  subst hat
  obtain ⟨c0, c1, _, _, _, _, _, _, _, _⟩ := htw.below hb3
  have hjz : (j : Int) < (m.twins.length : Int) := by omega
  have HE1 : Hid (frameB ms m i k F = (m.twins[j].page == (i : Int) && m.twins[j].place == (k : Int))) := by rw [HE0.out]; rfl
  clear HE0 hf hct htw hj htw1
  obtain ⟨pgv, hpgv⟩ : ∃ x, m.twins[j].page = x := ⟨_, rfl⟩
  obtain ⟨plv, hplv⟩ : ∃ x, m.twins[j].place = x := ⟨_, rfl⟩
  rw [hpgv] at c0 HE1
  rw [hplv] at c1 HE1
  clear hpgv hplv
  by_cases hpp : pgv = (i : Int)
  · rw [hpp] at c0
    have HE : Hid (frameB ms m i k F = (plv == (k : Int))) := by show _ = _; rw [HE1.out, hpp]; simp
    go_wp2
    go_ret
    exact ⟨ret_bool HE.out.symm, hb3⟩
  · have hpf : (pgv == (i : Int)) = false := by simpa using hpp
    have HE : Hid (frameB ms m i k F = false) := by rw [HE1.out, hpf]; rfl
    go_wp2
    go_ret
    exact ⟨ret_bool HE.out.symm, hb3⟩


def Fr.none : Fr := ⟨0, 0, -1, [], []⟩
/-- a frame at a place -/
def frAt (m : Mc) (i k : Int) : Fr := (pgAt m i).frames.getD k.toNat Fr.none
theorem frAt_at {m : Mc} {i k : Nat} (hi : i < m.pages.length) (hk : k < m.pages[i].frames.length) : frAt m (i : Int) (k : Int) = m.pages[i].frames[k] := by unfold frAt; rw [pgAt_at hi]; simp [hk]
theorem fr_of {m : Mc} {i k : Int} (h : frB m i k = true) : ∃ (a b : Nat) (ha : a < m.pages.length), i = (a : Int) ∧ k = (b : Int) ∧ b < m.pages[a].frames.length := by
  unfold frB at h
  obtain ⟨h1, h2⟩ := Bool.and_eq_true_iff.1 h
  obtain ⟨a, rfl, ha⟩ := pg_of h1
  rw [pgAt_at ha] at h2
  have h3 := inR_true.1 h2
  obtain ⟨b, rfl⟩ := Int.eq_ofNat_of_zero_le h3.1
  exact ⟨a, b, ha, rfl, rfl, by omega⟩

/-- whether twin j is told by its frame, or what is left of it is in form -/
def twinB (ms : List (Int × Int × List (Int × Int))) (m : Mc) (j : Nat) (t : Tw) : Bool :=
  if t.page = -1 then t.place == 0 && clOk ms m.twins.length t.left else frB m t.page t.place && ((frAt m t.page t.place).twin == (j : Int) && emptyB t.left)

set_option maxRecDepth 100000 in
set_option maxHeartbeats 4000000 in
theorem twinOk_any (vq : Value) (ms : List (Int × Int × List (Int × Int))) (vp vo vt vs : Value) (m : Mc) (j : Nat) (w : World) (hq : MethsAt w vq ms) (h : MachAt w vp vo vt vs m) (hops : ∀ i, (h : i < ms.length) → ms[i].2.2.length ≤ 1000000) (hj : j < m.twins.length) (T : Tw) (hT0 : m.twins[j] = T) :
    Calls Try.prog 49 #[.agg #[vq], .agg (mcCells vp vo vt vs m).toArray, .int .i64 (j : Int)] w fun e w' => e = .returned (.bool (twinB ms m j T)) ∧ Below w.heap.size w w' := by
  have HT : Hid (m.twins[j] = T) := hT0
  clear hT0
  have HOPS : Hid (∀ i, (h : i < ms.length) → ms[i].2.2.length ≤ 1000000) := hops
  clear hops
  have htm : m.twins.length ≤ maxLen := by obtain ⟨_, _, _, hl, _⟩ := id h.t; exact hl
  obtain ⟨aq, cq, hvq, hlq, hcq⟩ := id hq
  subst hvq
  obtain ⟨ap, cp, hvp, hlp, hcp⟩ := id h.p
  obtain ⟨ao, co, hvo, hlo, hco⟩ := id h.o
  obtain ⟨at', ct, hvt, hlt', hct⟩ := id h.t
  obtain ⟨as', cs, hvs⟩ := h.s.shape
  subst hvp hvo hvt hvs
  unfold mcCells
  go_enter Try.func49, Try.ntmps49
  go_upto_region 1 with fail
  refine wp_gen (fun W => Below w.heap.size w W ∧ Bx W w.heap.size 25 [.slice aq ms.length cq] ∧ Bx W (w.heap.size + 1) 33 [.int .i64 m.cells, .slice ap m.pages.length cp, .slice ao m.order.length co, .int .i64 m.now, .slice at' m.twins.length ct, .int .i64 m.born, .slice as' m.said.length cs, .int .i64 m.code]) ⟨((Below.refl _ _).alloc (Nat.le_refl _) _).alloc (by simp) _, (Bx.new w _ _).alloc _, Bx.newAt _ _ _ (by simp)⟩ ?_
  rintro W ⟨hb, hx, hm⟩
  have x0 := hx.cell 0 rfl
  obtain ⟨⟨m0, m1, m2, m3, m4, m5, m6, m7⟩, _⟩ := bx8 hm
  obtain ⟨b, o, vt, vs, hat, htw⟩ := hct j hj
  subst hat
  rw [HT.out] at htw
  obtain ⟨d0, d1, d2, d3, d4, d5, d6, d7, dt, ds⟩ := htw.below hb
  obtain ⟨a1, k1, e1⟩ := dt.shape
  obtain ⟨a2, k2, e2⟩ := ds.shape
  rw [e1] at d4 dt
  rw [e2] at d5 ds
  have hjz : (j : Int) < (m.twins.length : Int) := by omega
  have zb := hb.size
  clear hct htw e1 e2 HT
  go_upto_region 2 with fail
  refine wp_gen (fun W' => Below W.heap.size W W' ∧ Bx W' W.heap.size 90 [.int .i64 T.page, .int .i64 T.place, .int .i64 T.left.m, .int .i64 T.left.pc, .slice a1 T.left.temps.length k1, .slice a2 T.left.stack.length k2, .int .i64 T.left.sender, .bool T.left.dead]) ⟨(Below.refl _ _).alloc (Nat.le_refl _) _, Bx.new _ _ _⟩ ?_
  rintro W2 ⟨t2, y2⟩
  have hb2 := hb.trans (t2.mono zb)
  have hm2 := hm.below t2
  have hx2 := hx.below t2
  have z2 := hb2.size
  have dt2 := dt.below t2
  have ds2 := ds.below t2
  clear hb hm hx t2 zb d0 d1 d2 d3 d4 d5 d6 d7 dt ds m0 m1 m2 m3 m4 m5 m6 m7 x0
  obtain ⟨⟨m0, m1, m2, m3, m4, m5, m6, m7⟩, _⟩ := bx8 hm2
  obtain ⟨⟨y0, y1, y2', y3, y4, y5, y6, y7⟩, _⟩ := bx8 y2
  have x0 := hx2.cell 0 rfl
  by_cases hp : T.page = -1
  · have HE0 : Hid (twinB ms m j T = (T.place == 0 && clOk ms m.twins.length T.left)) := by show _ = _; unfold twinB; rw [if_pos hp]
    rw [hp] at y0
    by_cases hz : T.place = 0
    · have HE : Hid (twinB ms m j T = clOk ms m.twins.length T.left) := by rw [HE0.out, hz]; rfl
      rw [hz] at y1
      have HC := implCallOk_any _ _ _ ms T.left m.twins.length W2 (hq.below hb2) dt2 ds2 htm HOPS.out
      unfold clCells at HC
      go_wp2_with fail
      refine HC.mono ?_
      rintro e W3 ⟨rfl, t3⟩
      have hb3 := hb2.trans (t3.mono z2)
      go_wp2
      go_ret
      exact ⟨ret_bool HE.out.symm, hb3⟩
    · have hze : (T.place == 0) = false := by simpa using hz
      have HE : Hid (twinB ms m j T = false) := by rw [HE0.out, hze]; rfl
      go_wp2
      go_ret
      exact ⟨ret_bool HE.out.symm, hb2⟩
  have hpe : (T.page == -1) = false := by simpa using hp
  have HE0 : Hid (twinB ms m j T = (frB m T.page T.place && ((frAt m T.page T.place).twin == (j : Int) && emptyB T.left))) := by show _ = _; unfold twinB; rw [if_neg hp]
  go_upto_region 4 with fail
  have L0 := Gr.cell m0
  have L1 := Gr.cell m1
  have L2 := Gr.cell m2
  have L3 := Gr.cell m3
  have L4 := Gr.cell m4
  have L5 := Gr.cell m5
  have L6 := Gr.cell m6
  have L7 := Gr.cell m7
  have Y0 := Gr.cell y0
  have Y1 := Gr.cell y1
  have Y2 := Gr.cell y2'
  have Y3 := Gr.cell y3
  have Y4 := Gr.cell y4
  have Y5 := Gr.cell y5
  have Y6 := Gr.cell y6
  have Y7 := Gr.cell y7
  obtain ⟨f, hf⟩ : ∃ f, frB m T.page T.place = f := ⟨_, rfl⟩
  have HI := quiet_of_below (W := W2) fun W' (hW : Below W2.heap.size W2 W') => isFrame_any _ _ _ _ m T.page T.place W' ((h.below hb2).below hW)
  rw [hf] at HI
  unfold mcCells at HI
  cases f
  · have HE : Hid (twinB ms m j T = false) := by rw [HE0.out, hf]; rfl
    clear HE0 hf
    refine WQ.region (by kernel_rfl) (by kernel_rfl) ?_
    iterate 28 (refine WQ.step (fun K hK => ?_); go_simp; first
      | (with_reducible refine hK _ ?_; clear hK K)
      | (with_reducible refine quiet_eq ?_; refine hK _ ?_; clear hK K)
      | (simp (contextual := true) only [L0, L1, L2, L3, L4, L5, L6, L7, Y0, Y1, Result.andThen_ok, true_and]; with_reducible refine quiet_eq ?_; refine hK _ ?_; clear hK K)
      | (with_reducible refine quiet_call HI ?_; refine hK _ ?_; clear hK K))
    refine WQ.nil ?_
    intro W3 hG3
    have hb3 := hb2.trans (hG3.to.mono z2)
    clear hG3 HI L0 L1 L2 L3 L4 L5 L6 L7 Y0 Y1 Y2 Y3 Y4 Y5 Y6 Y7
    go_wp2
    go_ret
    exact ⟨ret_bool HE.out.symm, hb3⟩
  obtain ⟨i, k, hi, hie, hke, hk⟩ := fr_of hf
  obtain ⟨bp, op, vf, hap, hpg⟩ := hcp i hi
  subst hap
  obtain ⟨af, cf, hvf, _, hcf⟩ := id hpg.f
  obtain ⟨bf, of, vt1, vs1, haf, hfr⟩ := hcf k hk
  subst haf
  have g1 := Gr.cell (cell_below hb2 hpg.c1)
  rw [hvf] at g1
  have q2 := Gr.cell (cell_below hb2 hfr.c2)
  rw [hie, hke, frAt_at hi hk] at HE0
  rw [hie, hke] at hf HI
  rw [hie] at Y0 hpe
  rw [hke] at Y1
  have hiz : (i : Int) < (m.pages.length : Int) := by omega
  have hkz : (k : Int) < (m.pages[i].frames.length : Int) := by omega
  obtain ⟨nf, hnf⟩ : ∃ nf, m.pages[i].frames.length = nf := ⟨_, rfl⟩
  rw [hnf] at g1 hkz
  have hkn : k < nf := by omega
  obtain ⟨tv, htv⟩ : ∃ tv, m.pages[i].frames[k].twin = tv := ⟨_, rfl⟩
  rw [htv] at q2 HE0
  clear hcp hpg hvf hcf hfr hnf hie hke htv hk y0 y1 y2' y3 y4 y5 y6 y7 m0 m1 m2 m3 m4 m5 m6 m7
  by_cases htj : tv = (j : Int)
  · have HE : Hid (twinB ms m j T = emptyB T.left) := by show _ = _; rw [HE0.out, hf, htj]; simp
    rw [htj] at q2
    have HM := quiet_of_below (W := W2) fun W' (hW : Below W2.heap.size W2 W') => isEmptyCall_any T.left _ _ W' (dt2.below hW) (ds2.below hW)
    clear HE0 hf
    refine WQ.region (by kernel_rfl) (by kernel_rfl) ?_
    iterate 28 (refine WQ.step (fun K hK => ?_); go_simp; first
      | (with_reducible refine hK _ ?_; clear hK K)
      | (with_reducible refine quiet_eq ?_; refine hK _ ?_; clear hK K)
      | (simp (contextual := true) only [L0, L1, L2, L3, L4, L5, L6, L7, Y0, Y1, Y2, Y3, Y4, Y5, Y6, Y7, g1, q2, Result.andThen_ok, true_and]; with_reducible refine quiet_eq ?_; refine hK _ ?_; clear hK K)
      | (with_reducible refine quiet_call HI ?_; refine hK _ ?_; clear hK K)
      | (with_reducible refine quiet_call HM ?_; refine hK _ ?_; clear hK K))
    refine WQ.nil ?_
    intro W3 hG3
    have hb3 := hb2.trans (hG3.to.mono z2)
    clear hG3 HI HM L0 L1 L2 L3 L4 L5 L6 L7 Y0 Y1 Y2 Y3 Y4 Y5 Y6 Y7 g1 q2
    go_wp2
    go_ret
    exact ⟨ret_bool HE.out.symm, hb3⟩
  · have hte : (tv == (j : Int)) = false := by simpa using htj
    have HE : Hid (twinB ms m j T = false) := by show _ = _; rw [HE0.out, hte]; simp
    clear HE0 hf
    refine WQ.region (by kernel_rfl) (by kernel_rfl) ?_
    iterate 28 (refine WQ.step (fun K hK => ?_); go_simp; first
      | (with_reducible refine hK _ ?_; clear hK K)
      | (with_reducible refine quiet_eq ?_; refine hK _ ?_; clear hK K)
      | (simp (contextual := true) only [L0, L1, L2, L3, L4, L5, L6, L7, Y0, Y1, g1, q2, Result.andThen_ok, true_and]; with_reducible refine quiet_eq ?_; refine hK _ ?_; clear hK K)
      | (with_reducible refine quiet_call HI ?_; refine hK _ ?_; clear hK K))
    refine WQ.nil ?_
    intro W3 hG3
    have hb3 := hb2.trans (hG3.to.mono z2)
    clear hG3 HI L0 L1 L2 L3 L4 L5 L6 L7 Y0 Y1 Y2 Y3 Y4 Y5 Y6 Y7 g1 q2
    go_wp2
    go_ret
    exact ⟨ret_bool HE.out.symm, hb3⟩


end Go.Proofs.Ytldiccheboipeaa
