/-
  Pieces of the program's MachOk: whether a frame, a twin, a page is in form. (Written by mkmo4.py.)
-/
import Derived.Test.YtldiccheboipeaaVSpec2
import Derived.Test.YtldiccheboipeaaHImpl4
import Derived.Test.YtldiccheboipeaaImplOk
import Derived.Deep.QuietTactic
import Derived.Deep.RegionHeld3

namespace Go.Proofs.Ytldiccheboipeaa
open Go.RowKit
def frCl (f : Fr) : Cl := ⟨f.m, f.pc, f.temps, f.stack, -1, false⟩
def frameB (ms : List (Int × Int × List (Int × Int))) (m : Mc) (i k : Nat) (f : Fr) : Bool :=
  clOk ms m.twins.length (frCl f) && (f.twin == -1 || (inR f.twin 0 ((m.twins.length : Int) - 1) && ((twAt m f.twin).page == (i : Int) && (twAt m f.twin).place == (k : Int))))
set_option maxRecDepth 100000 in
set_option maxHeartbeats 4000000 in
theorem frameOk_any (vq : Value) (ms : List (Int × Int × List (Int × Int))) (vp vo vt vs : Value) (m : Mc) (i k : Nat) (w : World) (hq : MethsAt w vq ms) (h : MachAt w vp vo vt vs m) (hops : ∀ i, (h : i < ms.length) → ms[i].2.2.length ≤ 1000000) (hi : i < m.pages.length) (hk : k < m.pages[i].frames.length) (F : Fr) (hF0 : m.pages[i].frames[k] = F) :
    Calls Try.prog 90 #[.agg #[vq], .agg (mcCells vp vo vt vs m).toArray, .int .i64 (i : Int), .int .i64 (k : Int)] w fun e w' => e = .returned (.bool (frameB ms m i k F)) ∧ Below w.heap.size w w' := by
  have HF : Hid (m.pages[i].frames[k] = F) := hF0
  clear hF0
  have HOPS : Hid (∀ i, (h : i < ms.length) → ms[i].2.2.length ≤ 1000000) := hops
  clear hops
  have htm : m.twins.length ≤ maxLen := by obtain ⟨_, _, _, hl, _⟩ := id h.t; exact hl
  obtain ⟨aq, cq, hvq, hlq, hcq⟩ := id hq
  subst hvq
  obtain ⟨ap, cp, hvp, hlp, hcp⟩ := id h.p
  obtain ⟨ao, co, hvo, hlo, hco⟩ := id h.o
  obtain ⟨at', ct, hvt, hlt', hct⟩ := id h.t
  obtain ⟨as', cs, hvs⟩ := h.s.shape
  subst hvp hvo hvt hvs
  unfold mcCells
  go_enter Try.func90, Try.ntmps90
  go_upto_region 1 with fail
  refine wp_gen (fun W => Below w.heap.size w W ∧ Bx W w.heap.size 25 [.slice aq ms.length cq] ∧ Bx W (w.heap.size + 1) 33 [.int .i64 m.cells, .slice ap m.pages.length cp, .slice ao m.order.length co, .int .i64 m.now, .slice at' m.twins.length ct, .int .i64 m.born, .slice as' m.said.length cs, .int .i64 m.code]) ⟨((Below.refl _ _).alloc (Nat.le_refl _) _).alloc (by simp) _, (Bx.new w _ _).alloc _, Bx.newAt _ _ _ (by simp)⟩ ?_
  rintro W ⟨hb, hx, hm⟩
  have x0 := hx.cell 0 rfl
  obtain ⟨⟨m0, m1, m2, m3, m4, m5, m6, m7⟩, _⟩ := bx8 hm
  obtain ⟨bp, op, vf, hap, hpg⟩ := hcp i hi
  subst hap
  obtain ⟨af, cf, hvf, _, hcf⟩ := id hpg.f
  obtain ⟨bf, of, vt1, vs1, haf, hfr⟩ := hcf k hk
  subst haf
  have g1 := cell_below hb hpg.c1
  rw [hvf] at g1
  obtain ⟨nf, hnf⟩ : ∃ nf, m.pages[i].frames.length = nf := ⟨_, rfl⟩
  rw [HF.out] at hfr
  rw [hnf] at g1
  obtain ⟨d0, d1, d2, d3, d4, dt, ds⟩ := hfr.below hb
  obtain ⟨a1, k1, e1⟩ := dt.shape
  obtain ⟨a2, k2, e2⟩ := ds.shape
  rw [e1] at d3 dt
  rw [e2] at d4 ds
  have hiz : (i : Int) < (m.pages.length : Int) := by omega
  have hkz : (k : Int) < (nf : Int) := by omega
  have hkn : k < nf := by omega
  have zb := hb.size
  clear hcp hpg hvf hcf hfr HF e1 e2
  have HK0 : Hid (m.pages[i].frames.length = nf) := hnf
  clear hnf hk
  go_upto_region 2 with fail
  refine wp_gen (fun W' => Below W.heap.size W W' ∧ Bx W' W.heap.size 53 [.int .i64 F.m, .int .i64 F.pc, .int .i64 F.twin, .slice a1 F.temps.length k1, .slice a2 F.stack.length k2]) ⟨(Below.refl _ _).alloc (Nat.le_refl _) _, Bx.new _ _ _⟩ ?_
  rintro W2 ⟨t2, y2⟩
  have hb2 := hb.trans (t2.mono zb)
  have hm2 := hm.below t2
  have hx2 := hx.below t2
  have z2 := hb2.size
  have dt2 := dt.below t2
  have ds2 := ds.below t2
  clear hb hm hx t2 zb d0 d1 d2 d3 d4 dt ds m0 m1 m2 m3 m4 m5 m6 m7 x0 g1
  obtain ⟨⟨m0, m1, m2, m3, m4, m5, m6, m7⟩, _⟩ := bx8 hm2
  have x0 := hx2.cell 0 rfl
  have y0 := y2.cell 0 rfl
  have y1 := y2.cell 1 rfl
  have y2' := y2.cell 2 rfl
  have y3 := y2.cell 3 rfl
  have y4 := y2.cell 4 rfl
  obtain ⟨f, hf⟩ : ∃ f, clOk ms m.twins.length (frCl F) = f := ⟨_, rfl⟩
  have HC := implCallOk_any _ _ _ ms (frCl F) m.twins.length W2 (hq.below hb2) (show OpsAt W2 (.slice a1 F.temps.length k1) (frCl F).temps from dt2) (show OpsAt W2 (.slice a2 F.stack.length k2) (frCl F).stack from ds2) htm HOPS.out
  rw [hf] at HC
  unfold clCells frCl at HC
  go_wp2_with fail
  refine HC.mono ?_
  rintro e W3 ⟨rfl, t3⟩
  have hb3 := hb2.trans (t3.mono z2)
  have hm3 := hm2.below t3
  have y3r := y2.below t3
  clear HC t3 hm2 hx2 y2 hb2 z2 dt2 ds2 m0 m1 m2 m3 m4 m5 m6 m7 x0 y0 y1 y2' y3 y4
  cases f
  · have HE : Hid (frameB ms m i k F = false) := by show _ = _; unfold frameB; rw [hf]; rfl
    go_wp2
    go_ret
    exact ⟨ret_bool HE.out.symm, hb3⟩
  have HE0 : Hid (frameB ms m i k F = (F.twin == -1 || (inR F.twin 0 ((m.twins.length : Int) - 1) && ((twAt m F.twin).page == (i : Int) && (twAt m F.twin).place == (k : Int))))) := by show _ = _; unfold frameB; rw [hf]; rfl
  clear hf
  have y2' := y3r.cell 2 rfl
  obtain ⟨⟨m0, m1, m2, m3, m4, m5, m6, m7⟩, _⟩ := bx8 hm3
  by_cases htw1 : F.twin = -1
  · have HE : Hid (frameB ms m i k F = true) := by rw [HE0.out, htw1]; rfl
    rw [htw1] at y2'
    go_wp2
    go_ret
    exact ⟨ret_bool HE.out.symm, hb3⟩
  have hte : (F.twin == -1) = false := by simpa using htw1
  obtain ⟨f, hf⟩ : ∃ f, inR F.twin 0 ((m.twins.length : Int) - 1) = f := ⟨_, rfl⟩
  have HP := isPlace_any F.twin m.twins.length W3
  rw [hf] at HP
  go_wp2_with fail
  refine HP.mono ?_
  rintro e W4 ⟨rfl, hw⟩
  obtain rfl := hw.symm
  clear hw HP
  cases f
  · have HE : Hid (frameB ms m i k F = false) := by rw [HE0.out, hte, hf]; rfl
    go_wp2
    go_ret
    exact ⟨ret_bool HE.out.symm, hb3⟩
  obtain ⟨j, hj, hjl⟩ := tw_of hf
  rw [hte, hf, hj, twAt_at hjl] at HE0
  rw [hj] at y2' hte
  obtain ⟨b, o, vt, vs, hat, htw⟩ := hct j hjl
  subst hat
  obtain ⟨c0, c1, _, _, _, _, _, _, _, _⟩ := htw.below hb3
  have hjz : (j : Int) < (m.twins.length : Int) := by omega
  have HE1 : Hid (frameB ms m i k F = (m.twins[j].page == (i : Int) && m.twins[j].place == (k : Int))) := by rw [HE0.out]; rfl
  clear HE0 hf hct htw hj htw1
  obtain ⟨pgv, hpgv⟩ : ∃ x, m.twins[j].page = x := ⟨_, rfl⟩
  obtain ⟨plv, hplv⟩ : ∃ x, m.twins[j].place = x := ⟨_, rfl⟩
  rw [hpgv] at c0 HE1
  rw [hplv] at c1 HE1
  clear hpgv hplv
  by_cases hpp : pgv = (i : Int)
  · rw [hpp] at c0
    have HE : Hid (frameB ms m i k F = (plv == (k : Int))) := by show _ = _; rw [HE1.out, hpp]; simp
    go_wp2
    go_ret
    exact ⟨ret_bool HE.out.symm, hb3⟩
  · have hpf : (pgv == (i : Int)) = false := by simpa using hpp
    have HE : Hid (frameB ms m i k F = false) := by rw [HE1.out, hpf]; rfl
    go_wp2
    go_ret
    exact ⟨ret_bool HE.out.symm, hb3⟩
def Fr.none : Fr := ⟨0, 0, -1, [], []⟩
def frAt (m : Mc) (i k : Int) : Fr := (pgAt m i).frames.getD k.toNat Fr.none
theorem frAt_at {m : Mc} {i k : Nat} (hi : i < m.pages.length) (hk : k < m.pages[i].frames.length) : frAt m (i : Int) (k : Int) = m.pages[i].frames[k] := by unfold frAt; rw [pgAt_at hi]; simp [hk]
theorem fr_of {m : Mc} {i k : Int} (h : frB m i k = true) : ∃ (a b : Nat) (ha : a < m.pages.length), i = (a : Int) ∧ k = (b : Int) ∧ b < m.pages[a].frames.length := by
  unfold frB at h
  obtain ⟨h1, h2⟩ := Bool.and_eq_true_iff.1 h
  obtain ⟨a, rfl, ha⟩ := pg_of h1
  rw [pgAt_at ha] at h2
  have h3 := inR_true.1 h2
  obtain ⟨b, rfl⟩ := Int.eq_ofNat_of_zero_le h3.1
  exact ⟨a, b, ha, rfl, rfl, by omega⟩
def twinB (ms : List (Int × Int × List (Int × Int))) (m : Mc) (j : Nat) (t : Tw) : Bool :=
  if t.page = -1 then t.place == 0 && clOk ms m.twins.length t.left else frB m t.page t.place && ((frAt m t.page t.place).twin == (j : Int) && emptyB t.left)
set_option maxRecDepth 100000 in
set_option maxHeartbeats 4000000 in
theorem twinOk_any (vq : Value) (ms : List (Int × Int × List (Int × Int))) (vp vo vt vs : Value) (m : Mc) (j : Nat) (w : World) (hq : MethsAt w vq ms) (h : MachAt w vp vo vt vs m) (hops : ∀ i, (h : i < ms.length) → ms[i].2.2.length ≤ 1000000) (hj : j < m.twins.length) (T : Tw) (hT0 : m.twins[j] = T) :
    Calls Try.prog 49 #[.agg #[vq], .agg (mcCells vp vo vt vs m).toArray, .int .i64 (j : Int)] w fun e w' => e = .returned (.bool (twinB ms m j T)) ∧ Below w.heap.size w w' := by
  have HT : Hid (m.twins[j] = T) := hT0
  clear hT0
  have HOPS : Hid (∀ i, (h : i < ms.length) → ms[i].2.2.length ≤ 1000000) := hops
  clear hops
  have htm : m.twins.length ≤ maxLen := by obtain ⟨_, _, _, hl, _⟩ := id h.t; exact hl
  obtain ⟨aq, cq, hvq, hlq, hcq⟩ := id hq
  subst hvq
  obtain ⟨ap, cp, hvp, hlp, hcp⟩ := id h.p
  obtain ⟨ao, co, hvo, hlo, hco⟩ := id h.o
  obtain ⟨at', ct, hvt, hlt', hct⟩ := id h.t
  obtain ⟨as', cs, hvs⟩ := h.s.shape
  subst hvp hvo hvt hvs
  unfold mcCells
  go_enter Try.func49, Try.ntmps49
  go_upto_region 1 with fail
  refine wp_gen (fun W => Below w.heap.size w W ∧ Bx W w.heap.size 25 [.slice aq ms.length cq] ∧ Bx W (w.heap.size + 1) 33 [.int .i64 m.cells, .slice ap m.pages.length cp, .slice ao m.order.length co, .int .i64 m.now, .slice at' m.twins.length ct, .int .i64 m.born, .slice as' m.said.length cs, .int .i64 m.code]) ⟨((Below.refl _ _).alloc (Nat.le_refl _) _).alloc (by simp) _, (Bx.new w _ _).alloc _, Bx.newAt _ _ _ (by simp)⟩ ?_
  rintro W ⟨hb, hx, hm⟩
  have x0 := hx.cell 0 rfl
  obtain ⟨⟨m0, m1, m2, m3, m4, m5, m6, m7⟩, _⟩ := bx8 hm
  obtain ⟨b, o, vt, vs, hat, htw⟩ := hct j hj
  subst hat
  rw [HT.out] at htw
  obtain ⟨d0, d1, d2, d3, d4, d5, d6, d7, dt, ds⟩ := htw.below hb
  obtain ⟨a1, k1, e1⟩ := dt.shape
  obtain ⟨a2, k2, e2⟩ := ds.shape
  rw [e1] at d4 dt
  rw [e2] at d5 ds
  have hjz : (j : Int) < (m.twins.length : Int) := by omega
  have zb := hb.size
  clear hct htw e1 e2 HT
  go_upto_region 2 with fail
  refine wp_gen (fun W' => Below W.heap.size W W' ∧ Bx W' W.heap.size 90 [.int .i64 T.page, .int .i64 T.place, .int .i64 T.left.m, .int .i64 T.left.pc, .slice a1 T.left.temps.length k1, .slice a2 T.left.stack.length k2, .int .i64 T.left.sender, .bool T.left.dead]) ⟨(Below.refl _ _).alloc (Nat.le_refl _) _, Bx.new _ _ _⟩ ?_
  rintro W2 ⟨t2, y2⟩
  have hb2 := hb.trans (t2.mono zb)
  have hm2 := hm.below t2
  have hx2 := hx.below t2
  have z2 := hb2.size
  have dt2 := dt.below t2
  have ds2 := ds.below t2
  clear hb hm hx t2 zb d0 d1 d2 d3 d4 d5 d6 d7 dt ds m0 m1 m2 m3 m4 m5 m6 m7 x0
  obtain ⟨⟨m0, m1, m2, m3, m4, m5, m6, m7⟩, _⟩ := bx8 hm2
  obtain ⟨⟨y0, y1, y2', y3, y4, y5, y6, y7⟩, _⟩ := bx8 y2
  have x0 := hx2.cell 0 rfl
  by_cases hp : T.page = -1
  · have HE0 : Hid (twinB ms m j T = (T.place == 0 && clOk ms m.twins.length T.left)) := by show _ = _; unfold twinB; rw [if_pos hp]
    rw [hp] at y0
    by_cases hz : T.place = 0
    · have HE : Hid (twinB ms m j T = clOk ms m.twins.length T.left) := by rw [HE0.out, hz]; rfl
      rw [hz] at y1
      have HC := implCallOk_any _ _ _ ms T.left m.twins.length W2 (hq.below hb2) dt2 ds2 htm HOPS.out
      unfold clCells at HC
      go_wp2_with fail
      refine HC.mono ?_
      rintro e W3 ⟨rfl, t3⟩
      have hb3 := hb2.trans (t3.mono z2)
      go_wp2
      go_ret
      exact ⟨ret_bool HE.out.symm, hb3⟩
    · have hze : (T.place == 0) = false := by simpa using hz
      have HE : Hid (twinB ms m j T = false) := by rw [HE0.out, hze]; rfl
      go_wp2
      go_ret
      exact ⟨ret_bool HE.out.symm, hb2⟩
  have hpe : (T.page == -1) = false := by simpa using hp
  have HE0 : Hid (twinB ms m j T = (frB m T.page T.place && ((frAt m T.page T.place).twin == (j : Int) && emptyB T.left))) := by show _ = _; unfold twinB; rw [if_neg hp]
  go_upto_region 4 with fail
  have L0 := Gr.cell m0
  have L1 := Gr.cell m1
  have L2 := Gr.cell m2
  have L3 := Gr.cell m3
  have L4 := Gr.cell m4
  have L5 := Gr.cell m5
  have L6 := Gr.cell m6
  have L7 := Gr.cell m7
  have Y0 := Gr.cell y0
  have Y1 := Gr.cell y1
  have Y2 := Gr.cell y2'
  have Y3 := Gr.cell y3
  have Y4 := Gr.cell y4
  have Y5 := Gr.cell y5
  have Y6 := Gr.cell y6
  have Y7 := Gr.cell y7
  obtain ⟨f, hf⟩ : ∃ f, frB m T.page T.place = f := ⟨_, rfl⟩
  have HI := quiet_of_below (W := W2) fun W' (hW : Below W2.heap.size W2 W') => isFrame_any _ _ _ _ m T.page T.place W' ((h.below hb2).below hW)
  rw [hf] at HI
  unfold mcCells at HI
  cases f
  · have HE : Hid (twinB ms m j T = false) := by rw [HE0.out, hf]; rfl
    clear HE0 hf
    refine WQ.region (by kernel_rfl) (by kernel_rfl) ?_
    iterate 28 (refine WQ.step (fun K hK => ?_); go_simp; first
      | (with_reducible refine hK _ ?_; clear hK K)
      | (with_reducible refine quiet_eq ?_; refine hK _ ?_; clear hK K)
      | (simp (contextual := true) only [L0, L1, L2, L3, L4, L5, L6, L7, Y0, Y1, Result.andThen_ok, true_and]; with_reducible refine quiet_eq ?_; refine hK _ ?_; clear hK K)
      | (with_reducible refine quiet_call HI ?_; refine hK _ ?_; clear hK K))
    refine WQ.nil ?_
    intro W3 hG3
    have hb3 := hb2.trans (hG3.to.mono z2)
    clear hG3 HI L0 L1 L2 L3 L4 L5 L6 L7 Y0 Y1 Y2 Y3 Y4 Y5 Y6 Y7
    go_wp2
    go_ret
    exact ⟨ret_bool HE.out.symm, hb3⟩
  obtain ⟨i, k, hi, hie, hke, hk⟩ := fr_of hf
  obtain ⟨bp, op, vf, hap, hpg⟩ := hcp i hi
  subst hap
  obtain ⟨af, cf, hvf, _, hcf⟩ := id hpg.f
  obtain ⟨bf, of, vt1, vs1, haf, hfr⟩ := hcf k hk
  subst haf
  have g1 := Gr.cell (cell_below hb2 hpg.c1)
  rw [hvf] at g1
  have q2 := Gr.cell (cell_below hb2 hfr.c2)
  rw [hie, hke, frAt_at hi hk] at HE0
  rw [hie, hke] at hf HI
  rw [hie] at Y0 hpe
  rw [hke] at Y1
  have hiz : (i : Int) < (m.pages.length : Int) := by omega
  have hkz : (k : Int) < (m.pages[i].frames.length : Int) := by omega
  obtain ⟨nf, hnf⟩ : ∃ nf, m.pages[i].frames.length = nf := ⟨_, rfl⟩
  rw [hnf] at g1 hkz
  have hkn : k < nf := by omega
  obtain ⟨tv, htv⟩ : ∃ tv, m.pages[i].frames[k].twin = tv := ⟨_, rfl⟩
  rw [htv] at q2 HE0
  clear hcp hpg hvf hcf hfr hnf hie hke htv hk y0 y1 y2' y3 y4 y5 y6 y7 m0 m1 m2 m3 m4 m5 m6 m7
  by_cases htj : tv = (j : Int)
  · have HE : Hid (twinB ms m j T = emptyB T.left) := by show _ = _; rw [HE0.out, hf, htj]; simp
    rw [htj] at q2
    have HM := quiet_of_below (W := W2) fun W' (hW : Below W2.heap.size W2 W') => isEmptyCall_any T.left _ _ W' (dt2.below hW) (ds2.below hW)
    clear HE0 hf
    refine WQ.region (by kernel_rfl) (by kernel_rfl) ?_
    iterate 28 (refine WQ.step (fun K hK => ?_); go_simp; first
      | (with_reducible refine hK _ ?_; clear hK K)
      | (with_reducible refine quiet_eq ?_; refine hK _ ?_; clear hK K)
      | (simp (contextual := true) only [L0, L1, L2, L3, L4, L5, L6, L7, Y0, Y1, Y2, Y3, Y4, Y5, Y6, Y7, g1, q2, Result.andThen_ok, true_and]; with_reducible refine quiet_eq ?_; refine hK _ ?_; clear hK K)
      | (with_reducible refine quiet_call HI ?_; refine hK _ ?_; clear hK K)
      | (with_reducible refine quiet_call HM ?_; refine hK _ ?_; clear hK K))
    refine WQ.nil ?_
    intro W3 hG3
    have hb3 := hb2.trans (hG3.to.mono z2)
    clear hG3 HI HM L0 L1 L2 L3 L4 L5 L6 L7 Y0 Y1 Y2 Y3 Y4 Y5 Y6 Y7 g1 q2
    go_wp2
    go_ret
    exact ⟨ret_bool HE.out.symm, hb3⟩
  · have hte : (tv == (j : Int)) = false := by simpa using htj
    have HE : Hid (twinB ms m j T = false) := by show _ = _; rw [HE0.out, hte]; simp
    clear HE0 hf
    refine WQ.region (by kernel_rfl) (by kernel_rfl) ?_
    iterate 28 (refine WQ.step (fun K hK => ?_); go_simp; first
      | (with_reducible refine hK _ ?_; clear hK K)
      | (with_reducible refine quiet_eq ?_; refine hK _ ?_; clear hK K)
      | (simp (contextual := true) only [L0, L1, L2, L3, L4, L5, L6, L7, Y0, Y1, g1, q2, Result.andThen_ok, true_and]; with_reducible refine quiet_eq ?_; refine hK _ ?_; clear hK K)
      | (with_reducible refine quiet_call HI ?_; refine hK _ ?_; clear hK K))
    refine WQ.nil ?_
    intro W3 hG3
    have hb3 := hb2.trans (hG3.to.mono z2)
    clear hG3 HI L0 L1 L2 L3 L4 L5 L6 L7 Y0 Y1 Y2 Y3 Y4 Y5 Y6 Y7 g1 q2
    go_wp2
    go_ret
    exact ⟨ret_bool HE.out.symm, hb3⟩
end Go.Proofs.Ytldiccheboipeaa

/-
  What is seen of a heap, by the program: calls in the order in which they are come to (come, comeToVals, numberOf).
-/
namespace Go.Proofs.Ytldiccheboipeaa
open Go.RowKit
def tabN (n : Nat) (ps : List Nat) : List Int := (List.range n).map fun (p : Nat) => numOf ps p
theorem tabN_len (n : Nat) (ps : List Nat) : (tabN n ps).length = n := by simp [tabN]
theorem tabN_at (n : Nat) (ps : List Nat) (p : Nat) (h : p < (tabN n ps).length) : (tabN n ps)[p] = numOf ps p := by simp [tabN]
theorem tabN_snoc {n : Nat} {ps : List Nat} {p : Nat} (hp : p < n) (h : numOf ps p = -1) : (tabN n ps).set p (ps.length : Int) = tabN n (ps ++ [p]) := by
  refine List.ext_getElem (by simp [tabN]) fun i h1 h2 => ?_
  rw [tabN_at, numOf_snoc h]
  by_cases e : i = p
  · subst e; simp
  · rw [List.getElem_set_ne (Ne.symm e), tabN_at, if_neg (by omega)]
def two (x0 x1 : Value) : Nat → Value := fun i => if i = 0 then x0 else x1
theorem two_new (w : World) (t : TypeId) (x0 x1 : Value) : (w.alloc (.cells #[x0, x1] t)).rowIs w.heap.size t 2 (two x0 x1) :=
  ⟨_, Go.Deep.blk_alloc_new _ _, rfl, fun i hi => by match i, hi with | 0, _ => rfl | 1, _ => rfl⟩
theorem two_cells {w : World} {g : Nat} {t : TypeId} {x0 x1 : Value} (h : w.rowIs g t 2 (two x0 x1)) : (w.cell? ⟨g, 0, none⟩ = some x0 ∧ w.cell? ⟨g, 1, none⟩ = some x1) ∧ (w.frozen? ⟨g, 0, none⟩ = false ∧ w.frozen? ⟨g, 1, none⟩ = false) :=
  ⟨⟨h.cell (i := 0) (by decide), h.cell (i := 1) (by decide)⟩, h.frozen 0, h.frozen 1⟩
theorem two_set0 {w : World} {g : Nat} {t : TypeId} {x0 x1 : Value} (h : w.rowIs g t 2 (two x0 x1)) (v : Value) : (w.setCell ⟨g, 0, none⟩ v).rowIs g t 2 (two v x1) :=
  (h.set 0 v).congr fun i hi => by match i, hi with | 0, _ => rfl | 1, _ => rfl
structure Ord (A : Nat → Prop) (B bo n : Nat) (ps : List Nat) (vp vn : Value) (w : World) : Prop where
  le : B ≤ bo
  box : w.rowIs bo 99 2 (two vp vn)
  p : IntRow B w vp (nums ps)
  n : IntRow B w vn (tabN n ps)
  pb : vp.ownBlock ≠ some bo
  nb : vn.ownBlock ≠ some bo
  pn : ∀ g, vp.ownBlock = some g → vn.ownBlock ≠ some g
  av : ∀ g, A g → g ≠ bo ∧ g < w.heap.size ∧ vp.ownBlock ≠ some g ∧ vn.ownBlock ≠ some g
structure Came (A : Nat → Prop) (B : Nat) (w w' : World) : Prop where
  b : Below B w w'
  a : ∀ g, A g → w'.heap[g]? = w.heap[g]?
theorem Came.refl (A : Nat → Prop) (B : Nat) (w : World) : Came A B w w := ⟨Below.refl _ _, fun _ _ => rfl⟩
theorem Came.trans {A : Nat → Prop} {B : Nat} {a b c : World} (h : Came A B a b) (k : Came A B b c) : Came A B a c :=
  ⟨h.b.trans k.b, fun g hg => (k.a g hg).trans (h.a g hg)⟩
set_option maxRecDepth 100000 in
set_option maxHeartbeats 2000000 in
theorem come_any (A : Nat → Prop) (B bo n : Nat) (ps : List Nat) (vp vn : Value) (p : Int) (w : World) (h : Ord A B bo n ps vp vn w) (hps : PsOk n ps) (hn : n ≤ 1000) :
    Calls Try.prog 103 #[.pointer (some ⟨bo, 0, none⟩), .int .i64 p] w fun e w' => e = .returned (.tuple #[]) ∧ (∃ vp', Ord A B bo n (comeP n ps p) vp' vn w') ∧ Came A B w w' := by
  obtain ⟨ap, cp, hvp, _⟩ := h.p.slice
  obtain ⟨an, cn, hvn, _⟩ := h.n.slice
  rw [nums_len] at hvp
  rw [tabN_len] at hvn
  subst hvp hvn
  have hpl := hps.len
  obtain ⟨⟨x0, x1⟩, f0, f1⟩ := two_cells h.box
  by_cases hI : inR p 0 ((n : Int) - 1) = false
  · have hE : Hid (comeP n ps p = ps) := comeP_out (fun e => by have : inR p 0 ((n : Int) - 1) = true := inR_true.2 (by omega); rw [hI] at this; cases this)
    go_enter Try.func103, Try.ntmps103
    go_wp2_with (go_at_call 56; refine (isPlace_any _ _ _).mono ?_; rintro e w' ⟨rfl, hw⟩; obtain rfl := hw.symm; rw [hI])
    go_end0
    exact ⟨rfl, ⟨_, by rw [hE.out]; exact h⟩, Came.refl _ _ _⟩
  have hI' : inR p 0 ((n : Int) - 1) = true := by simpa using hI
  clear hI
  have hI2 := inR_true.1 hI'
  obtain ⟨k, rfl⟩ := Int.eq_ofNat_of_zero_le hI2.1
  have hk : k < n := by omega
  have hkz : (k : Int) < (n : Int) := by omega
  obtain ⟨gn, on, c1, e1, hgB, hgn⟩ := h.n.form (by rw [tabN_len]; omega)
  obtain rfl : an = some ⟨gn, on, none⟩ := by injection e1
  clear e1
  obtain ⟨d1, fd⟩ := h.n.cell (i := k) (by rw [tabN_len]; exact hk)
  rw [tabN_at] at d1
  by_cases hN : numOf ps k = -1
  · rw [hN] at d1
    have hE : Hid (comeP n ps k = ps ++ [k]) := comeP_yes hk hN
    have hset := h.n.set k (by rw [tabN_len]; exact hk) (ps.length : Int)
    rw [tabN_snoc hk hN] at hset
    have hpo := h.pn
    have hbn : bo ≠ gn := fun e => h.nb (by rw [e]; rfl)
    have HPB : Hid ((Value.slice ap ps.length cp).ownBlock ≠ some bo) := h.pb
    have hle := h.le
    have hp2 := h.p.set_other (p := ⟨gn, on + k, none⟩) (.int .i64 (ps.length : Int)) (fun e => hpo _ e rfl)
    have hbx2 : (w.setCell ⟨gn, on + k, none⟩ (.int .i64 (ps.length : Int))).rowIs bo 99 2 (two (.slice ap ps.length cp) (.slice (some ⟨gn, on, none⟩) n cn)) := h.box.of_block (Below.heap_setCell _ _ _ _ hbn)
    have HAV : Hid (∀ g, A g → g ≠ bo ∧ g < w.heap.size ∧ (Value.slice ap ps.length cp).ownBlock ≠ some g ∧ (Value.slice (some ⟨gn, on, none⟩) n cn).ownBlock ≠ some g) := h.av
    have C2 : Came A B w (w.setCell ⟨gn, on + k, none⟩ (.int .i64 (ps.length : Int))) := ⟨(Below.refl B w).setCell (p := ⟨gn, on + k, none⟩) hgB _, fun g hg => Below.heap_setCell _ _ _ _ (fun e => (h.av g hg).2.2.2 (by rw [e]; rfl))⟩
    have hz2 : (w.setCell ⟨gn, on + k, none⟩ (.int .i64 (ps.length : Int))).heap.size = w.heap.size := by simp [World.setCell]
    go_enter Try.func103, Try.ntmps103
    go_upto_region 1 with (go_at_call 56; refine (isPlace_any _ _ _).mono ?_; rintro e w' ⟨rfl, hw⟩; obtain rfl := hw.symm; rw [hI'])
    obtain ⟨⟨y0, y1⟩, g0, g1⟩ := two_cells hbx2
    go_region_held3 (fun w' => w'.cell? ⟨bo, 0, none⟩ = some (.slice ap ps.length cp) ∧ w'.cell? ⟨bo, 1, none⟩ = some (.slice (some ⟨gn, on, none⟩) n cn))
      (first | exact ⟨y0, y1⟩ | exact ⟨x0, x1⟩ | go_keep)
      (fail)
    have hset3 := hset.below (Below.refl _ _).drew
    have hp3 := hp2.below (Below.refl _ _).drew
    have hbx3 := row_below (Below.refl _ _).drew hbx2
    have C3 : Came A B w (w.setCell ⟨gn, on + k, none⟩ (.int .i64 (ps.length : Int))).drew := ⟨C2.b.drew, C2.a⟩
    have hz3 : (w.setCell ⟨gn, on + k, none⟩ (.int .i64 (ps.length : Int))).drew.heap.size ≥ w.heap.size := Nat.le_of_eq hz2.symm
    have HBO : Hid (bo < w.heap.size) := h.box.lt
    clear hset hp2 hbx2 C2 hz2 y0 y1 g0 g1 x0 x1 f0 f1 d1 fd h
    generalize (w.setCell ⟨gn, on + k, none⟩ (.int .i64 (ps.length : Int))).drew = w3 at *
    obtain ⟨⟨x0, x1⟩, f0, f1⟩ := two_cells hbx3
    have hbo := HBO.out
    go_wp2_with (at_builtin; refine append_i _ (by rfl) _ _ (by rfl) B _ (nums ps) (by rfl) hp3 (k : Int) _ _ rfl (by rfl) (by rw [nums_len]; omega) (by omega) ?_; intro g4 o4 c4 w4 hrow4 hg4 hb4 hlt4; have hbx4 := hbx3.of_block (hg4.block bo hbx3.lt (fun e => HPB.out e.symm)); obtain ⟨⟨q0, q1⟩, m0, m1⟩ := two_cells hbx4)
    have hz4 := hg4.size
    have hbg : g4 ≠ bo := fun e => by
      rcases hb4 with h4 | h4
      · exact HPB.out (by rw [h4, e])
      · omega
    rw [nums_snoc, ← hE.out] at hrow4
    have hset4 := hset3.kept hg4.size fun q e => hg4.block q (hset3.lt q e).2 (fun e2 => hpo q e2.symm e)
    refine bodyPost_end (results_none rfl _ _ _) rfl ⟨rfl, ⟨_, ⟨hle, two_set0 hbx4 _, hrow4.set_other _ (fun e => by simp [Value.ownBlock] at e; omega), ?_, fun e => by simp [Value.ownBlock] at e; omega, fun e => by simp [Value.ownBlock] at e; omega, fun q e e2 => ?_, fun q hq => ?_⟩⟩, ⟨?_, fun q hq => ?_⟩⟩
    · rw [← hE.out] at hset4
      exact hset4.set_other _ (fun e => by simp [Value.ownBlock] at e; omega)
    · simp [Value.ownBlock] at e e2
      subst e e2
      rcases hb4 with h4 | h4
      · exact hpo _ h4 rfl
      · omega
    · obtain ⟨a1, a2, a3, a4⟩ := HAV.out q hq
      refine ⟨a1, by simp [World.setCell]; omega, fun e => ?_, a4⟩
      simp [Value.ownBlock] at e
      subst e
      rcases hb4 with h4 | h4
      · exact a3 h4
      · omega
    · exact (C3.b.grown hg4 (by omega) (fun q e => (hp3.lt q e).1)).setCell (p := ⟨bo, 0, none⟩) hle _
    · obtain ⟨a1, a2, a3, a4⟩ := HAV.out q hq
      rw [Below.heap_setCell _ _ _ _ a1, hg4.block q (by omega) (fun e => a3 e.symm)]
      exact C3.a q hq
  · have hE : Hid (comeP n ps k = ps) := comeP_in hN
    go_enter Try.func103, Try.ntmps103
    go_wp2_with (go_at_call 56; refine (isPlace_any _ _ _).mono ?_; rintro e w' ⟨rfl, hw⟩; obtain rfl := hw.symm; rw [hI'])
    go_end0
    exact ⟨rfl, ⟨_, by rw [hE.out]; exact h⟩, Came.refl _ _ _⟩
end Go.Proofs.Ytldiccheboipeaa

/-
  What is seen of a heap, by the program: comeToVals, numberOf.
-/
namespace Go.Proofs.Ytldiccheboipeaa
open Go.RowKit
theorem Ord.alloc {A : Nat → Prop} {B bo n : Nat} {ps : List Nat} {vp vn : Value} {w : World} (h : Ord A B bo n ps vp vn w) (o : Obj) : Ord A B bo n ps vp vn (w.alloc o) :=
  have hb := (Below.refl w.heap.size w).alloc (Nat.le_refl _) o
  ⟨h.le, row_below hb h.box, h.p.below hb, h.n.below hb, h.pb, h.nb, h.pn, fun g hg => ⟨(h.av g hg).1, by have := (h.av g hg).2.1; simp; omega, (h.av g hg).2.2⟩⟩
theorem Came.alloc {A : Nat → Prop} {B : Nat} {w w' : World} (h : Came A B w w') (hb : B ≤ w'.heap.size) (hA : ∀ g, A g → g < w'.heap.size) (o : Obj) : Came A B w (w'.alloc o) :=
  ⟨h.b.alloc hb o, fun g hg => (Below.heap_alloc _ _ _ (hA g hg)).trans (h.a g hg)⟩
set_option maxRecDepth 100000 in
set_option maxHeartbeats 2000000 in
theorem comeToVals_any (A : Nat → Prop) (B bo n : Nat) (ps : List Nat) (vp vn vl : Value) (vals : List (Int × Int)) (w0 w : World) (h : Ord A B bo n ps vp vn w) (hps : PsOk n ps) (hn : n ≤ 1000) (hl : OpsAt w0 vl vals) (hb : Below w0.heap.size w0 w) (h0 : w0.heap.size ≤ B) :
    Calls Try.prog 104 #[.pointer (some ⟨bo, 0, none⟩), vl] w fun e w' => e = .returned (.tuple #[]) ∧ (∃ vp', Ord A B bo n (comeV n ps vals) vp' vn w') ∧ Came A B w w' := by
  obtain ⟨al, cl, rfl, hll, hc⟩ := hl
  unfold maxLen at hll
  go_enter Try.func104, Try.ntmps104
  go_wp2
  go_loopg [8] vals.length (fun g i wr => ∃ k : Nat, k ≤ vals.length ∧ g = vals.length - k ∧ i = .int .i64 k ∧ (∃ vp', Ord A B bo n (comeV n ps (vals.take k)) vp' vn wr) ∧ Came A B w wr)
  case atStart => exact ⟨0, Nat.zero_le _, rfl, rfl, ⟨vp, h⟩, Came.refl _ _ _⟩
  case round =>
    obtain ⟨k, hk, rfl, rfl, ⟨vp1, hO⟩, hC⟩ := hrel
    have hP : PsOk n (comeV n ps (vals.take k)) := hps.comeV _
    by_cases hlt : k < vals.length
    · obtain ⟨b, o, e1, c0, c1⟩ := hc k hlt
      subst e1
      have hb2 : Below w0.heap.size w0 wr := hb.trans (hC.b.mono h0)
      have d0 := cell_below hb2 c0
      have d1 := cell_below hb2 c1
      have hkz : (k : Int) < (vals.length : Int) := by omega
      have hst := comeV_step (n := n) (ps := ps) hlt
      have hOA := hO.alloc (.cells #[.int .i64 vals[k].1, .int .i64 vals[k].2] 130)
      have hCA := hC.alloc (Nat.le_trans hO.le (Nat.le_of_lt hO.box.lt)) (fun g hg => (hO.av g hg).2.1) (.cells #[.int .i64 vals[k].1, .int .i64 vals[k].2] 130)
      generalize hvk : vals[k] = x at *
      clear hvk c0 c1
      by_cases hkd : x.1 = 2
      · rw [if_pos hkd] at hst
        rw [hkd] at d0 hOA hCA
        have HST : Hid (comeV n ps (vals.take (k + 1)) = comeP n (comeV n ps (vals.take k)) x.2) := hst
        clear hst hO hC
        go_wp2_with fail
        refine (come_any A B bo n _ vp1 vn x.2 _ hOA hP hn).mono ?_
        rintro e w2 ⟨rfl, ⟨vp2, hO2⟩, hC2⟩
        have hC3 := hCA.trans hC2
        rw [← HST.out] at hO2
        clear hOA hCA hC2
        go_wp2
        go_roundg (vals.length - (k + 1))
        case measure => omega
        case rel => exact ⟨k + 1, by omega, rfl, by go_num, ⟨vp2, hO2⟩, hC3⟩
      · rw [if_neg hkd] at hst
        rw [← hst] at hOA
        clear hst hO hC
        go_wp2
        go_roundg (vals.length - (k + 1))
        case measure => omega
        case rel => exact ⟨k + 1, by omega, rfl, by go_num, ⟨vp1, hOA⟩, hCA⟩
    · obtain rfl : k = vals.length := by omega
      rw [List.take_length] at hO
      go_wp2
      go_end0
      exact ⟨rfl, ⟨vp1, hO⟩, hC⟩
set_option maxRecDepth 100000 in
set_option maxHeartbeats 2000000 in
theorem numberOf_any (A : Nat → Prop) (B bo n : Nat) (ps : List Nat) (vp vn : Value) (p : Int) (w : World) (h : Ord A B bo n ps vp vn w) (hps : PsOk n ps) (hn : n ≤ 1000) :
    Calls Try.prog 106 #[.pointer (some ⟨bo, 0, none⟩), .int .i64 p] w fun e w' => e = .returned (.int .i64 (numOf ps p)) ∧ w' = w := by
  obtain ⟨an, cn, hvn, _⟩ := h.n.slice
  rw [tabN_len] at hvn
  subst hvn
  obtain ⟨⟨x0, x1⟩, f0, f1⟩ := two_cells h.box
  by_cases hI : inR p 0 ((n : Int) - 1) = false
  · have hE : Hid (numOf ps p = -1) := numOf_none (fun i hi e => by
      have := hps.lt _ (List.getElem_mem hi)
      have h2 : inR p 0 ((n : Int) - 1) = true := inR_true.2 (by omega)
      rw [hI] at h2; cases h2)
    go_enter Try.func106, Try.ntmps106
    go_wp2_with (go_at_call 56; refine (isPlace_any _ _ _).mono ?_; rintro e w' ⟨rfl, hw⟩; obtain rfl := hw.symm; rw [hI])
    go_ret
    exact ⟨by rw [hE.out]; rfl, rfl⟩
  have hI' : inR p 0 ((n : Int) - 1) = true := by simpa using hI
  clear hI
  have hI2 := inR_true.1 hI'
  obtain ⟨k, rfl⟩ := Int.eq_ofNat_of_zero_le hI2.1
  have hk : k < n := by omega
  have hkz : (k : Int) < (n : Int) := by omega
  obtain ⟨gn, on, c1, e1, hgB, hgn⟩ := h.n.form (by rw [tabN_len]; omega)
  obtain rfl : an = some ⟨gn, on, none⟩ := by injection e1
  clear e1
  obtain ⟨d1, fd⟩ := h.n.cell (i := k) (by rw [tabN_len]; exact hk)
  rw [tabN_at] at d1
  go_enter Try.func106, Try.ntmps106
  go_wp2_with (go_at_call 56; refine (isPlace_any _ _ _).mono ?_; rintro e w' ⟨rfl, hw⟩; obtain rfl := hw.symm; rw [hI'])
  go_ret
  exact ⟨rfl, rfl⟩
end Go.Proofs.Ytldiccheboipeaa
