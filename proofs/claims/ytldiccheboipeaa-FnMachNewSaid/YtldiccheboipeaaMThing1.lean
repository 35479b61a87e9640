/-
  Where a machine's calls have their places as things of their own: ofFrame, ofTwin, ofCaller, ofRunning. (Written by mkmt1.py.)
-/
import Derived.Test.YtldiccheboipeaaMOk5
namespace Go.Proofs.Ytldiccheboipeaa
open Go.RowKit

/-- the places of a machine's calls, in memory -/
structure Pl (w : World) (vp vo vt vs vl : Value) (m : Mc) : Prop where
  mach : MachAt w vp vo vt vs m
  low : IntsAt w vl (lows m.pages)
  fn : framesN m.pages ≤ 1099511627776
  tn : m.twins.length ≤ 1099511627776

theorem Pl.below {w w' : World} {vp vo vt vs vl : Value} {m : Mc} (h : Pl w vp vo vt vs vl m) (hb : Below w.heap.size w w') : Pl w' vp vo vt vs vl m := ⟨h.mach.below hb, h.low.below hb, h.fn, h.tn⟩

/-- the place of a frame -/
def plFr (m : Mc) (i k : Int) : Int := (framesTo m.pages i.toNat : Int) + k
/-- the place of a twin -/
def plTw (m : Mc) (j : Int) : Int := if (twAt m j).page = -1 then (framesN m.pages : Int) + j else plFr m (twAt m j).page (twAt m j).place
/-- whether a twin is there, and where it says -/
def tellB (m : Mc) (j : Int) : Bool := inR j 0 ((m.twins.length : Int) - 1) && ((twAt m j).page == -1 || frB m (twAt m j).page (twAt m j).place)
/-- the place of who called -/
def plCa (m : Mc) (j : Int) : Int := if j = -1 then -1 else plTw m j

theorem frB_bound {m : Mc} {i k : Int} (h : frB m i k = true) : ∃ a : Nat, i = (a : Int) ∧ a < m.pages.length ∧ 0 ≤ k ∧ (framesTo m.pages a : Int) + k < (framesN m.pages : Int) := by
  obtain ⟨a, b, ha, rfl, rfl, hb⟩ := fr_of h
  refine ⟨a, rfl, ha, by omega, ?_⟩
  have h1 := framesTo_succ ha
  have h2 := framesTo_leN m.pages (k := a + 1) ha
  omega


set_option maxRecDepth 100000 in
set_option maxHeartbeats 4000000 in
theorem ofFrame_any (vp vo vt vs vl : Value) (m : Mc) (i : Nat) (k : Int) (w : World) (h : Pl w vp vo vt vs vl m) (hi : i < m.pages.length) (hk0 : -1 ≤ k) (hk1 : k ≤ 1099511627776) :
    Calls Try.prog 130 #[.agg (mcCells vp vo vt vs m ++ [vl, .int .i64 (framesN m.pages : Int)]).toArray, .int .i64 (i : Int), .int .i64 k] w fun e w' => e = .returned (.int .i64 (plFr m (i : Int) k)) ∧ Below w.heap.size w w' := by
  obtain ⟨hM, hL, hN, hTn⟩ := h
  obtain ⟨ap, cp, hvp, hlp, hcp⟩ := id hM.p
  obtain ⟨ao, co, hvo⟩ := hM.o.shape
  obtain ⟨at', ct, hvt, hlt', hct⟩ := id hM.t
  obtain ⟨as', cs, hvs⟩ := hM.s.shape
  obtain ⟨al, cl, hvl, hll, hcl⟩ := id hL
  subst hvp hvo hvt hvs hvl
  unfold mcCells
  simp only [List.cons_append, List.nil_append]
  go_enter Try.func130, Try.ntmps130
  go_upto_region 1 with fail
  refine wp_gen (fun W => Below w.heap.size w W ∧ Bx W w.heap.size 102 [.int .i64 m.cells, .slice ap m.pages.length cp, .slice ao m.order.length co, .int .i64 m.now, .slice at' m.twins.length ct, .int .i64 m.born, .slice as' m.said.length cs, .int .i64 m.code, .slice al (lows m.pages).length cl, .int .i64 (framesN m.pages : Int)]) ⟨(Below.refl _ _).alloc (Nat.le_refl _) _, Bx.new w _ _⟩ ?_
  rintro W ⟨hb, hx⟩
  obtain ⟨⟨x0, x1, x2, x3, x4, x5, x6, x7, x8, x9⟩, _⟩ := bx10 hx
  have hil : i < (lows m.pages).length := by rw [lows_length]; exact hi
  obtain ⟨b, o, hal, c0⟩ := hcl i hil
  subst hal
  have d0 := cell_below hb c0
  rw [lows_at] at d0
  have hiz : (i : Int) < ((lows m.pages).length : Int) := by omega
  have hfl := framesTo_leN m.pages (k := i) (by omega)
  have HE : Hid (plFr m (i : Int) k = (framesTo m.pages i : Int) + k) := by show _ = _; unfold plFr; rw [Int.toNat_natCast]
  obtain ⟨F, hF⟩ : ∃ F, framesTo m.pages i = F := ⟨_, rfl⟩
  rw [hF] at d0 HE hfl
  have hFb : F ≤ 1099511627776 := by omega
  clear hF hcl c0
  go_wp2
  go_ret
  exact ⟨ret_int HE.out.symm, hb⟩


set_option maxRecDepth 100000 in
set_option maxHeartbeats 4000000 in
theorem ofTwin_any (vp vo vt vs vl : Value) (m : Mc) (j : Int) (w : World) (h : Pl w vp vo vt vs vl m) (hj : tellB m j = true) :
    Calls Try.prog 133 #[.agg (mcCells vp vo vt vs m ++ [vl, .int .i64 (framesN m.pages : Int)]).toArray, .int .i64 j] w fun e w' => e = .returned (.int .i64 (plTw m j)) ∧ Below w.heap.size w w' := by
  unfold tellB at hj
  obtain ⟨hj1, hj2⟩ := Bool.and_eq_true_iff.1 hj
  obtain ⟨q, rfl, hq⟩ := tw_of hj1
  rw [twAt_at hq] at hj2
  have HE0 : Hid (plTw m (q : Int) = if m.twins[q].page = -1 then (framesN m.pages : Int) + (q : Int) else plFr m m.twins[q].page m.twins[q].place) := by show _ = _; unfold plTw; rw [twAt_at hq]
  have hPl := h
  clear hj hj1
  obtain ⟨hM, hL, hN, hTn⟩ := h
  obtain ⟨ap, cp, hvp, hlp, hcp⟩ := id hM.p
  obtain ⟨ao, co, hvo⟩ := hM.o.shape
  obtain ⟨at', ct, hvt, hlt', hct⟩ := id hM.t
  obtain ⟨as', cs, hvs⟩ := hM.s.shape
  obtain ⟨al, cl, hvl, hll, hcl⟩ := id hL
  subst hvp hvo hvt hvs hvl
  unfold mcCells
  simp only [List.cons_append, List.nil_append]
  go_enter Try.func133, Try.ntmps133
  go_upto_region 1 with fail
  refine wp_gen (fun W => Below w.heap.size w W ∧ Bx W w.heap.size 102 [.int .i64 m.cells, .slice ap m.pages.length cp, .slice ao m.order.length co, .int .i64 m.now, .slice at' m.twins.length ct, .int .i64 m.born, .slice as' m.said.length cs, .int .i64 m.code, .slice al (lows m.pages).length cl, .int .i64 (framesN m.pages : Int)]) ⟨(Below.refl _ _).alloc (Nat.le_refl _) _, Bx.new w _ _⟩ ?_
  rintro W ⟨hb, hx⟩
  obtain ⟨⟨x0, x1, x2, x3, x4, x5, x6, x7, x8, x9⟩, _⟩ := bx10 hx
  obtain ⟨b, o, vt', vs', hat, htw⟩ := hct q hq
  subst hat
  obtain ⟨T, hT⟩ : ∃ T, m.twins[q] = T := ⟨_, rfl⟩
  rw [hT] at htw HE0 hj2
  obtain ⟨d0, d1, d2, d3, d4, d5, d6, d7, dt, ds⟩ := htw.below hb
  obtain ⟨a1, k1, e1⟩ := dt.shape
  obtain ⟨a2, k2, e2⟩ := ds.shape
  rw [e1] at d4
  rw [e2] at d5
  have hqz : (q : Int) < (m.twins.length : Int) := by omega
  have zb := hb.size
  clear hct htw dt ds e1 e2 hT hcl hcp
  go_upto_region 2 with fail
  refine wp_gen (fun W' => Below W.heap.size W W' ∧ Bx W' W.heap.size 90 [.int .i64 T.page, .int .i64 T.place, .int .i64 T.left.m, .int .i64 T.left.pc, .slice a1 T.left.temps.length k1, .slice a2 T.left.stack.length k2, .int .i64 T.left.sender, .bool T.left.dead]) ⟨(Below.refl _ _).alloc (Nat.le_refl _) _, Bx.new _ _ _⟩ ?_
  rintro W2 ⟨t2, y2⟩
  have hb2 := hb.trans (t2.mono zb)
  have hx2 := hx.below t2
  have z2 := hb2.size
  clear hb hx t2 zb d0 d1 d2 d3 d4 d5 d6 d7 x0 x1 x2 x3 x4 x5 x6 x7 x8 x9
  obtain ⟨⟨x0, x1, x2, x3, x4, x5, x6, x7, x8, x9⟩, _⟩ := bx10 hx2
  have y0 := y2.cell 0 rfl
  have y1 := y2.cell 1 rfl
  by_cases hp : T.page = -1
  · have HE : Hid (plTw m (q : Int) = (framesN m.pages : Int) + (q : Int)) := by show _ = _; rw [HE0.out, if_pos hp]
    rw [hp] at y0
    go_wp2
    go_ret
    exact ⟨ret_int HE.out.symm, hb2⟩
  have hpe : (T.page == -1) = false := by simpa using hp
  rw [hpe, Bool.false_or] at hj2
  obtain ⟨a, ha, hal, hk0, hk1⟩ := frB_bound hj2
  have HE : Hid (plTw m (q : Int) = plFr m (a : Int) T.place) := by show _ = _; rw [HE0.out, if_neg hp, ha]
  rw [ha] at y0 hpe
  have HC := ofFrame_any _ _ _ _ _ m a T.place W2 (hPl.below hb2) hal (by omega) (by omega)
  unfold mcCells at HC
  simp only [List.cons_append, List.nil_append] at HC
  clear HE0 hj2 hp ha
  go_wp2_with fail
  refine HC.mono ?_
  rintro e W3 ⟨rfl, t3⟩
  have hb3 := hb2.trans (t3.mono z2)
  go_wp2
  go_ret
  exact ⟨ret_int HE.out.symm, hb3⟩


set_option maxRecDepth 100000 in
set_option maxHeartbeats 4000000 in
theorem ofCaller_any (vp vo vt vs vl : Value) (m : Mc) (j : Int) (w : World) (h : Pl w vp vo vt vs vl m) (hj : (j == -1 || tellB m j) = true) :
    Calls Try.prog 131 #[.agg (mcCells vp vo vt vs m ++ [vl, .int .i64 (framesN m.pages : Int)]).toArray, .int .i64 j] w fun e w' => e = .returned (.int .i64 (plCa m j)) ∧ Below w.heap.size w w' := by
  have hPl := h
  obtain ⟨hM, hL, hN, hTn⟩ := h
  obtain ⟨ap, cp, hvp, hlp, hcp⟩ := id hM.p
  obtain ⟨ao, co, hvo⟩ := hM.o.shape
  obtain ⟨at', ct, hvt, hlt', hct⟩ := id hM.t
  obtain ⟨as', cs, hvs⟩ := hM.s.shape
  obtain ⟨al, cl, hvl, hll, hcl⟩ := id hL
  subst hvp hvo hvt hvs hvl
  unfold mcCells
  simp only [List.cons_append, List.nil_append]
  go_enter Try.func131, Try.ntmps131
  go_upto_region 1 with fail
  refine wp_gen (fun W => Below w.heap.size w W ∧ Bx W w.heap.size 102 [.int .i64 m.cells, .slice ap m.pages.length cp, .slice ao m.order.length co, .int .i64 m.now, .slice at' m.twins.length ct, .int .i64 m.born, .slice as' m.said.length cs, .int .i64 m.code, .slice al (lows m.pages).length cl, .int .i64 (framesN m.pages : Int)]) ⟨(Below.refl _ _).alloc (Nat.le_refl _) _, Bx.new w _ _⟩ ?_
  rintro W ⟨hb, hx⟩
  obtain ⟨⟨x0, x1, x2, x3, x4, x5, x6, x7, x8, x9⟩, _⟩ := bx10 hx
  have zb := hb.size
  by_cases h1 : j = -1
  · subst h1
    go_wp2
    go_ret
    exact ⟨rfl, hb⟩
  have hje : (j == -1) = false := by simpa using h1
  rw [hje, Bool.false_or] at hj
  have HE : Hid (plCa m j = plTw m j) := by show _ = _; unfold plCa; rw [if_neg h1]
  have HC := ofTwin_any _ _ _ _ _ m j W (hPl.below hb) hj
  unfold mcCells at HC
  simp only [List.cons_append, List.nil_append] at HC
  clear hj
  go_wp2_with fail
  refine HC.mono ?_
  rintro e W3 ⟨rfl, t3⟩
  have hb3 := hb.trans (t3.mono zb)
  go_wp2
  go_ret
  exact ⟨ret_int HE.out.symm, hb3⟩

/-- the place of what runs; -1, if nothing does -/
def plNow (m : Mc) : Int := if inR m.now 0 ((m.pages.length : Int) - 1) = true ∧ (pgAt m m.now).frames.length ≠ 0 then plFr m m.now (((pgAt m m.now).frames.length : Int) - 1) else -1


set_option maxRecDepth 100000 in
set_option maxHeartbeats 4000000 in
theorem ofRunning_any (vp vo vt vs vl : Value) (m : Mc) (w : World) (h : Pl w vp vo vt vs vl m) :
    Calls Try.prog 97 #[.agg (mcCells vp vo vt vs m ++ [vl, .int .i64 (framesN m.pages : Int)]).toArray] w fun e w' => e = .returned (.int .i64 (plNow m)) ∧ Below w.heap.size w w' := by
  have hPl := h
  obtain ⟨hM, hL, hN, hTn⟩ := h
  obtain ⟨ap, cp, hvp, hlp, hcp⟩ := id hM.p
  obtain ⟨ao, co, hvo⟩ := hM.o.shape
  obtain ⟨at', ct, hvt, hlt', hct⟩ := id hM.t
  obtain ⟨as', cs, hvs⟩ := hM.s.shape
  obtain ⟨al, cl, hvl, hll, hcl⟩ := id hL
  subst hvp hvo hvt hvs hvl
  unfold mcCells
  simp only [List.cons_append, List.nil_append]
  go_enter Try.func97, Try.ntmps97
  go_upto_region 1 with fail
  refine wp_gen (fun W => Below w.heap.size w W ∧ Bx W w.heap.size 102 [.int .i64 m.cells, .slice ap m.pages.length cp, .slice ao m.order.length co, .int .i64 m.now, .slice at' m.twins.length ct, .int .i64 m.born, .slice as' m.said.length cs, .int .i64 m.code, .slice al (lows m.pages).length cl, .int .i64 (framesN m.pages : Int)]) ⟨(Below.refl _ _).alloc (Nat.le_refl _) _, Bx.new w _ _⟩ ?_
  rintro W ⟨hb, hx⟩
  obtain ⟨⟨x0, x1, x2, x3, x4, x5, x6, x7, x8, x9⟩, _⟩ := bx10 hx
  have zb := hb.size
  obtain ⟨f, hf⟩ : ∃ f, inR m.now 0 ((m.pages.length : Int) - 1) = f := ⟨_, rfl⟩
  have HP := isPlace_any m.now m.pages.length W
  rw [hf] at HP
  go_wp2_with fail
  refine HP.mono ?_
  rintro e W1 ⟨rfl, hw⟩
  obtain rfl := hw.symm
  clear hw HP
  cases f
  · have HE : Hid (plNow m = -1) := by show _ = _; unfold plNow; rw [hf]; simp
    go_wp2
    go_ret
    exact ⟨ret_int HE.out.symm, hb⟩
  obtain ⟨i, hi, hil⟩ := pg_of hf
  obtain ⟨bp, op, vf, hap, hpg⟩ := hcp i hil
  subst hap
  obtain ⟨af, cf, hvf⟩ := hpg.f.shape
  have g1 := cell_below hb hpg.c1
  rw [hvf] at g1
  have HE0 : Hid (plNow m = if m.pages[i].frames.length ≠ 0 then plFr m (i : Int) ((m.pages[i].frames.length : Int) - 1) else -1) := by show _ = _; unfold plNow; rw [hf, hi, pgAt_at hil]; simp
  have hsu := framesTo_succ hil
  have hsl := framesTo_leN m.pages (k := i + 1) hil
  have HI : Hid (m.now = (i : Int)) := hi
  rw [hi] at x3 ⊢
  obtain ⟨nf, hnf⟩ : ∃ nf, m.pages[i].frames.length = nf := ⟨_, rfl⟩
  rw [hnf] at g1 HE0 hsu
  have hnb : nf ≤ 1099511627776 := by omega
  have hiz : (i : Int) < (m.pages.length : Int) := by omega
  clear hcp hpg hvf hnf hsu hsl hcl hct hi hf
  by_cases h0 : nf = 0
  · have HE : Hid (plNow m = -1) := by show _ = _; rw [HE0.out, h0]; simp
    rw [h0] at g1
    go_wp2
    go_ret
    exact ⟨ret_int HE.out.symm, hb⟩
  have h0z : ¬ ((nf : Int) = 0) := by omega
  have hwn : IntKind.i64.wrap ((nf : Int) - 1) = (nf : Int) - 1 := by rw [IntKind.wrap_i64]; omega
  have HE : Hid (plNow m = plFr m (i : Int) ((nf : Int) - 1)) := by show _ = _; rw [HE0.out, if_pos h0]
  clear HE0
  go_upto_region 4 with fail
  have HC := quiet_of_below (W := W) fun W' (hW : Below W.heap.size W W') => ofFrame_any _ _ _ _ _ m i ((nf : Int) - 1) W' ((hPl.below hb).below hW) hil (by omega) (by omega)
  unfold mcCells at HC
  simp only [List.cons_append, List.nil_append] at HC
  rw [HI.out] at HC
  have L0 := Gr.cell x0
  have L1 := Gr.cell x1
  have L2 := Gr.cell x2
  have L3 := Gr.cell x3
  have L4 := Gr.cell x4
  have L5 := Gr.cell x5
  have L6 := Gr.cell x6
  have L7 := Gr.cell x7
  have L8 := Gr.cell x8
  have L9 := Gr.cell x9
  have G1 := Gr.cell g1
  clear x0 x1 x2 x3 x4 x5 x6 x7 x8 x9 g1
  refine WQ.region (by kernel_rfl) (by kernel_rfl) ?_
  iterate 13 (refine WQ.step (fun K hK => ?_); go_simp; first
    | (with_reducible refine hK _ ?_; clear hK K)
    | (with_reducible refine quiet_eq ?_; refine hK _ ?_; clear hK K)
    | (simp (contextual := true) only [L0, L1, L2, L3, L4, L5, L6, L7, L8, L9, G1, Result.andThen_ok, true_and]; with_reducible refine quiet_eq ?_; refine hK _ ?_; clear hK K)
    | (with_reducible refine quiet_call HC ?_; refine hK _ ?_; clear hK K))
  refine WQ.nil ?_
  intro W3 hG3
  have hb3 := hb.trans (hG3.to.mono zb)
  clear hG3 HC L0 L1 L2 L3 L4 L5 L6 L7 L8 L9 G1
  go_wp2
  go_ret
  exact ⟨ret_int HE.out.symm, hb3⟩


end Go.Proofs.Ytldiccheboipeaa
