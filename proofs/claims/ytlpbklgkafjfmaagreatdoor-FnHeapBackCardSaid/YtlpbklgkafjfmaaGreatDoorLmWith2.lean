/-
  lmWith, walked where it runs: the program with the other operation, the heap with the other values, each anew.
-/
import Derived.Test.YtlpbklgkafjfmaaGreatDoorLWalk6
import Derived.Deep.RegionHeld3

namespace Go.Proofs.YtlpbklgkafjfmaaGreatDoor
open Go.RowKit
def BoxS (bq bg : Nat) (vq v0 v1 v2 v3 v4 : Value) (w : World) : Prop := w.cell? ⟨bq, 0, none⟩ = some vq ∧ w.cell? ⟨bg, 0, none⟩ = some v0 ∧ w.cell? ⟨bg, 1, none⟩ = some v1 ∧ w.cell? ⟨bg, 2, none⟩ = some v2 ∧ w.cell? ⟨bg, 3, none⟩ = some v3 ∧ w.cell? ⟨bg, 4, none⟩ = some v4
theorem BoxS.far {bq bg : Nat} {vq v0 v1 v2 v3 v4 : Value} {w : World} (h : BoxS bq bg vq v0 v1 v2 v3 v4 w) {p : Addr} (u : Value) (h1 : p.block ≠ bq) (h2 : p.block ≠ bg) : BoxS bq bg vq v0 v1 v2 v3 v4 (w.setCell p u) := by
  obtain ⟨a, b, c, d, e, f⟩ := h
  have k1 : ∀ {i : Nat} {v : Value}, w.cell? ⟨bq, i, none⟩ = some v → (w.setCell p u).cell? ⟨bq, i, none⟩ = some v := fun hx => (World.cell?_setCell_other _ _ _ _ (by intro z; rw [z] at h1; exact h1 rfl)).trans hx
  have k2 : ∀ {i : Nat} {v : Value}, w.cell? ⟨bg, i, none⟩ = some v → (w.setCell p u).cell? ⟨bg, i, none⟩ = some v := fun hx => (World.cell?_setCell_other _ _ _ _ (by intro z; rw [z] at h2; exact h2 rfl)).trans hx
  exact ⟨k1 a, k2 b, k2 c, k2 d, k2 e, k2 f⟩
theorem BoxS.below {bq bg : Nat} {vq v0 v1 v2 v3 v4 : Value} {w w' : World} (h : BoxS bq bg vq v0 v1 v2 v3 v4 w) (hb : Below w.heap.size w w') : BoxS bq bg vq v0 v1 v2 v3 v4 w' := by
  obtain ⟨a, b, c, d, e, f⟩ := h
  exact ⟨cell_below hb a, cell_below hb b, cell_below hb c, cell_below hb d, cell_below hb e, cell_below hb f⟩
set_option maxRecDepth 100000 in
set_option maxHeartbeats 4000000 in
theorem lmWith_yes (vp vc vs vk : Value) (ms : Ms) (h : Hp) (k x : Int) (st : List (Int × Int)) (w0 w : World) (hp0 : MethsAt w0 vp ms) (hh0 : HeapAt w0 vc vs h) (hw0 : Below w0.heap.size w0 w) (hk : OpsAt w vk st) (hn : h.calls.length ≤ 1000) (hms : ms.length ≤ 1000) (hops : ∀ i, (hi : i < ms.length) → ms[i].2.2.length ≤ 1000) (hst : st.length ≤ 1000) (hr : runsH ms h = true) :
    Calls Tryz.prog 6 #[.agg #[vp], .agg (hpCells vc vs h), .agg #[.int .i64 k, .int .i64 x], vk] w fun e w' => ∃ vp' vc', e = .returned (.tuple #[.agg #[vp'], .agg (hpCells vc' vs (withH h st)), .bool (progOk (withP ms h (k, x)) && heapOk (withP ms h (k, x)) (withH h st))]) ∧ (∀ w'', w'.heap.size ≤ w''.heap.size → Below w0.heap.size w0 w'' → (∀ r, w.heap.size ≤ r → r < w'.heap.size → w''.heap[r]? = w'.heap[r]?) → MethsAt w'' vp' (withP ms h (k, x)) ∧ HeapAt w'' vc' vs (withH h st)) ∧ Below w.heap.size w w' := by
  have hp := hp0.below hw0
  have hh := hh0.below hw0
  obtain ⟨ac, kc, hvc⟩ := hh.c.shape
  obtain ⟨aD, kD, hvs⟩ := hh.s.shape
  obtain ⟨ap, cp, hvp, hlp, hpc⟩ := id hp
  obtain ⟨ak, ck, hvk⟩ := hk.shape
  subst hvc hvs hvp hvk
  unfold hpCells
  have hA : Below w.heap.size w (((((w.alloc (.cells #[.slice ap ms.length cp] 25)).alloc (.cells #[.slice ac h.calls.length kc, .int .i64 h.now, .int .i64 h.born, .slice aD h.said.length kD, .int .i64 h.code] 29)).alloc (.cells #[.int .i64 k, .int .i64 x] 35)).alloc (.cells #[.slice none 0 0] 25)).alloc (.cells #[.slice none 0 0, .int .i64 0, .int .i64 0, .slice none 0 0, .int .i64 0] 29)) := (((((Below.refl _ _).alloc (Nat.le_refl _) _).alloc (by simp) _).alloc (by simp; omega) _).alloc (by simp; omega) _).alloc (by simp; omega) _
  have rp := ((((pbox_new w (.slice ap ms.length cp)).alloc (.cells #[.slice ac h.calls.length kc, .int .i64 h.now, .int .i64 h.born, .slice aD h.said.length kD, .int .i64 h.code] 29)).alloc (.cells #[.int .i64 k, .int .i64 x] 35)).alloc (.cells #[.slice none 0 0] 25)).alloc (.cells #[.slice none 0 0, .int .i64 0, .int .i64 0, .slice none 0 0, .int .i64 0] 29)
  have rh := (((five_new (w.alloc (.cells #[.slice ap ms.length cp] 25)) 29 (.slice ac h.calls.length kc) (.int .i64 h.now) (.int .i64 h.born) (.slice aD h.said.length kD) (.int .i64 h.code)).alloc (.cells #[.int .i64 k, .int .i64 x] 35)).alloc (.cells #[.slice none 0 0] 25)).alloc (.cells #[.slice none 0 0, .int .i64 0, .int .i64 0, .slice none 0 0, .int .i64 0] 29)
  have ro := ((dtwo_new ((w.alloc (.cells #[.slice ap ms.length cp] 25)).alloc (.cells #[.slice ac h.calls.length kc, .int .i64 h.now, .int .i64 h.born, .slice aD h.said.length kD, .int .i64 h.code] 29)) 35 (.int .i64 k) (.int .i64 x)).alloc (.cells #[.slice none 0 0] 25)).alloc (.cells #[.slice none 0 0, .int .i64 0, .int .i64 0, .slice none 0 0, .int .i64 0] 29)
  have rP := (pbox_new (((w.alloc (.cells #[.slice ap ms.length cp] 25)).alloc (.cells #[.slice ac h.calls.length kc, .int .i64 h.now, .int .i64 h.born, .slice aD h.said.length kD, .int .i64 h.code] 29)).alloc (.cells #[.int .i64 k, .int .i64 x] 35)) (.slice none 0 0)).alloc (.cells #[.slice none 0 0, .int .i64 0, .int .i64 0, .slice none 0 0, .int .i64 0] 29)
  have rH := five_new ((((w.alloc (.cells #[.slice ap ms.length cp] 25)).alloc (.cells #[.slice ac h.calls.length kc, .int .i64 h.now, .int .i64 h.born, .slice aD h.said.length kD, .int .i64 h.code] 29)).alloc (.cells #[.int .i64 k, .int .i64 x] 35)).alloc (.cells #[.slice none 0 0] 25)) 29 (.slice none 0 0) (.int .i64 0) (.int .i64 0) (.slice none 0 0) (.int .i64 0)
  simp only [World.size_alloc] at rh ro rP rH
  go_enter Tryz.func6, Tryz.ntmps6
  go_upto_region 1 with fail
  generalize (((((w.alloc (.cells #[.slice ap ms.length cp] 25)).alloc (.cells #[.slice ac h.calls.length kc, .int .i64 h.now, .int .i64 h.born, .slice aD h.said.length kD, .int .i64 h.code] 29)).alloc (.cells #[.int .i64 k, .int .i64 x] 35)).alloc (.cells #[.slice none 0 0] 25)).alloc (.cells #[.slice none 0 0, .int .i64 0, .int .i64 0, .slice none 0 0, .int .i64 0] 29)) = W0 at *
  have zA := hA.size
  have HOK : Hid (∀ W, Below W0.heap.size W0 W → Calls Tryz.prog 9 #[.agg #[.slice ap ms.length cp], .agg #[.slice ac h.calls.length kc, .int .i64 h.now, .int .i64 h.born, .slice aD h.said.length kD, .int .i64 h.code]] W fun e w' => e = .returned (.bool (heapOk ms h)) ∧ Below W.heap.size W w') := fun W hW => specHeapOk_any _ _ _ ms h W ((hp.below hA).below hW) ((hh.below hA).below hW) (by omega)
  have v0 := rp.cell (i := 0) (by decide)
  obtain ⟨⟨x0, x1, x2, x3, x4⟩, _⟩ := five_cells rh
  have HP0 : Hid (MethsAt w (.slice ap ms.length cp) ms ∧ HeapAt w (.slice ac h.calls.length kc) (.slice aD h.said.length kD) h ∧ OpsAt w (.slice ak st.length ck) st) := ⟨hp, hh, hk⟩
  have HP1 : Hid (MethsAt w0 (.slice ap ms.length cp) ms ∧ HeapAt w0 (.slice ac h.calls.length kc) (.slice aD h.said.length kD) h ∧ Below w0.heap.size w0 w) := ⟨hp0, hh0, hw0⟩
  clear hp0 hh0 hw0
  have hok : heapOk ms h = true := by
    unfold runsH at hr
    simp only [Bool.and_eq_true] at hr
    exact hr.1.1
  have hc : h.code = 0 := by
    unfold runsH at hr
    simp only [Bool.and_eq_true, beq_iff_eq] at hr
    exact hr.1.2
  have HR0 : Hid (runsH ms h = true) := hr
  clear hpc hp hh hk hr
  have HS0 : Hid (∀ w', Below W0.heap.size W0 w' → (w'.cell? ⟨w.heap.size, 0, none⟩ = some (.slice ap ms.length cp) ∧ w'.cell? ⟨w.heap.size + 1, 0, none⟩ = some (.slice ac h.calls.length kc) ∧ w'.cell? ⟨w.heap.size + 1, 1, none⟩ = some (.int .i64 h.now) ∧ w'.cell? ⟨w.heap.size + 1, 2, none⟩ = some (.int .i64 h.born) ∧ w'.cell? ⟨w.heap.size + 1, 3, none⟩ = some (.slice aD h.said.length kD) ∧ w'.cell? ⟨w.heap.size + 1, 4, none⟩ = some (.int .i64 h.code))) := fun w' hB => ⟨cell_below hB v0, cell_below hB x0, cell_below hB x1, cell_below hB x2, cell_below hB x3, cell_below hB x4⟩
  rw [hok] at HOK
  have hg := good_iff.1 hok
  obtain ⟨j, m, q, hj, hm, e1, e2, e3, e4, e5, e6⟩ := runs_at hg hc
  have hr := HR0.out
  have hpq : q < ms[m].2.2.length := by
    unfold runsH at hr
    rw [hok, beq_iff_eq.2 hc, e6, e2, e4] at hr
    simpa using hr
  obtain ⟨hp, hh, hk⟩ := HP0.out
  obtain ⟨_, _, hv', _, hpc⟩ := id hp
  cases hv'
  obtain ⟨b, o, vt, vs', hac, hcl⟩ := hh.c.cl hj
  obtain ⟨b2, o2, vo, hap, d0, d1, d2, d3⟩ := hpc m hm
  obtain ⟨ao, co, hvo⟩ := d3.shape
  obtain ⟨aT, cT, hvt⟩ := hcl.t.shape
  obtain ⟨aS, cS, hvS⟩ := hcl.s.shape
  subst hac hap hvo hvt hvS
  have y0 := cell_below hA hcl.c0
  have y1 := cell_below hA hcl.c1
  have m2 := cell_below hA d2
  rw [e3] at y0
  rw [e4] at y1
  rw [e1] at x1
  rw [hc] at x4
  have hlz : (j : Int) < (h.calls.length : Int) := by omega
  have hmz : (m : Int) < (ms.length : Int) := by omega
  have hqz : (q : Int) < (ms[m].2.2.length : Int) := by omega
  rw [e1, hc] at HOK
  have E1 : Hid (h.now = (j : Int) ∧ h.code = 0 ∧ curC h = h.calls[j] ∧ h.calls[j].m = (m : Int) ∧ h.calls[j].pc = (q : Int) ∧ q < ms[m].2.2.length ∧ ms.getD (curC h).m.toNat (0, 0, []) = ms[m]) := ⟨e1, hc, e2, e3, e4, hpq, e6⟩
  have hol := hops m hm
  have y2 := cell_below hA hcl.c2
  have y3 := cell_below hA hcl.c3
  have y4 := cell_below hA hcl.c4
  have y5 := cell_below hA hcl.c5
  have m0 := cell_below hA d0
  have m1 := cell_below hA d1
  have HOV : Hid (OpsAt w (.slice ao ms[m].2.2.length co) ms[m].2.2 ∧ OpsAt w (.slice aT h.calls[j].temps.length cT) h.calls[j].temps) := ⟨d3, hcl.t⟩
  obtain ⟨ln, hln⟩ : ∃ ln, ms[m].2.2.length = ln := ⟨_, rfl⟩
  have HLN : Hid (ms[m].2.2.length = ln) := hln
  rw [hln] at m2 hqz hol
  have hqd : decide (ln ≤ q) = false := decide_eq_false (by omega)
  have hql : q < ln := by omega
  have HW : Hid (withP ms h (k, x) = ms.set m (ms[m].1, ms[m].2.1, ms[m].2.2.set q (k, x)) ∧ (withH h st).calls = h.calls.set j { h.calls[j] with stack := st } ∧ (withH h st).now = h.now ∧ (withH h st).born = h.born ∧ (withH h st).said = h.said ∧ (withH h st).code = h.code) := by
    refine ⟨?_, ?_, rfl, rfl, rfl, rfl⟩
    · unfold withP
      rw [e6, e2, e3, e4]
      rfl
    · unfold withH setH
      rw [e2, e1]
      rfl
  obtain ⟨V, hsrc', hV⟩ := src_meths HP1.out.1
  obtain ⟨VC, hsrcC', hVC⟩ := src_calls HP1.out.2.1.c
  have hsrc : ∀ w', Below w.heap.size w w' → Src Tryz.prog 3 23 (.slice (some ⟨b2, o2, none⟩) ms.length cp) ms.length (flat3 (methL ms V)) w' := fun w' hb => hsrc' w' (HP1.out.2.2.trans (hb.mono HP1.out.2.2.size))
  have hsrcC : ∀ w', Below w.heap.size w w' → Src Tryz.prog 6 26 (.slice (some ⟨b, o, none⟩) h.calls.length kc) h.calls.length (rowC (rowOf h.calls VC)) w' := fun w' hb => hsrcC' w' (HP1.out.2.2.trans (hb.mono HP1.out.2.2.size))
  obtain ⟨_, _, vT0, _, hT0, hcT0⟩ := HP1.out.2.1.c.cl hj
  cases hT0
  have eT0 : vT0 = .slice aT h.calls[j].temps.length cT := by have := (cell_below HP1.out.2.2 hcT0.c2).symm.trans hcl.c2; injection this
  have hOT := hcT0.t
  rw [eT0] at hOT
  obtain ⟨am, cm, hVm⟩ := (hV m hm).shape
  rw [hln] at hVm
  have HV : Hid ((∀ w', Below w.heap.size w w' → Src Tryz.prog 3 23 (.slice (some ⟨b2, o2, none⟩) ms.length cp) ms.length (flat3 (methL ms V)) w') ∧ (∀ i, (hi : i < ms.length) → OpsAt w0 (V i) ms[i].2.2) ∧ V m = .slice am ln cm) := ⟨hsrc, hV, hVm⟩
  have HVC : Hid ((∀ w', Below w.heap.size w w' → Src Tryz.prog 6 26 (.slice (some ⟨b, o, none⟩) h.calls.length kc) h.calls.length (rowC (rowOf h.calls VC)) w') ∧ (∀ i, (hi : i < h.calls.length) → OpsAt w0 (VC i).1 h.calls[i].temps ∧ OpsAt w0 (VC i).2 h.calls[i].stack)) := ⟨hsrcC, hVC⟩
  have HOT : Hid (OpsAt w0 (.slice aT h.calls[j].temps.length cT) h.calls[j].temps) := hOT
  clear hg hcl d0 d1 d2 d3 hpc e1 e2 e3 e4 e5 e6 hc hpq hr hp hh hln hsrc hV hVm hsrcC hVC hsrc' hsrcC' hcT0 eT0 hOT vT0
  have HC := quiet_of_below HOK.out
  have L0 := Gr.cell v0
  have L1 := Gr.cell x0
  have L2 := Gr.cell x1
  have L3 := Gr.cell x2
  have L4 := Gr.cell x3
  have L5 := Gr.cell x4
  have L6 := Gr.cell y0
  have L7 := Gr.cell y1
  have L8 := Gr.cell m2
  refine WQ.region (by kernel_rfl) (by kernel_rfl) ?_
  iterate 32 (refine WQ.step (fun K hK => ?_); go_simp; first
    | (with_reducible refine hK _ ?_; clear hK K)
    | (with_reducible refine quiet_eq ?_; refine hK _ ?_; clear hK K)
    | (simp (contextual := true) only [L0, L1, L2, L3, L4, L5, L6, L7, L8, Result.andThen_ok, true_and]; with_reducible refine quiet_eq ?_; refine hK _ ?_; clear hK K)
    | (with_reducible refine quiet_call HC ?_; refine hK _ ?_; clear hK K))
  refine WQ.nil ?_
  intro w1 hb1'
  have hb1 := hb1'.to
  clear hb1' HC L0 L1 L2 L3 L4 L5 L6 L7 L8
  clear HOK
  have hB1 := hA.trans (hb1.mono zA)
  have z1 := hb1.size
  have rp1 := row_below hb1 rp
  have rh1 := row_below hb1 rh
  have ro1 := row_below hb1 ro
  have rP1 := row_below hb1 rP
  have rH1 := row_below hb1 rH
  replace v0 := cell_below hb1 v0
  replace x0 := cell_below hb1 x0
  replace x1 := cell_below hb1 x1
  replace x2 := cell_below hb1 x2
  replace x3 := cell_below hb1 x3
  replace x4 := cell_below hb1 x4
  replace y0 := cell_below hb1 y0
  replace y1 := cell_below hb1 y1
  replace y2 := cell_below hb1 y2
  replace y3 := cell_below hb1 y3
  replace y4 := cell_below hb1 y4
  replace y5 := cell_below hb1 y5
  replace m0 := cell_below hb1 m0
  replace m1 := cell_below hb1 m1
  replace m2 := cell_below hb1 m2
  have hz0 := rH1.lt
  clear hb1 rp rh ro rP rH hA zA HS0
  go_upto_region 4 with fail
  have N3 : Below w1.heap.size w1 (w1.alloc (.cells #[.int .i64 (m : Int), .int .i64 (q : Int), .slice aT h.calls[j].temps.length cT, .slice aS h.calls[j].stack.length cS, .int .i64 h.calls[j].sender, .bool h.calls[j].dead] 48)) := (Below.refl _ _).alloc (Nat.le_refl _) _
  have rc3 := six_new w1 48 (.int .i64 (m : Int)) (.int .i64 (q : Int)) (.slice aT h.calls[j].temps.length cT) (.slice aS h.calls[j].stack.length cS) (.int .i64 h.calls[j].sender) (.bool h.calls[j].dead)
  generalize w1.alloc (.cells #[.int .i64 (m : Int), .int .i64 (q : Int), .slice aT h.calls[j].temps.length cT, .slice aS h.calls[j].stack.length cS, .int .i64 h.calls[j].sender, .bool h.calls[j].dead] 48) = W3 at *
  have B3 := hB1.trans (N3.mono hB1.size)
  have z3 := rc3.lt
  have rp3 := row_below N3 rp1
  have rh3 := row_below N3 rh1
  have ro3 := row_below N3 ro1
  have rP3 := row_below N3 rP1
  have rH3 := row_below N3 rH1
  clear N3 rp1 rh1 ro1 rP1 rH1 v0 x0 x1 x2 x3 x4 y0 y1 y2 y3 y4 y5 m0 m1 m2
  obtain ⟨bc, hbc⟩ : ∃ bc, w1.heap.size = bc := ⟨_, rfl⟩
  rw [hbc] at rc3 z3 hz0 ⊢
  have zw : w.heap.size + 1 + 1 + 1 + 1 < bc := hz0
  clear hbc hz0 hB1 z1
  have v0 := rp3.cell (i := 0) (by decide)
  have l0 : w.heap.size < W3.heap.size := by omega
  have mk4 := CRow.made (B := W3.heap.size) (sz := 3) (w := W3) (e := 44) (Nat.le_refl _)
  have A4 : Below W3.heap.size W3 (W3.alloc (.cells #[] 44)) := (Below.refl _ _).alloc (Nat.le_refl _) _
  have s4 := HV.out.1 _ (B3.trans (A4.mono B3.size))
  go_upto_region 5 with (at_builtin; refine append_row _ (by rfl) _ _ 23 44 (by rfl) Tryz.underlying23 Tryz.infoMeth (by rfl) (by omega) W3.heap.size _ _ 0 ms.length [] (flat3 (methL ms V)) (by rfl) (by rfl) mk4 s4 (by omega) (by simp) ?_; intro v4 w4 hrow4 hg4 hb4; rw [Nat.zero_add, List.nil_append] at hrow4; obtain ⟨gq, oq, cq, hv4, hgq, hgq'⟩ := hrow4.form (by omega); subst hv4)
  have b4 : Below W3.heap.size W3 w4 := A4.grown hg4 A4.size (fun q e => (mk4.lt q e).1)
  have N4 := b4.alloc b4.size (.cells #[.slice (some ⟨gq, oq, none⟩) ms.length cq] 25)
  have rq4 := pbox_new w4 (.slice (some ⟨gq, oq, none⟩) ms.length cq)
  have hr4 := hrow4.below ((Below.refl w4.heap.size w4).alloc (Nat.le_refl _) (.cells #[.slice (some ⟨gq, oq, none⟩) ms.length cq] 25))
  have zq : (w4.alloc (.cells #[.slice (some ⟨gq, oq, none⟩) ms.length cq] 25)).heap.size = w4.heap.size + 1 := by simp
  generalize w4.alloc (.cells #[.slice (some ⟨gq, oq, none⟩) ms.length cq] 25) = W4 at *
  obtain ⟨bq, hbq⟩ : ∃ bq, w4.heap.size = bq := ⟨_, rfl⟩
  rw [hbq] at rq4 zq hgq' ⊢
  have lq : bq < W4.heap.size := by omega
  clear zq
  have B4 := B3.trans (N4.mono B3.size)
  have rc4 := row_below N4 rc3
  have rp4 := row_below N4 rp3
  have rh4 := row_below N4 rh3
  have ro4 := row_below N4 ro3
  have rP4 := row_below N4 rP3
  have rH4 := row_below N4 rH3
  have hz4 := N4.size
  have lc : bc < W4.heap.size := by omega
  clear hbq hrow4 hg4 hb4 b4 N4 mk4 s4 A4 v0 rc3 rp3 rh3 ro3 rP3 rH3 l0 B3
  have hcells := flat3_at (methL ms V) m (by rw [methL_len]; omega)
  rw [methL_at (by omega), HV.out.2.2] at hcells
  obtain ⟨hx0, hx1, hx2⟩ := hcells
  obtain ⟨_, hrx⟩ := hr4.at
  have n0 := (hrx _ _ hx0).1
  have n1 := (hrx _ _ hx1).1
  have n2 := (hrx _ _ hx2).1
  rw [← Nat.add_assoc] at n1 n2
  have nf0 := (hrx _ _ hx0).2
  have nf1 := (hrx _ _ hx1).2
  have nf2 := (hrx _ _ hx2).2
  rw [← Nat.add_assoc] at nf1 nf2
  have NF : Hid ((∃ u, W4.cell? ⟨gq, oq + m * 3, none⟩ = some u) ∧ (∃ u, W4.cell? ⟨gq, oq + m * 3 + 1, none⟩ = some u) ∧ (∃ u, W4.cell? ⟨gq, oq + m * 3 + 2, none⟩ = some u) ∧ W4.frozen? ⟨gq, oq + m * 3, none⟩ = false ∧ W4.frozen? ⟨gq, oq + m * 3 + 1, none⟩ = false ∧ W4.frozen? ⟨gq, oq + m * 3 + 2, none⟩ = false) := ⟨⟨_, n0⟩, ⟨_, n1⟩, ⟨_, n2⟩, nf0, nf1, nf2⟩
  clear hx0 hx1 hx2 hrx nf0 nf1 nf2
  have cq0 := rq4.cell (i := 0) (by decide)
  obtain ⟨⟨c0, c1, c2, c3, c4, c5⟩, _⟩ := six_cells rc4
  go_upto_region 6 with fail
  have N5 : Below W4.heap.size W4 (W4.alloc (.cells #[.int .i64 ms[m].1, .int .i64 ms[m].2.1, .slice am ln cm] 44)) := (Below.refl _ _).alloc (Nat.le_refl _) _
  have rm5 := box_new W4 ms[m].1 ms[m].2.1 (.slice am ln cm)
  have zm : (W4.alloc (.cells #[.int .i64 ms[m].1, .int .i64 ms[m].2.1, .slice am ln cm] 44)).heap.size = W4.heap.size + 1 := by simp
  generalize W4.alloc (.cells #[.int .i64 ms[m].1, .int .i64 ms[m].2.1, .slice am ln cm] 44) = W5 at *
  obtain ⟨bm, hbm⟩ : ∃ bm, W4.heap.size = bm := ⟨_, rfl⟩
  rw [hbm] at rm5 zm lq lc hz4 ⊢
  have lm5 : bm < W5.heap.size := by omega
  clear zm
  have B5 := B4.trans (N5.mono B4.size)
  have rc5 := row_below N5 rc4
  have rq5 := row_below N5 rq4
  have rh5 := row_below N5 rh4
  have ro5 := row_below N5 ro4
  have rP5 := row_below N5 rP4
  have rH5 := row_below N5 rH4
  have hgq5 : W5.heap[gq]? = W4.heap[gq]? := N5.block gq (by omega)
  clear hbm N5 n0 n1 n2 cq0 c0 c1 c2 c3 c4 c5 rc4 rp4 rq4 rh4 ro4 rP4 rH4 B4
  have mk6 := CRow.made (B := W5.heap.size) (sz := 2) (w := W5) (e := 35) (Nat.le_refl _)
  have A6 : Below W5.heap.size W5 (W5.alloc (.cells #[] 35)) := (Below.refl _ _).alloc (Nat.le_refl _) _
  have s6 : Src Tryz.prog 2 42 (.slice am ln cm) ln (pcells ms[m].2.2) (W5.alloc (.cells #[] 35)) := by
    have := src_ops (((HV.out.2.1 m (by omega)).below HP1.out.2.2).below (B5.trans (A6.mono B5.size)))
    rwa [HV.out.2.2, HLN.out] at this
  have t2 := rm5.cell (i := 2) (by decide)
  go_upto_region 7 with (at_builtin; refine append_row _ (by rfl) _ _ 42 35 (by rfl) Tryz.underlying42 Tryz.infoOp (by rfl) (by omega) W5.heap.size _ _ 0 ln [] (pcells ms[m].2.2) (by rfl) (by rfl) mk6 s6 (by omega) (by simp) ?_; intro v6 w6 hrow6 hg6 hb6; rw [Nat.zero_add, List.nil_append] at hrow6; obtain ⟨go, oo, c6, hv6, hgo, hgo'⟩ := hrow6.form (by omega); subst hv6; have b6 : Below W5.heap.size W5 w6 := A6.grown hg6 A6.size (fun q e => (mk6.lt q e).1); have t62 := (row_below b6 rm5).cell (i := 2) (by decide); have tf62 := (row_below b6 rm5).frozen 2)
  have t60 := (row_below b6 rm5).cell (i := 0) (by decide)
  have t61 := (row_below b6 rm5).cell (i := 1) (by decide)
  have hbl6 : ∀ q, q < W5.heap.size → q ≠ bm → (w6.setCell ⟨bm, 2, none⟩ (.slice (some ⟨go, oo, none⟩) ln c6)).heap[q]? = W5.heap[q]? := fun q h1 h2 => (Below.heap_setCell _ _ _ _ h2).trans (b6.block q h1)
  have B6 : Below w.heap.size w (w6.setCell ⟨bm, 2, none⟩ (.slice (some ⟨go, oo, none⟩) ln c6)) := (B5.trans (b6.mono B5.size)).setCell (p := ⟨bm, 2, none⟩) (by simp; omega) _
  have P6 := (hrow6.pair HLN.out.symm).set_other (p := ⟨bm, 2, none⟩) (.slice (some ⟨go, oo, none⟩) ln c6) (fun e => by simp [Value.ownBlock] at e; omega)
  have m60 : (w6.setCell ⟨bm, 2, none⟩ (.slice (some ⟨go, oo, none⟩) ln c6)).cell? ⟨bm, 0, none⟩ = some (.int .i64 ms[m].1) := (World.cell?_setCell_other _ _ _ _ (by intro e; injection e with _ e; cases e)).trans t60
  have m61 : (w6.setCell ⟨bm, 2, none⟩ (.slice (some ⟨go, oo, none⟩) ln c6)).cell? ⟨bm, 1, none⟩ = some (.int .i64 ms[m].2.1) := (World.cell?_setCell_other _ _ _ _ (by intro e; injection e with _ e; cases e)).trans t61
  have m62 : (w6.setCell ⟨bm, 2, none⟩ (.slice (some ⟨go, oo, none⟩) ln c6)).cell? ⟨bm, 2, none⟩ = some (.slice (some ⟨go, oo, none⟩) ln c6) := World.cell?_setCell_same _ _ _ t62
  have z6 : w6.heap.size = (w6.setCell ⟨bm, 2, none⟩ (.slice (some ⟨go, oo, none⟩) ln c6)).heap.size := by simp [World.setCell]
  have zb6 := b6.size
  rw [z6] at hgo' zb6
  clear hrow6 hg6 hb6 b6 mk6 s6 A6 t2 t60 t61 t62 tf62 rm5 z6
  generalize w6.setCell ⟨bm, 2, none⟩ (.slice (some ⟨go, oo, none⟩) ln c6) = W6 at *
  have rc6 := rc5.of_block (hbl6 bc (by omega) (by omega))
  have rq6 := rq5.of_block (hbl6 bq (by omega) (by omega))
  have rh6 := rh5.of_block (hbl6 _ (by omega) (by omega))
  have ro6 := ro5.of_block (hbl6 _ (by omega) (by omega))
  have rP6 := rP5.of_block (hbl6 _ (by omega) (by omega))
  have rH6 := rH5.of_block (hbl6 _ (by omega) (by omega))
  have hgq6 : W6.heap[gq]? = W4.heap[gq]? := (hbl6 gq (by omega) (by omega)).trans hgq5
  clear hbl6 hgq5 rc5 rq5 rh5 ro5 rP5 rH5 B5
  have hq6 : q < ms[m].2.2.length := by rw [HLN.out]; exact hql
  have P7 := P6.set q hq6 k x
  obtain ⟨⟨g0, g1⟩, gf0, gf1⟩ := P6.cell hq6
  obtain ⟨⟨o0, o1⟩, _⟩ := dtwo_cells ro6
  have c1 := (six_cells rc6).1.2.1
  go_upto_region 8 with fail
  have hbl7 : ∀ r, r ≠ go → ((W6.setCell ⟨go, oo + q * 2, none⟩ (.int .i64 k)).setCell ⟨go, oo + q * 2 + 1, none⟩ (.int .i64 x)).heap[r]? = W6.heap[r]? := fun r h => (Below.heap_setCell _ _ _ _ h).trans (Below.heap_setCell _ _ _ _ h)
  have z7 : ((W6.setCell ⟨go, oo + q * 2, none⟩ (.int .i64 k)).setCell ⟨go, oo + q * 2 + 1, none⟩ (.int .i64 x)).heap.size = W6.heap.size := by simp [World.setCell]
  have B7 := (B6.setCell (p := ⟨go, oo + q * 2, none⟩) (by simp; omega) (.int .i64 k)).setCell (p := ⟨go, oo + q * 2 + 1, none⟩) (by simp; omega) (.int .i64 x)
  generalize (W6.setCell ⟨go, oo + q * 2, none⟩ (.int .i64 k)).setCell ⟨go, oo + q * 2 + 1, none⟩ (.int .i64 x) = W7 at *
  have rc7 := rc6.of_block (hbl7 bc (by omega))
  have rq7 := rq6.of_block (hbl7 bq (by omega))
  have rh7 := rh6.of_block (hbl7 _ (by omega))
  have rP7 := rP6.of_block (hbl7 _ (by omega))
  have rH7 := rH6.of_block (hbl7 _ (by omega))
  have m70 := (World.cell?_of_block (a := ⟨bm, 0, none⟩) (hbl7 bm (by omega))).trans m60
  have m71 := (World.cell?_of_block (a := ⟨bm, 1, none⟩) (hbl7 bm (by omega))).trans m61
  have m72 := (World.cell?_of_block (a := ⟨bm, 2, none⟩) (hbl7 bm (by omega))).trans m62
  have hgq7 : W7.heap[gq]? = W4.heap[gq]? := (hbl7 gq (by omega)).trans hgq6
  clear hbl7 hgq6 rc6 rq6 rh6 ro6 rP6 rH6 B6 P6 m60 m61 m62 g0 g1 gf0 gf1 o0 o1 c1
  obtain ⟨⟨u0, n0⟩, ⟨u1, n1⟩, ⟨u2, n2⟩, nf0, nf1, nf2⟩ := NF.out
  rw [← World.cell?_of_block (a := ⟨gq, _, none⟩) hgq7] at n0 n1 n2
  rw [← World.frozen?_of_block (a := ⟨gq, _, none⟩) hgq7] at nf0 nf1 nf2
  have c0 := (six_cells rc7).1.1
  have cq0 := rq7.cell (i := 0) (by decide)
  go_upto_region 9 with fail
  obtain ⟨W8, h8⟩ : ∃ W8, W8 = ((W7.setCell ⟨gq, oq + m * 3, none⟩ (.int .i64 ms[m].1)).setCell ⟨gq, oq + m * 3 + 1, none⟩ (.int .i64 ms[m].2.1)).setCell ⟨gq, oq + m * 3 + 2, none⟩ (.slice (some ⟨go, oo, none⟩) ln c6) := ⟨_, rfl⟩
  have hbl8 : ∀ r, r ≠ gq → W8.heap[r]? = W7.heap[r]? := fun r e => by rw [h8]; exact (Below.heap_setCell _ _ _ _ e).trans ((Below.heap_setCell _ _ _ _ e).trans (Below.heap_setCell _ _ _ _ e))
  have z8 : W8.heap.size = W7.heap.size := by rw [h8]; simp [World.setCell]
  have B8 : Below w.heap.size w W8 := by rw [h8]; exact ((B7.setCell (p := ⟨gq, _, none⟩) (by simp; omega) _).setCell (p := ⟨gq, _, none⟩) (by simp; omega) _).setCell (p := ⟨gq, _, none⟩) (by simp; omega) _
  have P8 := P7.kept (w' := W8) (by omega) (fun g hg => by simp [Value.ownBlock] at hg; exact hbl8 g (by omega))
  have FM : Hid (∀ w', Below w0.heap.size w0 w' → w'.heap[gq]? = W8.heap[gq]? → w'.heap[go]? = W8.heap[go]? → W8.heap.size ≤ w'.heap.size → MethsAt w' (.slice (some ⟨gq, oq, none⟩) ms.length cq) (withP ms h (k, x))) := fun w' hb e1 e2 hs => by
    rw [HW.out.1]
    exact fin_meths hr4 (by omega) hgq7 h8 P8 HV.out.2.1 hb e1 e2 hs
  rw [← h8]
  have rc8 := rc7.of_block (hbl8 bc (by omega))
  have rq8 := rq7.of_block (hbl8 bq (by omega))
  have rh8 := rh7.of_block (hbl8 _ (by omega))
  have rP8 := rP7.of_block (hbl8 _ (by omega))
  have rH8 := rH7.of_block (hbl8 _ (by omega))
  rw [E1.out.1, E1.out.2.1] at rh8
  have lgo : gq < W8.heap.size ∧ go < W8.heap.size ∧ bq < W8.heap.size ∧ bc < W8.heap.size ∧ bc < gq ∧ gq < bq ∧ bq < go := by omega
  clear h8 hbl8 z8 z7 P7 P8 hr4 hgq7 B7 rc7 rq7 rh7 rP7 rH7 m70 m71 m72 n0 n1 n2 nf0 nf1 nf2 c0 cq0 NF hq6 hgo hgo' zb6 lm5 lc lq hz4 hgq hgq'
  obtain ⟨⟨x0, x1, x2, x3, x4⟩, _⟩ := five_cells rh8
  go_upto_region 10 with fail
  have N9 : Below W8.heap.size W8 (W8.alloc (.cells #[.slice (some ⟨b, o, none⟩) h.calls.length kc, .int .i64 (j : Int), .int .i64 h.born, .slice aD h.said.length kD, .int .i64 0] 29)) := (Below.refl _ _).alloc (Nat.le_refl _) _
  have rg9 := five_new W8 29 (.slice (some ⟨b, o, none⟩) h.calls.length kc) (.int .i64 (j : Int)) (.int .i64 h.born) (.slice aD h.said.length kD) (.int .i64 0)
  generalize W8.alloc (.cells #[.slice (some ⟨b, o, none⟩) h.calls.length kc, .int .i64 (j : Int), .int .i64 h.born, .slice aD h.said.length kD, .int .i64 0] 29) = W9 at *
  obtain ⟨bg, hbg⟩ : ∃ bg, W8.heap.size = bg := ⟨_, rfl⟩
  have FM9 : Hid (∀ w', Below w0.heap.size w0 w' → w'.heap[gq]? = W9.heap[gq]? → w'.heap[go]? = W9.heap[go]? → W9.heap.size ≤ w'.heap.size → MethsAt w' (.slice (some ⟨gq, oq, none⟩) ms.length cq) (withP ms h (k, x))) := fun w' hb e1 e2 hs => FM.out w' hb (e1.trans (N9.block _ lgo.1)) (e2.trans (N9.block _ lgo.2.1)) (Nat.le_trans N9.size hs)
  have lg : bg < W9.heap.size := by rw [← hbg]; exact rg9.lt
  rw [hbg] at rg9 lgo ⊢
  have B9 := B8.trans (N9.mono B8.size)
  have rc9 := row_below N9 rc8
  have rq9 := row_below N9 rq8
  have rh9 := row_below N9 rh8
  have rP9 := row_below N9 rP8
  have rH9 := row_below N9 rH8
  clear hbg N9 FM x0 x1 x2 x3 x4 rc8 rq8 rh8 rP8 rH8 B8
  have mk10 := CRow.made (B := W9.heap.size) (sz := 6) (w := W9) (e := 48) (Nat.le_refl _)
  have A10 : Below W9.heap.size W9 (W9.alloc (.cells #[] 48)) := (Below.refl _ _).alloc (Nat.le_refl _) _
  have s10 := HVC.out.1 _ (B9.trans (A10.mono B9.size))
  have x0 := (five_cells rh9).1.1
  have lh : w.heap.size + 1 < W9.heap.size := by omega
  have hcn : 0 < h.calls.length := by omega
  go_upto_region 11 with (at_builtin; refine append_row _ (by rfl) _ _ 26 48 (by rfl) Tryz.underlying26 Tryz.infoCall (by rfl) (by omega) W9.heap.size _ _ 0 h.calls.length [] (rowC (rowOf h.calls VC)) (by rfl) (by rfl) mk10 s10 (by omega) (by simp) ?_; intro v10 w10 hrow10 hg10 hb10; rw [Nat.zero_add, List.nil_append] at hrow10; obtain ⟨gg, og, cg, hv10, hgg, hgg'⟩ := hrow10.form hcn; subst hv10; have b10 : Below W9.heap.size W9 w10 := A10.grown hg10 A10.size (fun q e => (mk10.lt q e).1); obtain ⟨⟨t0, _⟩, tf0, _⟩ := five_cells (row_below b10 rg9))
  have rg10 := five_set0 (row_below b10 rg9) (.slice (some ⟨gg, og, none⟩) h.calls.length cg)
  have hbl10 : ∀ r, r < W9.heap.size → r ≠ bg → (w10.setCell ⟨bg, 0, none⟩ (.slice (some ⟨gg, og, none⟩) h.calls.length cg)).heap[r]? = W9.heap[r]? := fun r h1 h2 => (Below.heap_setCell _ _ _ _ h2).trans (b10.block r h1)
  have B10 : Below w.heap.size w (w10.setCell ⟨bg, 0, none⟩ (.slice (some ⟨gg, og, none⟩) h.calls.length cg)) := (B9.trans (b10.mono B9.size)).setCell (p := ⟨bg, 0, none⟩) (by simp; omega) _
  have hr10 : CRow W9.heap.size 6 (w10.setCell ⟨bg, 0, none⟩ (.slice (some ⟨gg, og, none⟩) h.calls.length cg)) (.slice (some ⟨gg, og, none⟩) h.calls.length cg) h.calls.length (rowC (rowOf h.calls VC)) := hrow10.kept (by simp [World.setCell]) (fun g hg => by simp [Value.ownBlock] at hg; exact Below.heap_setCell _ _ _ _ (by simp; omega))
  have z10 : w10.heap.size = (w10.setCell ⟨bg, 0, none⟩ (.slice (some ⟨gg, og, none⟩) h.calls.length cg)).heap.size := by simp [World.setCell]
  have zb10 := b10.size
  rw [z10] at hgg' zb10
  clear hrow10 hg10 hb10 b10 mk10 s10 A10 t0 tf0 rg9 z10 x0
  generalize w10.setCell ⟨bg, 0, none⟩ (.slice (some ⟨gg, og, none⟩) h.calls.length cg) = W10 at *
  have rc10 := rc9.of_block (hbl10 bc (by omega) (by omega))
  have rq10 := rq9.of_block (hbl10 bq (by omega) (by omega))
  have rP10 := rP9.of_block (hbl10 _ (by omega) (by omega))
  have rH10 := rH9.of_block (hbl10 _ (by omega) (by omega))
  have FM10 : Hid (∀ w', Below w0.heap.size w0 w' → w'.heap[gq]? = W10.heap[gq]? → w'.heap[go]? = W10.heap[go]? → W10.heap.size ≤ w'.heap.size → MethsAt w' (.slice (some ⟨gq, oq, none⟩) ms.length cq) (withP ms h (k, x))) := fun w' hb e1 e2 hs => FM9.out w' hb (e1.trans (hbl10 gq (by omega) (by omega))) (e2.trans (hbl10 go (by omega) (by omega))) (Nat.le_trans zb10 hs)
  clear FM9 hbl10 rc9 rq9 rh9 rP9 rH9 B9
  have mk11 := PairRow.made (B := W10.heap.size) (w := W10) (e := 37) (Nat.le_refl _)
  have A11 : Below W10.heap.size W10 (W10.alloc (.cells #[] 37)) := (Below.refl _ _).alloc (Nat.le_refl _) _
  have s11 := (HP0.out.2.2).below (B10.trans (A11.mono B10.size))
  go_upto_region 12 with (at_builtin; refine append_vals _ (by rfl) _ _ (by rfl) W10.heap.size _ _ [] st (by rfl) (by rfl) mk11 s11 (by simp; omega) (by simp) ?_; intro v11 w11 hrow11 hg11 hb11; rw [List.nil_append] at hrow11; obtain ⟨a11, k11, hv11, _⟩ := hrow11.slice; subst hv11; have b11 : Below W10.heap.size W10 w11 := A11.grown hg11 A11.size (fun q e => (mk11.lt q e).1); obtain ⟨⟨_, _, _, t3, _, _⟩, _, _, _, tf3, _, _⟩ := six_cells (row_below b11 rc10))
  have rc11 := six_set3 (row_below b11 rc10) (.slice a11 st.length k11)
  have lgs := hrow11.lt
  have hbl11 : ∀ r, r < W10.heap.size → r ≠ bc → (w11.setCell ⟨bc, 3, none⟩ (.slice a11 st.length k11)).heap[r]? = W10.heap[r]? := fun r h1 h2 => (Below.heap_setCell _ _ _ _ h2).trans (b11.block r h1)
  have B11 : Below w.heap.size w (w11.setCell ⟨bc, 3, none⟩ (.slice a11 st.length k11)) := (B10.trans (b11.mono B10.size)).setCell (p := ⟨bc, 3, none⟩) (by simp; omega) _
  have P11 := hrow11.set_other (p := ⟨bc, 3, none⟩) (.slice a11 st.length k11) (fun e => by have := (lgs _ e).1; simp at this; omega)
  have z11 : w11.heap.size = (w11.setCell ⟨bc, 3, none⟩ (.slice a11 st.length k11)).heap.size := by simp [World.setCell]
  have zb11 := b11.size
  rw [z11] at zb11 lgs
  clear hrow11 hg11 hb11 b11 mk11 s11 A11 t3 tf3 z11
  generalize w11.setCell ⟨bc, 3, none⟩ (.slice a11 st.length k11) = W11 at *
  have rg11 := rg10.of_block (hbl11 bg (by omega) (by omega))
  have rq11 := rq10.of_block (hbl11 bq (by omega) (by omega))
  have rP11 := rP10.of_block (hbl11 _ (by omega) (by omega))
  have rH11 := rH10.of_block (hbl11 _ (by omega) (by omega))
  have hgg11 : W11.heap[gg]? = W10.heap[gg]? := hbl11 gg (by omega) (by omega)
  have FM11 : Hid (∀ w', Below w0.heap.size w0 w' → w'.heap[gq]? = W11.heap[gq]? → w'.heap[go]? = W11.heap[go]? → W11.heap.size ≤ w'.heap.size → MethsAt w' (.slice (some ⟨gq, oq, none⟩) ms.length cq) (withP ms h (k, x))) := fun w' hb e1 e2 hs => FM10.out w' hb (e1.trans (hbl11 gq (by omega) (by omega))) (e2.trans (hbl11 go (by omega) (by omega))) (Nat.le_trans zb11 hs)
  clear FM10 hbl11 rc10 rg10 rq10 rP10 rH10 B10
  obtain ⟨_, hrx⟩ := hr10.at
  have hcs := rowC_at (rowOf h.calls VC) j (by rw [rowOf_len]; omega)
  obtain ⟨hx0, hx1, hx2, hx3, hx4, hx5⟩ := hcs
  have n0 := hrx _ _ hx0
  have n1 := hrx _ _ hx1
  have n2 := hrx _ _ hx2
  have n3 := hrx _ _ hx3
  have n4 := hrx _ _ hx4
  have n5 := hrx _ _ hx5
  rw [← Nat.add_assoc] at n1 n2 n3 n4 n5
  rw [← World.cell?_of_block (a := ⟨gg, _, none⟩) hgg11, ← World.frozen?_of_block (a := ⟨gg, _, none⟩) hgg11] at n0 n1 n2 n3 n4 n5
  obtain ⟨n0, nf0⟩ := n0
  obtain ⟨n1, nf1⟩ := n1
  obtain ⟨n2, nf2⟩ := n2
  obtain ⟨n3, nf3⟩ := n3
  obtain ⟨n4, nf4⟩ := n4
  obtain ⟨n5, nf5⟩ := n5
  clear hx0 hx1 hx2 hx3 hx4 hx5 hrx
  obtain ⟨⟨c0, c1, c2, c3, c4, c5⟩, _⟩ := six_cells rc11
  obtain ⟨⟨g0, g1, g2, g3, g4⟩, _⟩ := five_cells rg11
  go_upto_region 13 with fail
  obtain ⟨W12, h12⟩ : ∃ W12, W12 = ((((((W11.setCell ⟨gg, og + j * 6, none⟩ (.int .i64 (m : Int))).setCell ⟨gg, og + j * 6 + 1, none⟩ (.int .i64 (q : Int))).setCell ⟨gg, og + j * 6 + 2, none⟩ (.slice aT h.calls[j].temps.length cT)).setCell ⟨gg, og + j * 6 + 3, none⟩ (.slice a11 st.length k11)).setCell ⟨gg, og + j * 6 + 4, none⟩ (.int .i64 h.calls[j].sender)).setCell ⟨gg, og + j * 6 + 5, none⟩ (.bool h.calls[j].dead)) := ⟨_, rfl⟩
  rw [← h12]
  have h12' : W12 = ((((((W11.setCell ⟨gg, og + j * 6, none⟩ (.int .i64 h.calls[j].m)).setCell ⟨gg, og + j * 6 + 1, none⟩ (.int .i64 h.calls[j].pc)).setCell ⟨gg, og + j * 6 + 2, none⟩ (.slice aT h.calls[j].temps.length cT)).setCell ⟨gg, og + j * 6 + 3, none⟩ (.slice a11 st.length k11)).setCell ⟨gg, og + j * 6 + 4, none⟩ (.int .i64 h.calls[j].sender)).setCell ⟨gg, og + j * 6 + 5, none⟩ (.bool h.calls[j].dead)) := by rw [h12, E1.out.2.2.2.1, E1.out.2.2.2.2.1]
  have hbl12 : ∀ r, r ≠ gg → W12.heap[r]? = W11.heap[r]? := fun r e => by rw [h12]; exact (Below.heap_setCell _ _ _ _ e).trans ((Below.heap_setCell _ _ _ _ e).trans ((Below.heap_setCell _ _ _ _ e).trans ((Below.heap_setCell _ _ _ _ e).trans ((Below.heap_setCell _ _ _ _ e).trans (Below.heap_setCell _ _ _ _ e)))))
  have z12 : W12.heap.size = W11.heap.size := by rw [h12]; simp [World.setCell]
  have B12 : Below w.heap.size w W12 := by rw [h12]; exact (((((B11.setCell (p := ⟨gg, _, none⟩) (by simp; omega) _).setCell (p := ⟨gg, _, none⟩) (by simp; omega) _).setCell (p := ⟨gg, _, none⟩) (by simp; omega) _).setCell (p := ⟨gg, _, none⟩) (by simp; omega) _).setCell (p := ⟨gg, _, none⟩) (by simp; omega) _).setCell (p := ⟨gg, _, none⟩) (by simp; omega) _
  have P12 := P11.kept (w' := W12) (by omega) (fun g hg => hbl12 g (by have := (lgs g hg).1; omega))
  have lgs12 : ∀ g, (Value.slice a11 st.length k11).ownBlock = some g → W10.heap.size ≤ g ∧ g < W12.heap.size := fun g hg => by have := lgs g hg; omega
  have FF : Hid (∀ w', Below w0.heap.size w0 w' → (∀ r, w.heap.size ≤ r → r < W12.heap.size → r ≠ w.heap.size + 1 + 1 + 1 → r ≠ w.heap.size + 1 + 1 + 1 + 1 → w'.heap[r]? = W12.heap[r]?) → W12.heap.size ≤ w'.heap.size → MethsAt w' (.slice (some ⟨gq, oq, none⟩) ms.length cq) (withP ms h (k, x)) ∧ HeapAt w' (.slice (some ⟨gg, og, none⟩) h.calls.length cg) (.slice aD h.said.length kD) (withH h st)) := fun w' hb he hs => by
    refine ⟨FM11.out w' hb ((he gq (by omega) (by omega) (by omega) (by omega)).trans (hbl12 gq (by omega))) ((he go (by omega) (by omega) (by omega) (by omega)).trans (hbl12 go (by omega))) (by omega), ?_, ?_⟩
    · rw [HW.out.2.1]
      exact fin_calls (c := { h.calls[j] with stack := st }) hr10 (by omega) hgg11 h12' HOT.out P12 HVC.out.2 hb (he gg (by omega) (by omega) (by omega) (by omega)) (fun g hg => he g (by have := (lgs12 g hg).1; omega) (lgs12 g hg).2 (by have := (lgs12 g hg).1; omega) (by have := (lgs12 g hg).1; omega)) hs
    · rw [HW.out.2.2.2.2.1]
      exact HP1.out.2.1.s.below hb
  have rg12 := rg11.of_block (hbl12 bg (by omega))
  have rq12 := rq11.of_block (hbl12 bq (by omega))
  have rP12 := rP11.of_block (hbl12 _ (by omega))
  have rH12 := rH11.of_block (hbl12 _ (by omega))
  have S0 : BoxS bq bg (.slice (some ⟨gq, oq, none⟩) ms.length cq) (.slice (some ⟨gg, og, none⟩) h.calls.length cg) (.int .i64 (j : Int)) (.int .i64 h.born) (.slice aD h.said.length kD) (.int .i64 0) W12.drew := ⟨rq12.cell (i := 0) (by decide), (five_cells rg12).1⟩
  have lz12 : w.heap.size + 1 + 1 + 1 + 1 < W12.heap.size := by omega
  have HD : Hid ((withH h st).now = (j : Int) ∧ (withH h st).born = h.born ∧ (withH h st).code = 0) := ⟨HW.out.2.2.1.trans E1.out.1, HW.out.2.2.2.1, HW.out.2.2.2.2.2.trans E1.out.2.1⟩
  have hnc : (withH h st).calls.length = h.calls.length := by rw [HW.out.2.1]; simp
  have HPK : Hid (∀ W, Below W12.heap.size W12 W → Calls Tryz.prog 15 #[.agg #[.slice (some ⟨gq, oq, none⟩) ms.length cq]] W fun e w' => e = .returned (.bool (progOk (withP ms h (k, x)))) ∧ Below W.heap.size W w') := fun W hW => specProgOk_any _ (withP ms h (k, x)) W (FF.out W (HP1.out.2.2.trans ((B12.trans (hW.mono B12.size)).mono HP1.out.2.2.size)) (fun r _ h1 _ _ => hW.block r h1) hW.size).1
  have HHK : Hid (∀ W, Below W12.heap.size W12 W → Calls Tryz.prog 9 #[.agg #[.slice (some ⟨gq, oq, none⟩) ms.length cq], .agg #[.slice (some ⟨gg, og, none⟩) h.calls.length cg, .int .i64 (j : Int), .int .i64 h.born, .slice aD h.said.length kD, .int .i64 0]] W fun e w' => e = .returned (.bool (heapOk (withP ms h (k, x)) (withH h st))) ∧ Below W.heap.size W w') := fun W hW => by
    obtain ⟨k1, k2⟩ := FF.out W (HP1.out.2.2.trans ((B12.trans (hW.mono B12.size)).mono HP1.out.2.2.size)) (fun r _ h1 _ _ => hW.block r h1) hW.size
    have := specHeapOk_any _ _ _ (withP ms h (k, x)) (withH h st) W k1 k2 (by omega)
    unfold hpCells at this
    rwa [HD.out.1, HD.out.2.1, HD.out.2.2] at this
  have n1P : w.heap.size + 1 + 1 + 1 ≠ bq := by omega
  have n2P : w.heap.size + 1 + 1 + 1 ≠ bg := by omega
  have n1H : w.heap.size + 1 + 1 + 1 + 1 ≠ bq := by omega
  have n2H : w.heap.size + 1 + 1 + 1 + 1 ≠ bg := by omega
  clear h12 h12' hbl12 z12 P11 P12 hr10 hgg11 lgs lgs12 FM11 rg11 rq11 rP11 rH11 B11 n0 n1 n2 n3 n4 n5 nf0 nf1 nf2 nf3 nf4 nf5 c0 c1 c2 c3 c4 c5 g0 g1 g2 g3 g4 rc11 rg12 rq12 hnc zb11 zb10 hgg hgg' HV HVC HOV HLN HW
  obtain ⟨pk, hpk⟩ : ∃ pk, progOk (withP ms h (k, x)) = pk := ⟨_, rfl⟩
  obtain ⟨hk', hhk⟩ : ∃ hk', heapOk (withP ms h (k, x)) (withH h st) = hk' := ⟨_, rfl⟩
  rw [hpk] at HPK
  rw [hhk] at HHK
  have HEQ : Hid (progOk (withP ms h (k, x)) = pk ∧ heapOk (withP ms h (k, x)) (withH h st) = hk') := ⟨hpk, hhk⟩
  clear hpk hhk
  refine wp_region_noPanic ?_
  refine wp_region_held_drew (S := BoxS bq bg (.slice (some ⟨gq, oq, none⟩) ms.length cq) (.slice (some ⟨gg, og, none⟩) h.calls.length cg) (.int .i64 (j : Int)) (.int .i64 h.born) (.slice aD h.said.length kD) (.int .i64 0)) (by kernel_rfl) S0 (fun _ => ?_)
  refine wpAnyH_take (i := 0) (v := .agg #[.slice (some ⟨gq, oq, none⟩) ms.length cq]) rfl (by kernel_rfl) (by kernel_rfl) (by kernel_rfl) (fun _ _ _ h => h) (Or.inl ⟨by rfl, ?hy1⟩) S0 ?_
  case hy1 =>
    rintro x ⟨k0, k1, k2, k3, k4, k5⟩
    go_simp
  try simp only [Act.put, List.setIfInBounds_toArray]
  refine wpAnyH_take (i := 1) (v := .agg #[.slice (some ⟨gg, og, none⟩) h.calls.length cg, .int .i64 (j : Int), .int .i64 h.born, .slice aD h.said.length kD, .int .i64 0]) rfl (by kernel_rfl) (by kernel_rfl) (by kernel_rfl) (fun _ _ _ h => h) (Or.inl ⟨by rfl, ?hy2⟩) S0 ?_
  case hy2 =>
    rintro x ⟨k0, k1, k2, k3, k4, k5⟩
    go_simp
  try simp only [Act.put]
  refine wpAnyH_take (i := 2) (v := .agg #[.slice (some ⟨gq, oq, none⟩) ms.length cq]) rfl (by kernel_rfl) (by kernel_rfl) (by kernel_rfl) (fun _ _ _ h => h) (Or.inl ⟨by rfl, ?hy3⟩) S0 ?_
  case hy3 =>
    rintro x ⟨k0, k1, k2, k3, k4, k5⟩
    go_simp
  try simp only [Act.put]
  refine wpAnyH_ready (rs := [3]) (by kernel_rfl) (by simp) ?_
  refine AllReadyH.cons rfl (fun K hK => ?_) AllReadyH.nil
  go_simp
  go_at_call 15
  refine (HPK.out W12.drew (Below.refl _ _).drew).mono ?_
  rintro e w13 ⟨rfl, hb13'⟩
  have hb13 : Below W12.heap.size W12 w13 := (Below.refl _ _).drew.trans hb13'
  have S13 : BoxS bq bg (.slice (some ⟨gq, oq, none⟩) ms.length cq) (.slice (some ⟨gg, og, none⟩) h.calls.length cg) (.int .i64 (j : Int)) (.int .i64 h.born) (.slice aD h.said.length kD) (.int .i64 0) w13 := S0.below hb13'
  go_wp2_with fail
  refine hK.out _ _ S13 (fun _ => ?_)
  clear hK K S0 hb13'
  try simp only [Act.put, List.setIfInBounds_toArray, List.set_cons_zero, List.set_cons_succ]
  refine wpAnyH_take (i := 4) (v := .bool pk) rfl (by kernel_rfl) (by kernel_rfl) (by kernel_rfl) (fun _ _ _ h => h) (Or.inl ⟨by rfl, ?hy4⟩) S13 ?_
  case hy4 =>
    intro x _
    go_simp
  try simp only [Act.put, List.setIfInBounds_toArray]
  cases pk
  · refine wpAnyH_take (i := 5) (v := undef) rfl (by kernel_rfl) (by kernel_rfl) (by kernel_rfl) (fun _ _ _ h => h) (Or.inr ⟨by rfl, rfl⟩) S13 ?_
    try simp only [Act.put]
    refine wpAnyH_take (i := 6) (v := undef) rfl (by kernel_rfl) (by kernel_rfl) (by kernel_rfl) (fun _ _ _ h => h) (Or.inr ⟨by rfl, rfl⟩) S13 ?_
    try simp only [Act.put]
    refine wpAnyH_take (i := 7) (v := undef) rfl (by kernel_rfl) (by kernel_rfl) (by kernel_rfl) (fun _ _ _ h => h) (Or.inr ⟨by rfl, rfl⟩) S13 ?_
    try simp only [Act.put]
    refine wpAnyH_take (i := 8) (v := .bool false) rfl (by kernel_rfl) (by kernel_rfl) (by kernel_rfl) (fun _ _ _ h => h) (Or.inl ⟨by rfl, ?hy8⟩) S13 ?_
    case hy8 =>
      intro x _
      go_simp
    try simp only [Act.put]
    have hB13 := B12.trans (hb13.mono B12.size)
    have rP13 := row_below hb13 rP12
    have rH13 := row_below hb13 rH12
    obtain ⟨WF, hWF, f1, f2, f3, fz, fb⟩ := ret_boxes rP13 rH13 (by omega) hB13 (by omega) (by omega) (.slice (some ⟨gq, oq, none⟩) ms.length cq) (.slice (some ⟨gg, og, none⟩) h.calls.length cg) (.slice aD h.said.length kD) (j : Int) h.born 0
    have p0 := rP13.cell (i := 0) (by decide)
    have pf := rP13.frozen 0
    obtain ⟨⟨t0, t1, t2, t3, t4⟩, j0, j1, j2, j3, j4⟩ := five_cells rH13
    have SP := S13.far (p := ⟨w.heap.size + 1 + 1 + 1, 0, none⟩) (.slice (some ⟨gq, oq, none⟩) ms.length cq) n1P n2P
    have SH := ((((SP.far (p := ⟨w.heap.size + 1 + 1 + 1 + 1, 0, none⟩) (.slice (some ⟨gg, og, none⟩) h.calls.length cg) n1H n2H).far (p := ⟨w.heap.size + 1 + 1 + 1 + 1, 1, none⟩) (.int .i64 (j : Int)) n1H n2H).far (p := ⟨w.heap.size + 1 + 1 + 1 + 1, 2, none⟩) (.int .i64 h.born) n1H n2H).far (p := ⟨w.heap.size + 1 + 1 + 1 + 1, 3, none⟩) (.slice aD h.said.length kD) n1H n2H).far (p := ⟨w.heap.size + 1 + 1 + 1 + 1, 4, none⟩) (.int .i64 0) n1H n2H
    rw [← hWF] at SH
    refine wpAnyH_ready (rs := [9]) (by kernel_rfl) (by simp) ?_
    refine AllReadyH.cons rfl (fun K hK => ?_) AllReadyH.nil
    go_simp
    refine hK.out _ _ SP (fun _ => ?_)
    clear hK K
    try simp only [Act.put, List.setIfInBounds_toArray, List.set_cons_zero, List.set_cons_succ]
    refine wpAnyH_ready (rs := [10]) (by kernel_rfl) (by simp) ?_
    refine AllReadyH.cons rfl (fun K hK => ?_) AllReadyH.nil
    go_simp
    rw [← hWF]
    refine hK.out _ _ SH (fun _ => ?_)
    clear hK K hWF
    try simp only [Act.put, List.setIfInBounds_toArray, List.set_cons_zero, List.set_cons_succ]
    refine wpAnyH_ready (rs := [11]) (by kernel_rfl) (by simp) ?_
    refine AllReadyH.cons rfl (fun K hK => ?_) AllReadyH.nil
    go_simp
    refine hK.out _ _ SH (fun _ => ?_)
    clear hK K
    try simp only [Act.put, List.setIfInBounds_toArray, List.set_cons_zero, List.set_cons_succ]
    refine wpAnyH_done (by kernel_rfl) ?_ _
    refine NoPanic.normal ?_
    obtain ⟨⟨q0, q1, q2, q3, q4⟩, _⟩ := five_cells f2
    have KF : ∀ w'', WF.heap.size ≤ w''.heap.size → Below w0.heap.size w0 w'' → (∀ r, w.heap.size ≤ r → r < WF.heap.size → w''.heap[r]? = WF.heap[r]?) → MethsAt w'' (.slice (some ⟨gq, oq, none⟩) ms.length cq) (withP ms h (k, x)) ∧ HeapAt w'' (.slice (some ⟨gg, og, none⟩) h.calls.length cg) (.slice aD h.said.length kD) (withH h st) := fun w'' e1 e2 e3 => FF.out w'' e2 (fun r h0 h1 h2 h3 => (e3 r h0 (by have := hb13.size; omega)).trans ((fb r h2 h3).trans (hb13.block r h1))) (by have := hb13.size; omega)
    have HKF : Hid (∀ w'', WF.heap.size ≤ w''.heap.size → Below w0.heap.size w0 w'' → (∀ r, w.heap.size ≤ r → r < WF.heap.size → w''.heap[r]? = WF.heap[r]?) → MethsAt w'' (.slice (some ⟨gq, oq, none⟩) ms.length cq) (withP ms h (k, x)) ∧ HeapAt w'' (.slice (some ⟨gg, og, none⟩) h.calls.length cg) (.slice aD h.said.length kD) (withH h st)) := KF
    clear KF
    clear t0 t1 t2 t3 t4 j0 j1 j2 j3 j4 p0 pf
    go_wp2
    exact bodyPost_ret (v := .tuple #[.agg #[.slice (some ⟨gq, oq, none⟩) ms.length cq], .agg #[.slice (some ⟨gg, og, none⟩) h.calls.length cg, .int .i64 (j : Int), .int .i64 h.born, .slice aD h.said.length kD, .int .i64 0], .bool (false)]) (by simp [results, Tryz.results6, go_sem, f1, q0, q1, q2, q3, q4]) rfl ⟨_, _, by rw [HEQ.out.1, HEQ.out.2, HD.out.1, HD.out.2.1, HD.out.2.2]; rfl, HKF.out, f3⟩
  · refine wpAnyH_take (i := 5) (v := .agg #[.slice (some ⟨gq, oq, none⟩) ms.length cq]) rfl (by kernel_rfl) (by kernel_rfl) (by kernel_rfl) (fun _ _ _ h => h) (Or.inl ⟨by rfl, ?hy9⟩) S13 ?_
    case hy9 =>
      rintro x ⟨k0, k1, k2, k3, k4, k5⟩
      go_simp
    try simp only [Act.put]
    refine wpAnyH_take (i := 6) (v := .agg #[.slice (some ⟨gg, og, none⟩) h.calls.length cg, .int .i64 (j : Int), .int .i64 h.born, .slice aD h.said.length kD, .int .i64 0]) rfl (by kernel_rfl) (by kernel_rfl) (by kernel_rfl) (fun _ _ _ h => h) (Or.inl ⟨by rfl, ?hy10⟩) S13 ?_
    case hy10 =>
      rintro x ⟨k0, k1, k2, k3, k4, k5⟩
      go_simp
    try simp only [Act.put]
    refine wpAnyH_ready (rs := [7]) (by kernel_rfl) (by simp) ?_
    refine AllReadyH.cons rfl (fun K hK => ?_) AllReadyH.nil
    go_simp
    go_at_call 9
    refine (HHK.out w13 hb13).mono ?_
    rintro e w14 ⟨rfl, hb14'⟩
    have hb14 := hb13.trans (hb14'.mono hb13.size)
    have S14 : BoxS bq bg (.slice (some ⟨gq, oq, none⟩) ms.length cq) (.slice (some ⟨gg, og, none⟩) h.calls.length cg) (.int .i64 (j : Int)) (.int .i64 h.born) (.slice aD h.said.length kD) (.int .i64 0) w14 := S13.below hb14'
    go_wp2_with fail
    refine hK.out _ _ S14 (fun _ => ?_)
    clear hK K hb14'
    try simp only [Act.put, List.setIfInBounds_toArray, List.set_cons_zero, List.set_cons_succ]
    refine wpAnyH_take (i := 8) (v := .bool hk') rfl (by kernel_rfl) (by kernel_rfl) (by kernel_rfl) (fun _ _ _ h => h) (Or.inl ⟨by rfl, ?hy11⟩) S14 ?_
    case hy11 =>
      intro x _
      go_simp
    try simp only [Act.put, List.setIfInBounds_toArray]
    have hB14 := B12.trans (hb14.mono B12.size)
    have rP14 := row_below hb14 rP12
    have rH14 := row_below hb14 rH12
    obtain ⟨WF, hWF, f1, f2, f3, fz, fb⟩ := ret_boxes rP14 rH14 (by omega) hB14 (by omega) (by omega) (.slice (some ⟨gq, oq, none⟩) ms.length cq) (.slice (some ⟨gg, og, none⟩) h.calls.length cg) (.slice aD h.said.length kD) (j : Int) h.born 0
    have p0 := rP14.cell (i := 0) (by decide)
    have pf := rP14.frozen 0
    obtain ⟨⟨t0, t1, t2, t3, t4⟩, j0, j1, j2, j3, j4⟩ := five_cells rH14
    have SP := S14.far (p := ⟨w.heap.size + 1 + 1 + 1, 0, none⟩) (.slice (some ⟨gq, oq, none⟩) ms.length cq) n1P n2P
    have SH := ((((SP.far (p := ⟨w.heap.size + 1 + 1 + 1 + 1, 0, none⟩) (.slice (some ⟨gg, og, none⟩) h.calls.length cg) n1H n2H).far (p := ⟨w.heap.size + 1 + 1 + 1 + 1, 1, none⟩) (.int .i64 (j : Int)) n1H n2H).far (p := ⟨w.heap.size + 1 + 1 + 1 + 1, 2, none⟩) (.int .i64 h.born) n1H n2H).far (p := ⟨w.heap.size + 1 + 1 + 1 + 1, 3, none⟩) (.slice aD h.said.length kD) n1H n2H).far (p := ⟨w.heap.size + 1 + 1 + 1 + 1, 4, none⟩) (.int .i64 0) n1H n2H
    rw [← hWF] at SH
    refine wpAnyH_ready (rs := [9]) (by kernel_rfl) (by simp) ?_
    refine AllReadyH.cons rfl (fun K hK => ?_) AllReadyH.nil
    go_simp
    refine hK.out _ _ SP (fun _ => ?_)
    clear hK K
    try simp only [Act.put, List.setIfInBounds_toArray, List.set_cons_zero, List.set_cons_succ]
    refine wpAnyH_ready (rs := [10]) (by kernel_rfl) (by simp) ?_
    refine AllReadyH.cons rfl (fun K hK => ?_) AllReadyH.nil
    go_simp
    rw [← hWF]
    refine hK.out _ _ SH (fun _ => ?_)
    clear hK K hWF
    try simp only [Act.put, List.setIfInBounds_toArray, List.set_cons_zero, List.set_cons_succ]
    refine wpAnyH_ready (rs := [11]) (by kernel_rfl) (by simp) ?_
    refine AllReadyH.cons rfl (fun K hK => ?_) AllReadyH.nil
    go_simp
    refine hK.out _ _ SH (fun _ => ?_)
    clear hK K
    try simp only [Act.put, List.setIfInBounds_toArray, List.set_cons_zero, List.set_cons_succ]
    refine wpAnyH_done (by kernel_rfl) ?_ _
    refine NoPanic.normal ?_
    obtain ⟨⟨q0, q1, q2, q3, q4⟩, _⟩ := five_cells f2
    have KF : ∀ w'', WF.heap.size ≤ w''.heap.size → Below w0.heap.size w0 w'' → (∀ r, w.heap.size ≤ r → r < WF.heap.size → w''.heap[r]? = WF.heap[r]?) → MethsAt w'' (.slice (some ⟨gq, oq, none⟩) ms.length cq) (withP ms h (k, x)) ∧ HeapAt w'' (.slice (some ⟨gg, og, none⟩) h.calls.length cg) (.slice aD h.said.length kD) (withH h st) := fun w'' e1 e2 e3 => FF.out w'' e2 (fun r h0 h1 h2 h3 => (e3 r h0 (by have := hb14.size; omega)).trans ((fb r h2 h3).trans (hb14.block r h1))) (by have := hb14.size; omega)
    have HKF : Hid (∀ w'', WF.heap.size ≤ w''.heap.size → Below w0.heap.size w0 w'' → (∀ r, w.heap.size ≤ r → r < WF.heap.size → w''.heap[r]? = WF.heap[r]?) → MethsAt w'' (.slice (some ⟨gq, oq, none⟩) ms.length cq) (withP ms h (k, x)) ∧ HeapAt w'' (.slice (some ⟨gg, og, none⟩) h.calls.length cg) (.slice aD h.said.length kD) (withH h st)) := KF
    clear KF
    clear t0 t1 t2 t3 t4 j0 j1 j2 j3 j4 p0 pf
    go_wp2
    exact bodyPost_ret (v := .tuple #[.agg #[.slice (some ⟨gq, oq, none⟩) ms.length cq], .agg #[.slice (some ⟨gg, og, none⟩) h.calls.length cg, .int .i64 (j : Int), .int .i64 h.born, .slice aD h.said.length kD, .int .i64 0], .bool (hk')]) (by simp [results, Tryz.results6, go_sem, f1, q0, q1, q2, q3, q4]) rfl ⟨_, _, by rw [HEQ.out.1, HEQ.out.2, HD.out.1, HD.out.2.1, HD.out.2.2]; rfl, HKF.out, f3⟩
end Go.Proofs.YtlpbklgkafjfmaaGreatDoor
