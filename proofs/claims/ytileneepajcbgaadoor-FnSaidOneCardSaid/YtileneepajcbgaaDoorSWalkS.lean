/-
  The model's heap at work, walked: step.
-/
import Derived.Test.YtileneepajcbgaaDoorSWalkD
import Derived.Test.YtileneepajcbgaaDoorVSpec
import Derived.Test.YtileneepajcbgaaDoorTakes2

namespace Go.Proofs.YtileneepajcbgaaDoor
open Go.RowKit
theorem SM.stackNew {A : Nat → Prop} {B : Nat} {w w2 : World} {bo : Nat} {vp vs : Value} {g off n cap : Nat} {ms : List (Int × Int × List (Int × Int))} {h : Hp} {V : Nat → Value × Value} (k : SM A B w bo vp (.slice (some ⟨g, off, none⟩) n cap) vs ms h V) {j : Nat} (hj : j < h.calls.length) {v' : Value} {st : List (Int × Int)} (hB : B ≤ w.heap.size) (hW : Below w.heap.size w w2) (hr : PairRow w.heap.size w2 v' st) :
    (∃ V', SM A B (w2.setCell ⟨g, off + j * 6 + 3, none⟩ v') bo vp (.slice (some ⟨g, off, none⟩) n cap) vs ms { h with calls := h.calls.set j { h.calls[j] with stack := st } } V') ∧ Cm A B w (w2.setCell ⟨g, off + j * 6 + 3, none⟩ v') := by
  have hgB := (k.own.c.lt (g := g) (.inl rfl)).1
  have b3 := (hW.mono hB).setCell (p := ⟨g, off + j * 6 + 3, none⟩) hgB v'
  have r := k.put hj (put_stack k.own.c hj v' st hW.size (fun q hq _ => hW.block q hq) (hr.mono hB) (fun q e => .inr (hr.lt q e).1)) b3
  exact ⟨⟨_, r.1⟩, r.2⟩
set_option maxRecDepth 100000 in
set_option maxHeartbeats 8000000 in
theorem step_any {A : Nat → Prop} {B : Nat} {w : World} {bo : Nat} {vp vc vs : Value} {ms : List (Int × Int × List (Int × Int))} {h : Hp} {V : Nat → Value × Value} (k : SM A B w bo vp vc vs ms h V) (hB : B ≤ w.heap.size) (hg : Good ms h) (hc : h.code = 0) (hsd : h.said.length ≤ 2900000) :
    Calls Tryd.prog 36 #[.pointer (some ⟨bo, 0, none⟩)] w fun e w' => e = .returned (.tuple #[]) ∧ (∃ vc' vs' V', SM A B w' bo vp vc' vs' ms (stepH ms h) V') ∧ Cm A B w w' := by
  have hn0 : 0 ≤ h.now := by
    by_cases q : h.now < 0
    · have := hg.head.fin.2 q; omega
    · omega
  obtain ⟨j, hn⟩ : ∃ j : Nat, h.now = j := ⟨h.now.toNat, by omega⟩
  have hj : j < h.calls.length := by have := hg.head.now; omega
  obtain ⟨g, off, cap, hvc, _⟩ := k.own.c.form (by omega)
  subst hvc
  have c := hg.cl j hj
  obtain ⟨m, hm⟩ := Int.eq_ofNat_of_zero_le c.m.1
  obtain ⟨pc, hpc⟩ := Int.eq_ofNat_of_zero_le c.pc.1
  have hml : m < ms.length := by have := c.m; omega
  obtain ⟨ap, cp, hvp, hlp, hms⟩ := id k.prog
  obtain ⟨pb, po, vo, hap, p0, p1, p2, p3⟩ := hms m hml
  obtain ⟨oa, oc, hvo, hol, hops⟩ := id p3
  subst hvp hap hvo
  clear hms
  obtain ⟨⟨x0, x1, x2, x3, x4, x5⟩, _, _, _, _, _, f5⟩ := six_cells k.box
  obtain ⟨⟨c0, c1, c2, c3, c4, c5⟩, fz⟩ := k.own.c.cells hj
  rw [hm] at c0
  rw [hpc] at c1
  have hmz : (m : Int) < (ms.length : Int) := by omega
  have hgl := (k.own.c.lt (g := g) (.inl rfl)).2
  have hbo : bo < w.heap.size := k.box.lt
  have hcur := cur_at hn hj
  go_enter Tryd.func36, Tryd.ntmps36
  go_upto_region 1 with (go_at_call 43; refine (now_drew k hn hj).mono ?_; rintro e w' ⟨rfl, hw⟩; obtain rfl := hw)
  go_region
  have hD2 : Below w.heap.size w w.drew.drew := (Below.refl _ _).drew.drew
  have k2 := k.below hD2
  have cm2 := k.cm hD2 hB
  have p0' := cell_below hD2 p0
  have p1' := cell_below hD2 p1
  have p2' := cell_below hD2 p2
  have p3' := p3.below hD2
  have hB2 : B ≤ w.drew.drew.heap.size := hB
  have hgl2 : g < w.drew.drew.heap.size := hgl
  have hbo2 : bo < w.drew.drew.heap.size := hbo
  clear x0 x1 x2 x3 x4 x5 f5 c0 c1 c2 c3 c4 c5 fz p0 p1 p2 p3 k hD2 hB hgl hbo hops
  generalize w.drew.drew = W2 at *
  obtain ⟨⟨x0, x1, x2, x3, x4, x5⟩, _, _, _, _, _, f5⟩ := six_cells k2.box
  obtain ⟨⟨c0, c1, c2, c3, c4, c5⟩, fz⟩ := k2.own.c.cells hj
  rw [hm] at c0
  rw [hpc] at c1
  by_cases hlp2 : ms[m].2.2.length ≤ pc
  · have hlz : ((ms[m].2.2.length : Nat) : Int) ≤ (pc : Int) := by omega
    have HR : Hid (stepH ms h = { h with code := 2 }) := stepH_past hn hj hm hpc hml hlp2
    obtain ⟨k3, cm3⟩ := k2.setCode 2
    go_wp2
    refine bodyPost_ret (results_none rfl _ _ _) rfl ⟨rfl, ⟨.slice (some ⟨g, off, none⟩) h.calls.length cap, vs, V, ?_⟩, cm2.trans cm3⟩
    rw [HR.out]
    exact k3
  have hlz : ¬ ((ms[m].2.2.length : Nat) : Int) ≤ (pc : Int) := by omega
  have hpl : pc < ms[m].2.2.length := by omega
  obtain ⟨_, _, hve, _, hops⟩ := id p3'
  cases hve
  obtain ⟨ob, oo, hob, q0, q1⟩ := hops pc hpl
  subst hob
  have hpz : (pc : Int) < (ms[m].2.2.length : Int) := by omega
  have HT := specTakes_any (.slice (some ⟨pb, po, none⟩) ms.length cp) ms ms[m].2.2[pc].1 ms[m].2.2[pc].2
  clear hops
  obtain ⟨kk, a, ho⟩ : ∃ kk a, ms[m].2.2[pc] = (kk, a) := ⟨_, _, rfl⟩
  obtain ⟨t, l, ht⟩ : ∃ t l, takesOf ms kk a = (t, l) := ⟨_, _, rfl⟩
  have HO : Hid (ms[m].2.2[pc] = (kk, a) ∧ takesOf ms kk a = (t, l)) := ⟨ho, ht⟩
  rw [ho] at q0 q1 HT
  simp only [ht] at q0 q1 HT
  have HTB := takes_bound hg.head.p kk a
  rw [ht] at HTB
  simp only [] at HTB
  clear ho ht
  go_upto_region 5 with fail
  have hA3 : Below W2.heap.size W2 (W2.alloc (.cells #[.int .i64 kk, .int .i64 a] 85)) := (Below.refl _ _).alloc (Nat.le_refl _) _
  have ro := duo_new W2 85 (.int .i64 kk) (.int .i64 a)
  have k3 := k2.below hA3
  obtain ⟨⟨y0, y1, y2, y3, y4, y5⟩, _, _, _, _, _, g5⟩ := six_cells k3.box
  obtain ⟨⟨u0, u1⟩, _⟩ := duo_cells ro
  generalize W2.alloc (.cells #[.int .i64 kk, .int .i64 a] 85) = W3 at *
  go_region_with (go_at_call 44; refine (HT _ (k3.drew.prog)).mono ?_; rintro e w5 ⟨rfl, hb5⟩)
  all_goals
    have hW5 : Below W2.heap.size W2 w5 := hA3.drew.trans (hb5.mono hA3.size)
    have k5 := k2.below hW5
    have cm5 : Cm A B w w5 := cm2.trans (k2.cm hW5 hB2)
    have ro5 := row_below hb5 (show W3.drew.rowIs W2.heap.size 85 2 _ from ro)
    have hB5 : B ≤ w5.heap.size := by have := hW5.size; omega
    clear x0 x1 x2 x3 x4 x5 f5 c0 c1 c2 c3 c4 c5 fz y0 y1 y2 y3 y4 y5 g5 u0 u1 q0 q1 p0' p1' p2' p3' k3 hA3 HT
    obtain ⟨⟨x0, x1, x2, x3, x4, x5⟩, _, _, _, _, _, f5⟩ := six_cells k5.box
    obtain ⟨⟨c0, c1, c2, c3, c4, c5⟩, fz⟩ := k5.own.c.cells hj
    rw [hpc] at c1
    obtain ⟨⟨u0, u1⟩, _⟩ := duo_cells ro5
    obtain ⟨sa, sc, hVs, _⟩ := (k5.own.c.lists j hj).2.slice
    rw [hVs] at c3
    have hs6 := c.s
    have hwl : IntKind.i64.wrap ((h.calls[j].stack.length : Int) - t) = (h.calls[j].stack.length : Int) - t := by rw [IntKind.wrap_i64]; omega
    have hwl2 : IntKind.i64.wrap ((h.calls[j].stack.length : Int) - t + l) = (h.calls[j].stack.length : Int) - t + l := by rw [IntKind.wrap_i64]; omega
    by_cases hbad : (h.calls[j].stack.length : Int) - t < 0 ∨ 6 < (h.calls[j].stack.length : Int) - t + l
    · have HR : Hid (stepH ms h = { h with code := 2 }) := by show _ = _; rw [stepH_at hn hj hm hpc hml hpl HO.out.1 HO.out.2, if_pos hbad]
      obtain ⟨k6, cm6⟩ := k5.setCode 2
      have fin : (∃ vc' vs' V', SM A B (w5.setCell ⟨bo, 5, none⟩ (.int .i64 2)) bo (.slice (some ⟨pb, po, none⟩) ms.length cp) vc' vs' ms (stepH ms h) V') ∧ Cm A B w (w5.setCell ⟨bo, 5, none⟩ (.int .i64 2)) := by
        refine ⟨⟨.slice (some ⟨g, off, none⟩) h.calls.length cap, vs, V, ?_⟩, cm5.trans cm6⟩
        rw [HR.out]
        exact k6
      by_cases hneg : (h.calls[j].stack.length : Int) - t < 0
      · go_wp2
        exact bodyPost_ret (results_none rfl _ _ _) rfl ⟨rfl, fin⟩
      · have hbig : 6 < (h.calls[j].stack.length : Int) - t + l := by omega
        go_wp2
        exact bodyPost_ret (results_none rfl _ _ _) rfl ⟨rfl, fin⟩
    · obtain ⟨L, hL⟩ : ∃ L : Nat, (h.calls[j].stack.length : Int) - t = (L : Int) := ⟨((h.calls[j].stack.length : Int) - t).toNat, by omega⟩
      have hLn : L ≤ h.calls[j].stack.length := by omega
      have hneg : ¬ ((L : Int) < 0) := by omega
      have hbig : ¬ (6 < (L : Int) + l) := by omega
      have hLz : (L : Int) ≤ (h.calls[j].stack.length : Int) := by omega
      rw [hL] at hwl hwl2
      have hsr := (k5.own.c.lists j hj).2
      rw [hVs] at hsr
      obtain ⟨hpF, _⟩ := hsr.piece (l := L) (k := h.calls[j].stack.length) hLn (Nat.le_refl _)
      obtain ⟨hpT, hLc⟩ := hsr.piece (l := 0) (k := L) (Nat.zero_le _) hLn
      rw [List.take_length] at hpF
      rw [List.drop_zero] at hpT
      have hfrom : ∀ W, (Instr.slice 23 (.slice sa h.calls[j].stack.length sc) (some (.int .i64 (L : Int))) none none).run Tryd.prog W = .ok (sliced sa L h.calls[j].stack.length sc 2) W := fun W => val_from W sa _ sc L hLn
      have hto : ∀ W, (Instr.slice 23 (.slice sa h.calls[j].stack.length sc) none (some (.int .i64 (L : Int))) none).run Tryd.prog W = .ok (sliced sa 0 L sc 2) W := fun W => val_to W sa _ sc L hLc
      generalize sliced sa L h.calls[j].stack.length sc 2 = VF at *
      generalize sliced sa 0 L sc 2 = VT at *
      have N6 : Below w5.heap.size w5 (w5.alloc (.cells #[] 42)) := (Below.refl _ _).alloc (Nat.le_refl _) _
      have mk6 := PairRow.made (B := w5.heap.size) (w := w5) (e := 42) (Nat.le_refl _)
      have hF6 := hpF.below N6
      have hgl5 := (k5.own.c.lt (g := g) (.inl rfl)).2
      have hbo5 : bo < w5.heap.size := k5.box.lt
      have HSE : Hid (stepH ms h = if kindsOk kk (h.calls[j].stack.drop L) = false then { h with code := 2 } else doH ms { h with calls := h.calls.set j { h.calls[j] with stack := h.calls[j].stack.take L, pc := (pc : Int) + 1 } } kk a (h.calls[j].stack.drop L)) := by
        show _ = _
        rw [stepH_at hn hj hm hpc hml hpl HO.out.1 HO.out.2, if_neg hbad, hL, Int.toNat_natCast]
      have HDo : Hid (kindsOk kk (h.calls[j].stack.drop L) = true → Doing ms { h with calls := h.calls.set j { h.calls[j] with stack := h.calls[j].stack.take L, pc := (pc : Int) + 1 } } j kk a (h.calls[j].stack.drop L)) := fun hk => by
        have := doing_at hg hc hn hj hm hpc hml hpl HO.out.1 HO.out.2 hbad (by rw [hL, Int.toNat_natCast]; exact hk)
        rw [hL, Int.toNat_natCast] at this
        exact this
      have hdl : ((h.calls[j].stack.drop L).length : Int) = t := by simp; omega
      have htl : (h.calls[j].stack.take L).length ≤ 6 := by simp; omega
      have HK5 : Hid ((kk = 5 → (h.calls[j].stack.drop L).length = 2) ∧ (kk = 12 ∨ kk = 13 ∨ kk = 14 ∨ kk = 15 ∨ kk = 17 ∨ kk = 18 → 1 ≤ (h.calls[j].stack.drop L).length)) := by
        have e := HO.out.2
        refine ⟨fun q => ?_, fun q => ?_⟩
        · subst q
          rw [takes_num (by decide)] at e
          injection e with e1 e2
          have : tk 5 = 2 := rfl
          omega
        · rw [takes_num (by omega)] at e
          injection e with e1 e2
          have : 1 ≤ tk kk := by
            rcases q with q | q | q | q | q | q <;> subst q <;> decide
          omega
      generalize h.calls[j].stack.drop L = DR at *
      generalize h.calls[j].stack.take L = TK at *
      have hdl6 : DR.length ≤ 6 := by omega
      clear hbad hsr
      go_upto_region 10 with (at_builtin; refine append_vals _ (by rfl) _ _ (by rfl) w5.heap.size _ _ [] DR (by rfl) (by rfl) mk6 hF6 (by simp; omega) (by simp) ?_; intro v6 w6 hrow6 hg6 hb6; rw [List.nil_append] at hrow6; obtain ⟨a6, c6, hv6, _⟩ := hrow6.slice; subst hv6)
      have b56 : Below w5.heap.size w5 w6 := N6.grown hg6 N6.size (fun q e => (mk6.lt q e).1)
      have hz56 := b56.size
      have ro6 := row_below b56 ro5
      have hK := l11Kinds_any kk a (.slice a6 DR.length c6) DR w6 hrow6.at HK5.out.1 HK5.out.2
      clear hg6 hb6 N6 mk6 hF6 u0 u1
      obtain ⟨⟨u0, u1⟩, _⟩ := duo_cells ro6
      cases hkb : kindsOk kk DR
      · have HR : Hid (stepH ms h = { h with code := 2 }) := by show _ = _; rw [HSE.out, hkb]; rfl
        rw [hkb] at hK
        go_wp2_with (go_at_call 45; refine hK.mono ?_; rintro e w7 ⟨rfl, hb7⟩; have b57 := b56.trans (hb7.mono hz56); have k7 := k5.below b57; obtain ⟨⟨z0, z1, z2, z3, z4, z5⟩, _, _, _, _, _, g5⟩ := six_cells k7.box)
        obtain ⟨k8, cm8⟩ := k7.setCode 2
        refine bodyPost_ret (results_none rfl _ _ _) rfl ⟨rfl, ⟨.slice (some ⟨g, off, none⟩) h.calls.length cap, vs, V, ?_⟩, cm5.trans ((k5.cm b57 hB5).trans cm8)⟩
        rw [HR.out]
        exact k8
      · have d := HDo.out hkb
        have HR : Hid (stepH ms h = doH ms { h with calls := h.calls.set j { h.calls[j] with stack := TK, pc := (pc : Int) + 1 } } kk a DR) := by show _ = _; rw [HSE.out, hkb]; rfl
        rw [hkb] at hK
        clear x0 x1 x2 x3 x4 x5 f5 c0 c1 c2 c3 c4 c5 fz
        go_upto_region 12 with (go_at_call 45; refine hK.mono ?_; rintro e w7 ⟨rfl, hb7⟩)
        have b57 := b56.trans (hb7.mono hz56)
        have hz57 := b57.size
        have k7 := k5.below b57
        have ro7 := row_below hb7 ro6
        have hrow7 := hrow6.below hb7
        have hpT7 := hpT.below b57
        have hB7 : B ≤ w7.heap.size := by omega
        have hgl7 : g < w7.heap.size := by omega
        obtain ⟨⟨c0, c1, c2, c3, c4, c5⟩, fz⟩ := k7.own.c.cells hj
        rw [hVs] at c3
        have N8 : Below w7.heap.size w7 (w7.alloc (.cells #[] 42)) := (Below.refl _ _).alloc (Nat.le_refl _) _
        have mk8 := PairRow.made (B := w7.heap.size) (w := w7) (e := 42) (Nat.le_refl _)
        have hT8 := hpT7.below N8
        clear fz
        go_upto_region 13 with (at_builtin; refine append_vals _ (by rfl) _ _ (by rfl) w7.heap.size _ _ [] TK (by rfl) (by rfl) mk8 hT8 (by simp; omega) (by simp) ?_; intro v9 w9 hrow9 hg9 hb9; rw [List.nil_append] at hrow9; obtain ⟨a9, c9, hv9, _⟩ := hrow9.slice; subst hv9; have b79 : Below w7.heap.size w7 w9 := N8.grown hg9 N8.size (fun q e => (mk8.lt q e).1); have k9 := k7.below b79; obtain ⟨⟨_, _, _, z3, _, _⟩, fz9⟩ := k9.own.c.cells hj; rw [hVs] at z3; have f3 := fz9 3 (by decide); clear fz9)
        have hz79 := b79.size
        have hW2g : W2.heap.size ≠ g := by omega
        obtain ⟨⟨V10, k10⟩, cm10⟩ := k7.stackNew hj hB7 b79 hrow9
        have ro10 : (w9.setCell ⟨g, off + j * 6 + 3, none⟩ (.slice a9 TK.length c9)).rowIs W2.heap.size 85 2 (duo (.int .i64 kk) (.int .i64 a)) := (row_below b79 ro7).of_block (Below.heap_setCell _ _ _ _ hW2g)
        have hrow10 := (hrow7.below b79).set_other (p := ⟨g, off + j * 6 + 3, none⟩) (.slice a9 TK.length c9) (fun e => by have := (hrow7.lt _ e).1; simp at this; omega)
        have hj10 : j < (h.calls.set j { h.calls[j] with stack := TK }).length := by simpa using hj
        obtain ⟨⟨m0, m1, m2, m3, m4, m5⟩, fz10⟩ := k10.own.c.cells hj10
        have f1 := fz10 1 (by decide)
        simp only [List.getElem_set_self] at m1
        rw [hpc] at m1
        have hgB := (k10.own.c.lt (g := g) (.inl rfl)).1
        have hcmT : Cm A B w (w9.setCell ⟨g, off + j * 6 + 3, none⟩ (.slice a9 TK.length c9)) := cm5.trans ((k5.cm b57 hB5).trans cm10)
        clear fz10 c0 c1 c2 c3 c4 c5 z3 f3 hrow9 hg9 hb9 b79 N8 mk8 hT8 k9 cm10
        generalize w9.setCell ⟨g, off + j * 6 + 3, none⟩ (.slice a9 TK.length c9) = W10 at *
        obtain ⟨k11, cm11⟩ := k10.put hj10 (put_cell k10.own.c hj10 1 (.int .i64 ((pc : Int) + 1)) { (h.calls.set j { h.calls[j] with stack := TK })[j] with pc := (pc : Int) + 1 } (by decide) rfl rfl rfl rfl rfl rfl) ((Below.refl B W10).setCell (p := ⟨g, off + j * 6 + 1, none⟩) hgB _)
        simp only [List.getElem_set_self, List.set_set] at k11
        have k11' : SM A B (W10.setCell ⟨g, off + j * 6 + 1, none⟩ (.int .i64 ((pc : Int) + 1))) bo (.slice (some ⟨pb, po, none⟩) ms.length cp) (.slice (some ⟨g, off, none⟩) (h.calls.set j { h.calls[j] with stack := TK, pc := (pc : Int) + 1 }).length cap) vs ms { h with calls := h.calls.set j { h.calls[j] with stack := TK, pc := (pc : Int) + 1 } } (putV V10 j ((V10 j).1, (V10 j).2)) := by rw [List.length_set]; exact k11
        have hB11 : B ≤ (W10.setCell ⟨g, off + j * 6 + 1, none⟩ (.int .i64 ((pc : Int) + 1))).heap.size := by have := hcmT.b.size; simp [World.setCell]; have := cm11.b.size; simp [World.setCell] at this; have := cm5.b.size; have := k11.own.c.lt (g := g) (.inl rfl); simp [World.setCell] at this; omega
        have ro11 := (show (W10.setCell ⟨g, off + j * 6 + 1, none⟩ (.int .i64 ((pc : Int) + 1))).rowIs W2.heap.size 85 2 (duo (.int .i64 kk) (.int .i64 a)) from ro10.of_block (Below.heap_setCell _ _ _ _ hW2g))
        have hrow11 := hrow10.set_other (p := ⟨g, off + j * 6 + 1, none⟩) (.int .i64 ((pc : Int) + 1)) (fun e => by have := (hrow10.lt _ e).1; simp at this; omega)
        have hDo := do_any k11' hB11 kk a (.slice a6 DR.length c6) DR hrow11.at d hsd
        have hwp : IntKind.i64.wrap ((pc : Int) + 1) = (pc : Int) + 1 := by rw [IntKind.wrap_i64]; have := c.pc; rw [hpc] at this; unfold maxLen at hol; omega
        go_upto_region 14 with fail
        generalize W10.setCell ⟨g, off + j * 6 + 1, none⟩ (.int .i64 ((pc : Int) + 1)) = W11 at *
        clear u0 u1
        obtain ⟨⟨u0, u1⟩, _⟩ := duo_cells ro11
        go_wp2_with (go_at_call 46; refine hDo.mono ?_; rintro e w12 ⟨rfl, hSM, cm12⟩)
        refine bodyPost_end (results_none rfl _ _ _) rfl ⟨rfl, ?_, hcmT.trans (cm11.trans cm12)⟩
        rw [HR.out]
        exact hSM
end Go.Proofs.YtileneepajcbgaaDoor
