/-
  Calls that get other numbers, by where things have their places: renumberedVals and renumbered with ofTwin and ofCaller. (Written by mkmt2.py.)
-/
import Derived.Test.YtldiccheboipeaaMThing1
import Derived.Test.YtldiccheboipeaaVImpl4

namespace Go.Proofs.Ytldiccheboipeaa
open Go.RowKit
def renW (f : Int → Int) (v : Int × Int) : Int × Int := if v.1 = 2 then (v.1, f v.2) else v
set_option maxRecDepth 100000 in
set_option maxHeartbeats 4000000 in
theorem renumValsT_any (vp vo vt vs vl : Value) (m : Mc) (vv : Value) (vals : List (Int × Int)) (w : World) (h : Pl w vp vo vt vs vl m) (hl : OpsAt w vv vals) (hvn : vals.length ≤ 1000) (hok : ∀ i, (hi : i < vals.length) → vals[i].1 = 2 → tellB m vals[i].2 = true) :
    Calls Try.prog 132 #[vv, .func (.func 133) #[.agg (mcCells vp vo vt vs m ++ [vl, .int .i64 (framesN m.pages : Int)]).toArray] #[]] w fun e w' => ∃ v, e = .returned v ∧ PairRow w.heap.size w' v (vals.map (renW (plTw m))) ∧ Below w.heap.size w w' := by
  have hPl := h
  obtain ⟨hM, hL, hN, hTn⟩ := h
  obtain ⟨ap, cp, hvp, hlp, hcp⟩ := id hM.p
  obtain ⟨ao, co, hvo⟩ := hM.o.shape
  obtain ⟨at', ct, hvt, hlt', hct⟩ := id hM.t
  obtain ⟨as', cs, hvs⟩ := hM.s.shape
  obtain ⟨al, cl, hvl, hll, hcl⟩ := id hL
  subst hvp hvo hvt hvs hvl
  unfold mcCells
  simp only [List.cons_append, List.nil_append]
  obtain ⟨av, cv, hvv, _, _⟩ := id hl
  subst hvv
  have HOK : Hid (∀ i, (hi : i < vals.length) → vals[i].1 = 2 → tellB m vals[i].2 = true) := hok
  clear hok hcl hct hcp
  have HCA : Hid (∀ (x : Int) (W : World), Below w.heap.size w W → tellB m x = true → Calls Try.prog 133 #[.agg #[.int .i64 m.cells, .slice ap m.pages.length cp, .slice ao m.order.length co, .int .i64 m.now, .slice at' m.twins.length ct, .int .i64 m.born, .slice as' m.said.length cs, .int .i64 m.code, .slice al (lows m.pages).length cl, .int .i64 (framesN m.pages : Int)], .int .i64 x] W fun e w' => e = .returned (.int .i64 (plTw m x)) ∧ Below W.heap.size W w') := fun x W hW hx => by
    have := ofTwin_any _ _ _ _ _ m x W (hPl.below hW) hx
    unfold mcCells at this
    simpa only [List.cons_append, List.nil_append] using this
  go_enter Try.func132, Try.ntmps132
  go_wp2_with fail
  refine (clone_any _ vals _ hl hvn).mono ?_
  rintro e w1 ⟨v1, rfl, hr1, hb1⟩
  obtain ⟨a1, c1, hv1, _⟩ := hr1.slice
  subst hv1
  have hz1 := hb1.size
  go_wp2
  go_loopg [6, 7, 12] vals.length (fun g _ _ i wr => ∃ (k : Nat) (ys : List (Int × Int)), k ≤ vals.length ∧ g = vals.length - k ∧ i = .int .i64 k ∧ ys.length = vals.length ∧ PairRow w.heap.size wr (.slice a1 vals.length c1) ys ∧ (∀ q, (hq : q < ys.length) → (hq' : q < vals.length) → (q < k → ys[q] = renW (plTw m) vals[q]) ∧ (k ≤ q → ys[q] = vals[q])) ∧ Below w.heap.size w wr)
  case atStart => exact ⟨0, vals, Nat.zero_le _, rfl, rfl, rfl, hr1, fun q _ _ => ⟨fun hq => absurd hq (Nat.not_lt_zero _), fun _ => rfl⟩, hb1⟩
  case round =>
    obtain ⟨k, ys, hk, rfl, rfl, hyl, hr, hys, hb⟩ := hrel
    have HY : Hid (∀ q, (hq : q < ys.length) → (hq' : q < vals.length) → (q < k → ys[q] = renW (plTw m) vals[q]) ∧ (k ≤ q → ys[q] = vals[q])) := hys
    clear hys
    have zb := hb.size
    by_cases hlt : k < vals.length
    · obtain ⟨g1, o1, c2, e1, hgB, hgl⟩ := hr.form (by omega)
      obtain rfl : a1 = some ⟨g1, o1, none⟩ := by injection e1
      clear e1
      have hky : k < ys.length := by omega
      have HYK : Hid (ys[k] = vals[k]) := (HY.out k hky hlt).2 (Nat.le_refl _)
      obtain ⟨⟨d0, d1⟩, f0, f1⟩ := hr.cell hky
      rw [HYK.out] at d0 d1
      have hkz : (k : Int) < (vals.length : Int) := by omega
      have HOV := HOK.out k hlt
      have HV : Hid (renW (plTw m) vals[k] = if vals[k].1 = 2 then (vals[k].1, plTw m vals[k].2) else vals[k]) := rfl
      obtain ⟨va, hva⟩ : ∃ va, vals[k].1 = va := ⟨_, rfl⟩
      obtain ⟨vb, hvb⟩ : ∃ vb, vals[k].2 = vb := ⟨_, rfl⟩
      have HVA : Hid (vals[k] = (va, vb)) := by show _ = _; rw [← hva, ← hvb]
      rw [hva] at d0 HV HOV
      rw [hvb] at d1 HV HOV
      clear hva hvb
      by_cases hkd : va = 2
      · subst hkd
        have hokk := HOV rfl
        rw [if_pos rfl] at HV
        clear HOV
        go_upto_region 6 with fail
        refine wp_gen (fun W' => Below wr.heap.size wr W' ∧ Bx W' wr.heap.size 130 [.int .i64 2, .int .i64 vb]) ⟨(Below.refl _ _).alloc (Nat.le_refl _) _, Bx.new _ _ _⟩ ?_
        rintro W2 ⟨t2, y2⟩
        have hb2 := hb.trans (t2.mono zb)
        have hr2 := hr.below t2
        have z2 := hb2.size
        have y1 := y2.cell 1 rfl
        have HC := HCA.out vb W2 hb2 hokk
        clear t2 hb hr d0 d1 f0 f1 y2 hokk
        go_wp2_with fail
        refine HC.mono ?_
        rintro e W3 ⟨rfl, t3⟩
        have hb3 := hb2.trans (t3.mono z2)
        have hr3 := hr2.below t3
        clear HC t3 hb2 hr2 y1
        obtain ⟨⟨d0, d1⟩, f0, f1⟩ := hr3.cell hky
        have hset := hr3.set1 k hky (plTw m vb)
        rw [HYK.out, HVA.out] at hset
        have hbS := hb3.setCell (p := ⟨g1, o1 + k * 2 + 1, none⟩) hgB (.int .i64 (plTw m vb))
        clear hb3 hr3
        go_wp2
        go_roundg (vals.length - (k + 1))
        case measure => omega
        case rel => exact ⟨k + 1, _, by omega, rfl, by go_num, by rw [List.length_set]; exact hyl, hset, fun q h1 h2 => by
            rw [List.length_set] at h1
            refine ⟨fun hq => ?_, fun hq => ?_⟩
            · by_cases e : q = k
              · subst e; rw [List.getElem_set_self, HV.out]
              · rw [List.getElem_set_ne (fun x => e x.symm)]; exact (HY.out q h1 h2).1 (by omega)
            · rw [List.getElem_set_ne (by omega)]; exact (HY.out q h1 h2).2 (by omega), hbS⟩
      · rw [if_neg hkd] at HV
        have hke : (va == 2) = false := by simpa using hkd
        have hbA : ∀ o, Below w.heap.size w (wr.alloc o) := fun o => hb.alloc zb _
        have hrA : ∀ o, PairRow w.heap.size (wr.alloc o) (.slice (some ⟨g1, o1, none⟩) vals.length c1) ys := fun o => hr.below ((Below.refl _ _).alloc (Nat.le_refl _) _)
        have HBA : Hid _ := hbA
        have HRA : Hid _ := hrA
        clear HOV hbA hrA hb hr
        go_wp2
        go_roundg (vals.length - (k + 1))
        case measure => omega
        case rel => exact ⟨k + 1, ys, by omega, rfl, by go_num, hyl, HRA.out _, fun q h1 h2 => by
            refine ⟨fun hq => ?_, fun hq => (HY.out q h1 h2).2 (by omega)⟩
            by_cases e : q = k
            · subst e; rw [HYK.out, HV.out]
            · exact (HY.out q h1 h2).1 (by omega), HBA.out _⟩
    · obtain rfl : k = vals.length := by omega
      have hE : ys = vals.map (renW (plTw m)) := List.ext_getElem (by simpa using hyl) fun q h1 h2 => by rw [(HY.out q h1 (by simpa using h2)).1 (by simpa using h2)]; simp
      subst hE
      go_wp2
      go_ret
      exact ⟨_, rfl, hr, hb⟩
set_option maxRecDepth 100000 in
set_option maxHeartbeats 4000000 in
theorem renumValsC_any (vp vo vt vs vl : Value) (m : Mc) (vv : Value) (vals : List (Int × Int)) (w : World) (h : Pl w vp vo vt vs vl m) (hl : OpsAt w vv vals) (hvn : vals.length ≤ 1000) (hok : ∀ i, (hi : i < vals.length) → vals[i].1 = 2 → (vals[i].2 == -1 || tellB m vals[i].2) = true) :
    Calls Try.prog 132 #[vv, .func (.func 131) #[.agg (mcCells vp vo vt vs m ++ [vl, .int .i64 (framesN m.pages : Int)]).toArray] #[]] w fun e w' => ∃ v, e = .returned v ∧ PairRow w.heap.size w' v (vals.map (renW (plCa m))) ∧ Below w.heap.size w w' := by
  have hPl := h
  obtain ⟨hM, hL, hN, hTn⟩ := h
  obtain ⟨ap, cp, hvp, hlp, hcp⟩ := id hM.p
  obtain ⟨ao, co, hvo⟩ := hM.o.shape
  obtain ⟨at', ct, hvt, hlt', hct⟩ := id hM.t
  obtain ⟨as', cs, hvs⟩ := hM.s.shape
  obtain ⟨al, cl, hvl, hll, hcl⟩ := id hL
  subst hvp hvo hvt hvs hvl
  unfold mcCells
  simp only [List.cons_append, List.nil_append]
  obtain ⟨av, cv, hvv, _, _⟩ := id hl
  subst hvv
  have HOK : Hid (∀ i, (hi : i < vals.length) → vals[i].1 = 2 → (vals[i].2 == -1 || tellB m vals[i].2) = true) := hok
  clear hok hcl hct hcp
  have HCA : Hid (∀ (x : Int) (W : World), Below w.heap.size w W → (x == -1 || tellB m x) = true → Calls Try.prog 131 #[.agg #[.int .i64 m.cells, .slice ap m.pages.length cp, .slice ao m.order.length co, .int .i64 m.now, .slice at' m.twins.length ct, .int .i64 m.born, .slice as' m.said.length cs, .int .i64 m.code, .slice al (lows m.pages).length cl, .int .i64 (framesN m.pages : Int)], .int .i64 x] W fun e w' => e = .returned (.int .i64 (plCa m x)) ∧ Below W.heap.size W w') := fun x W hW hx => by
    have := ofCaller_any _ _ _ _ _ m x W (hPl.below hW) hx
    unfold mcCells at this
    simpa only [List.cons_append, List.nil_append] using this
  go_enter Try.func132, Try.ntmps132
  go_wp2_with fail
  refine (clone_any _ vals _ hl hvn).mono ?_
  rintro e w1 ⟨v1, rfl, hr1, hb1⟩
  obtain ⟨a1, c1, hv1, _⟩ := hr1.slice
  subst hv1
  have hz1 := hb1.size
  go_wp2
  go_loopg [6, 7, 12] vals.length (fun g _ _ i wr => ∃ (k : Nat) (ys : List (Int × Int)), k ≤ vals.length ∧ g = vals.length - k ∧ i = .int .i64 k ∧ ys.length = vals.length ∧ PairRow w.heap.size wr (.slice a1 vals.length c1) ys ∧ (∀ q, (hq : q < ys.length) → (hq' : q < vals.length) → (q < k → ys[q] = renW (plCa m) vals[q]) ∧ (k ≤ q → ys[q] = vals[q])) ∧ Below w.heap.size w wr)
  case atStart => exact ⟨0, vals, Nat.zero_le _, rfl, rfl, rfl, hr1, fun q _ _ => ⟨fun hq => absurd hq (Nat.not_lt_zero _), fun _ => rfl⟩, hb1⟩
  case round =>
    obtain ⟨k, ys, hk, rfl, rfl, hyl, hr, hys, hb⟩ := hrel
    have HY : Hid (∀ q, (hq : q < ys.length) → (hq' : q < vals.length) → (q < k → ys[q] = renW (plCa m) vals[q]) ∧ (k ≤ q → ys[q] = vals[q])) := hys
    clear hys
    have zb := hb.size
    by_cases hlt : k < vals.length
    · obtain ⟨g1, o1, c2, e1, hgB, hgl⟩ := hr.form (by omega)
      obtain rfl : a1 = some ⟨g1, o1, none⟩ := by injection e1
      clear e1
      have hky : k < ys.length := by omega
      have HYK : Hid (ys[k] = vals[k]) := (HY.out k hky hlt).2 (Nat.le_refl _)
      obtain ⟨⟨d0, d1⟩, f0, f1⟩ := hr.cell hky
      rw [HYK.out] at d0 d1
      have hkz : (k : Int) < (vals.length : Int) := by omega
      have HOV := HOK.out k hlt
      have HV : Hid (renW (plCa m) vals[k] = if vals[k].1 = 2 then (vals[k].1, plCa m vals[k].2) else vals[k]) := rfl
      obtain ⟨va, hva⟩ : ∃ va, vals[k].1 = va := ⟨_, rfl⟩
      obtain ⟨vb, hvb⟩ : ∃ vb, vals[k].2 = vb := ⟨_, rfl⟩
      have HVA : Hid (vals[k] = (va, vb)) := by show _ = _; rw [← hva, ← hvb]
      rw [hva] at d0 HV HOV
      rw [hvb] at d1 HV HOV
      clear hva hvb
      by_cases hkd : va = 2
      · subst hkd
        have hokk := HOV rfl
        rw [if_pos rfl] at HV
        clear HOV
        go_upto_region 6 with fail
        refine wp_gen (fun W' => Below wr.heap.size wr W' ∧ Bx W' wr.heap.size 130 [.int .i64 2, .int .i64 vb]) ⟨(Below.refl _ _).alloc (Nat.le_refl _) _, Bx.new _ _ _⟩ ?_
        rintro W2 ⟨t2, y2⟩
        have hb2 := hb.trans (t2.mono zb)
        have hr2 := hr.below t2
        have z2 := hb2.size
        have y1 := y2.cell 1 rfl
        have HC := HCA.out vb W2 hb2 hokk
        clear t2 hb hr d0 d1 f0 f1 y2 hokk
        go_wp2_with fail
        refine HC.mono ?_
        rintro e W3 ⟨rfl, t3⟩
        have hb3 := hb2.trans (t3.mono z2)
        have hr3 := hr2.below t3
        clear HC t3 hb2 hr2 y1
        obtain ⟨⟨d0, d1⟩, f0, f1⟩ := hr3.cell hky
        have hset := hr3.set1 k hky (plCa m vb)
        rw [HYK.out, HVA.out] at hset
        have hbS := hb3.setCell (p := ⟨g1, o1 + k * 2 + 1, none⟩) hgB (.int .i64 (plCa m vb))
        clear hb3 hr3
        go_wp2
        go_roundg (vals.length - (k + 1))
        case measure => omega
        case rel => exact ⟨k + 1, _, by omega, rfl, by go_num, by rw [List.length_set]; exact hyl, hset, fun q h1 h2 => by
            rw [List.length_set] at h1
            refine ⟨fun hq => ?_, fun hq => ?_⟩
            · by_cases e : q = k
              · subst e; rw [List.getElem_set_self, HV.out]
              · rw [List.getElem_set_ne (fun x => e x.symm)]; exact (HY.out q h1 h2).1 (by omega)
            · rw [List.getElem_set_ne (by omega)]; exact (HY.out q h1 h2).2 (by omega), hbS⟩
      · rw [if_neg hkd] at HV
        have hke : (va == 2) = false := by simpa using hkd
        have hbA : ∀ o, Below w.heap.size w (wr.alloc o) := fun o => hb.alloc zb _
        have hrA : ∀ o, PairRow w.heap.size (wr.alloc o) (.slice (some ⟨g1, o1, none⟩) vals.length c1) ys := fun o => hr.below ((Below.refl _ _).alloc (Nat.le_refl _) _)
        have HBA : Hid _ := hbA
        have HRA : Hid _ := hrA
        clear HOV hbA hrA hb hr
        go_wp2
        go_roundg (vals.length - (k + 1))
        case measure => omega
        case rel => exact ⟨k + 1, ys, by omega, rfl, by go_num, hyl, HRA.out _, fun q h1 h2 => by
            refine ⟨fun hq => ?_, fun hq => (HY.out q h1 h2).2 (by omega)⟩
            by_cases e : q = k
            · subst e; rw [HYK.out, HV.out]
            · exact (HY.out q h1 h2).1 (by omega), HBA.out _⟩
    · obtain rfl : k = vals.length := by omega
      have hE : ys = vals.map (renW (plCa m)) := List.ext_getElem (by simpa using hyl) fun q h1 h2 => by rw [(HY.out q h1 (by simpa using h2)).1 (by simpa using h2)]; simp
      subst hE
      go_wp2
      go_ret
      exact ⟨_, rfl, hr, hb⟩
end Go.Proofs.Ytldiccheboipeaa
