/-
  laws.lmProg answers whether two programs are the same, in plain words; it writes to nothing that was there.
-/
import Derived.Test.YtlbkgnmalhidmaaDoorProg
import Derived.Test.YtlbkgnmalhidmaaDoorPlain
import Derived.BigQuiet
import Derived.Deep.QuietTactic
namespace Go.Proofs.YtlbkgnmalhidmaaDoor
open Go.RowKit

theorem lm_drewN {B : Nat} {a w : World} (h : Below B a w) : ∀ n, Below B a (w.drewN n)
  | 0 => h
  | n + 1 => by
    have := lm_drewN h n
    exact ⟨this.os, this.tape, this.output, this.size, this.block⟩

theorem ne_of_at {α : Type} {l m : List α} {i : Nat} (hl : i < l.length) (hm : i < m.length) (h : l[i] ≠ m[i]) : l ≠ m := fun e => by subst e; exact h rfl

/-- four boxes: two programs at B, two methods at C and D -/
structure Box4 (B C D : Nat) (wr : World) (vp vq : Value) (vo vu : Value) : Prop where
  p : wr.cell? ⟨B, 0, none⟩ = some vp
  q : wr.cell? ⟨B + 1, 0, none⟩ = some vq
  a : wr.cell? ⟨C, 2, none⟩ = some vo
  b : wr.cell? ⟨D, 2, none⟩ = some vu

theorem Box4.below {B C D : Nat} {w w' : World} {vp vq vo vu : Value} (h : Box4 B C D w vp vq vo vu) (hb : Below w.heap.size w w') : Box4 B C D w' vp vq vo vu :=
  ⟨cell_below hb h.p, cell_below hb h.q, cell_below hb h.a, cell_below hb h.b⟩

set_option maxRecDepth 100000 in
set_option maxHeartbeats 2000000 in
theorem lmProg_any (v u : Value) (ms ns : List (Int × Int × List (Int × Int))) (w : World) (h : MethsAt w v ms) (h' : MethsAt w u ns) :
    Calls Tryd.prog 8 #[.agg #[v], .agg #[u]] w fun e w' => e = .returned (.bool (decide (ms = ns))) ∧ Below w.heap.size w w' := by
  obtain ⟨a, cap, rfl, hl, hc⟩ := h
  obtain ⟨a', cap', rfl, hl', hc'⟩ := h'
  unfold maxLen at hl hl'
  have hB : Below w.heap.size w ((w.alloc (.cells #[.slice a ms.length cap] 26)).alloc (.cells #[.slice a' ns.length cap'] 26)) := ((Below.refl _ _).alloc (Nat.le_refl _) _).alloc (by simp) _
  by_cases hlen : ms.length = ns.length
  case neg =>
    have HE : Hid (decide (ms = ns) = false) := by
      show _ = _
      rw [decide_eq_false_iff_not]
      intro e; exact hlen (by rw [e])
    have e1 : ((ms.length : Int) != (ns.length : Int)) = true := by
      rw [bne_iff_ne]; omega
    clear hc hc'
    go_enter Tryd.func8, Tryd.ntmps8
    go_wp2
    go_ret
    exact ⟨ret_bool HE.out.symm, hB⟩
  have q0 : ((w.alloc (.cells #[.slice a ms.length cap] 26)).alloc (.cells #[.slice a' ns.length cap'] 26)).cell? ⟨w.heap.size, 0, none⟩ = some (.slice a ms.length cap) := by simp [go_sem]
  have q1 : ((w.alloc (.cells #[.slice a ms.length cap] 26)).alloc (.cells #[.slice a' ns.length cap'] 26)).cell? ⟨w.heap.size + 1, 0, none⟩ = some (.slice a' ns.length cap') := by simp [go_sem]
  have e1 : ((ms.length : Int) != (ns.length : Int)) = false := by
    rw [bne_eq_false_iff_eq]; omega
  have HL : Hid (ms.length = ns.length) := hlen
  clear hlen
  go_enter Tryd.func8, Tryd.ntmps8
  go_wp2
  generalize (w.alloc (.cells #[.slice a ms.length cap] 26)).alloc (.cells #[.slice a' ns.length cap'] 26) = W0 at *
  go_loopg [5] ms.length (fun g i wr => ∃ k : Nat, k ≤ ms.length ∧ g = ms.length - k ∧ i = .int .i64 k ∧ wr.cell? ⟨w.heap.size, 0, none⟩ = some (.slice a ms.length cap) ∧ wr.cell? ⟨w.heap.size + 1, 0, none⟩ = some (.slice a' ns.length cap') ∧ Below w.heap.size w wr ∧ ∀ j, (hj : j < ms.length) → (hj' : j < ns.length) → j < k → ms[j] = ns[j])
  case atStart => exact ⟨0, Nat.zero_le _, rfl, rfl, q0, q1, hB, fun j _ _ h => absurd h (Nat.not_lt_zero _)⟩
  case round =>
    obtain ⟨k, hk, rfl, rfl, p0, p1, hb, hall⟩ := hrel
    have HA : Hid (∀ j, (hj : j < ms.length) → (hj' : j < ns.length) → j < k → ms[j] = ns[j]) := hall
    have hsz := hb.size
    clear hall q0 q1 hB
    by_cases hlt : k < ms.length
    · have hlt' : k < ns.length := by have := HL.out; omega
      obtain ⟨b, o, vo, rfl, c0, c1, c2, c3⟩ := hc k hlt
      obtain ⟨b', o', vu, rfl, c0', c1', c2', c3'⟩ := hc' k hlt'
      have hkz : (k : Int) < (ms.length : Int) := by omega
      have hkz' : (k : Int) < (ns.length : Int) := by omega
      have d0 := cell_below hb c0
      have d1 := cell_below hb c1
      have d2 := cell_below hb c2
      have d3 := c3.below hb
      have d0' := cell_below hb c0'
      have d1' := cell_below hb c1'
      have d2' := cell_below hb c2'
      have d3' := c3'.below hb
      clear c0 c1 c2 c3 c0' c1' c2' c3' hc hc'
      obtain ⟨ao, co, hvo, hol, hoc⟩ := d3
      obtain ⟨ao', co', hvo', hol', hoc'⟩ := d3'
      subst hvo hvo'
      have HN : Hid (ms[k] ≠ ns[k] → decide (ms = ns) = false) := fun e => by rw [decide_eq_false_iff_not]; exact ne_of_at hlt hlt' e
      have HX : Hid (ms[k].1 ≠ ns[k].1 → decide (ms = ns) = false) := fun e => HN.out (fun h => e (by rw [h]))
      have HT : Hid (ms[k].2.1 ≠ ns[k].2.1 → decide (ms = ns) = false) := fun e => HN.out (fun h => e (by rw [h]))
      have HO : Hid (ms[k].2.2 ≠ ns[k].2.2 → decide (ms = ns) = false) := fun e => HN.out (fun h => e (by rw [h]))
      have HG : Hid (ms[k].1 = ns[k].1 → ms[k].2.1 = ns[k].2.1 → ms[k].2.2 = ns[k].2.2 → ∀ j, (hj : j < ms.length) → (hj' : j < ns.length) → j < k + 1 → ms[j] = ns[j]) := fun e1 e2 e3 j hj hj' hjk => by
        by_cases e : j = k
        · subst e
          exact Prod.ext e1 (Prod.ext e2 e3)
        · exact HA.out j hj hj' (by omega)
      unfold maxLen at hol hol'
      have HOC : Hid (∀ i, (h : i < ms[k].2.2.length) → ∃ b o, ao = some ⟨b, o, none⟩ ∧ wr.cell? ⟨b, o + i * 2, none⟩ = some (.int .i64 ms[k].2.2[i].1) ∧ wr.cell? ⟨b, o + i * 2 + 1, none⟩ = some (.int .i64 ms[k].2.2[i].2)) := hoc
      have HOC' : Hid (∀ i, (h : i < ns[k].2.2.length) → ∃ b o, ao' = some ⟨b, o, none⟩ ∧ wr.cell? ⟨b, o + i * 2, none⟩ = some (.int .i64 ns[k].2.2[i].1) ∧ wr.cell? ⟨b, o + i * 2 + 1, none⟩ = some (.int .i64 ns[k].2.2[i].2)) := hoc'
      clear HN HA hoc hoc'
      generalize ms[k].1 = x at *
      generalize ms[k].2.1 = t at *
      generalize ms[k].2.2 = ops at *
      generalize ns[k].1 = x' at *
      generalize ns[k].2.1 = t' at *
      generalize ns[k].2.2 = ops' at *
      have hA1 : ∀ o1, Below wr.heap.size wr (wr.alloc o1) := fun o1 => (Below.refl _ _).alloc (Nat.le_refl _) _
      have P1 := fun o1 => cell_below (hA1 o1) p1
      have E0 := fun o1 => cell_below (hA1 o1) d0'
      have E1 := fun o1 => cell_below (hA1 o1) d1'
      have E2 := fun o1 => cell_below (hA1 o1) d2'
      have hbox : ∀ T, Box4 w.heap.size wr.heap.size (wr.heap.size + 1) ((wr.alloc (.cells #[.int .i64 x, .int .i64 t, .slice ao ops.length co] T)).alloc (.cells #[.int .i64 x', .int .i64 t', .slice ao' ops'.length co'] T)) (.slice (some ⟨b, o, none⟩) ms.length cap) (.slice (some ⟨b', o', none⟩) ns.length cap') (.slice ao ops.length co) (.slice ao' ops'.length co') := fun T =>
        ⟨cell_below ((hA1 _).alloc (by simp) _) p0, cell_below ((hA1 _).alloc (by simp) _) p1, by simp [go_sem], by simp [go_sem]⟩
      have hb2 : ∀ o1 o2, Below wr.heap.size wr ((wr.alloc o1).alloc o2) := fun o1 o2 => (hA1 _).alloc (by simp) _
      have HB : Hid (∀ o1 o2, Below wr.heap.size wr ((wr.alloc o1).alloc o2)) := hb2
      clear hA1 hb2 d0' d1' d2'
      cases hx : (x != x')
      case true =>
        have HE : Hid (decide (ms = ns) = false) := HX.out (bne_iff_ne.1 hx)
        go_wp2
        go_ret
        exact ⟨ret_bool HE.out.symm, hb.trans ((HB.out _ _).mono hsz)⟩
      cases ht : (t != t')
      case true =>
        have HE : Hid (decide (ms = ns) = false) := HT.out (bne_iff_ne.1 ht)
        go_wp2
        go_ret
        exact ⟨ret_bool HE.out.symm, hb.trans ((HB.out _ _).mono hsz)⟩
      by_cases hol2 : ops.length = ops'.length
      case neg =>
        have HE : Hid (decide (ms = ns) = false) := HO.out (fun e => hol2 (by rw [e]))
        have ho : ((ops.length : Int) != (ops'.length : Int)) = true := by rw [bne_iff_ne]; omega
        go_wp2
        go_ret
        exact ⟨ret_bool HE.out.symm, hb.trans ((HB.out _ _).mono hsz)⟩
      have ho : ((ops.length : Int) != (ops'.length : Int)) = false := by rw [bne_eq_false_iff_eq]; omega
      have HOL : Hid (ops.length = ops'.length) := hol2
      have HXT : Hid (x = x' ∧ t = t') := ⟨by simpa using hx, by simpa using ht⟩
      clear hol2
      go_wp2
      have hbox := hbox 45
      have hb4 := HB.out (.cells #[.int .i64 x, .int .i64 t, .slice ao ops.length co] 45) (.cells #[.int .i64 x', .int .i64 t', .slice ao' ops'.length co'] 45)
      clear P1 E0 E1 E2 HB hx ht
      generalize (wr.alloc (.cells #[.int .i64 x, .int .i64 t, .slice ao ops.length co] 45)).alloc (.cells #[.int .i64 x', .int .i64 t', .slice ao' ops'.length co'] 45) = W4 at *
      go_loopg [8] ops.length (fun g i wq => ∃ j : Nat, j ≤ ops.length ∧ g = ops.length - j ∧ i = .int .i64 j ∧ Box4 w.heap.size wr.heap.size (wr.heap.size + 1) wq (.slice (some ⟨b, o, none⟩) ms.length cap) (.slice (some ⟨b', o', none⟩) ns.length cap') (.slice ao ops.length co) (.slice ao' ops'.length co') ∧ Below wr.heap.size wr wq ∧ ∀ i, (hi : i < ops.length) → (hi' : i < ops'.length) → i < j → ops[i] = ops'[i])
      case atStart => exact ⟨0, Nat.zero_le _, rfl, rfl, hbox, hb4, fun j _ _ h => absurd h (Nat.not_lt_zero _)⟩
      case round =>
        obtain ⟨j, hj, rfl, rfl, hbx, hb5, hal⟩ := hrel
        have HAL : Hid (∀ i, (hi : i < ops.length) → (hi' : i < ops'.length) → i < j → ops[i] = ops'[i]) := hal
        obtain ⟨r0, r1, r2, r3⟩ := id hbx
        have hb6 := hb.trans (hb5.mono hsz)
        clear hal hbox hb4
        by_cases hjl : j < ops.length
        · have hjl' : j < ops'.length := by have := HOL.out; omega
          obtain ⟨b1, o1, rfl, s0, s1⟩ := HOC.out j hjl
          obtain ⟨b2, o2, rfl, s2, s3⟩ := HOC'.out j hjl'
          have m0 := cell_below hb5 s0
          have m1 := cell_below hb5 s1
          have m2 := cell_below hb5 s2
          have m3 := cell_below hb5 s3
          have hjz : (j : Int) < (ops.length : Int) := by omega
          have hjz' : (j : Int) < (ops'.length : Int) := by omega
          have HN : Hid (ops[j] ≠ ops'[j] → decide (ms = ns) = false) := fun e => HO.out (ne_of_at hjl hjl' e)
          have HQ : Hid (ops[j] = ops'[j] → ∀ i, (hi : i < ops.length) → (hi' : i < ops'.length) → i < j + 1 → ops[i] = ops'[i]) := fun e i hi hi' hij => by
            by_cases h : i = j
            · subst h; exact e
            · exact HAL.out i hi hi' (by omega)
          have HK : Hid ((ops[j].1 ≠ ops'[j].1 → ops[j] ≠ ops'[j]) ∧ (ops[j].2 ≠ ops'[j].2 → ops[j] ≠ ops'[j]) ∧ (ops[j].1 = ops'[j].1 → ops[j].2 = ops'[j].2 → ops[j] = ops'[j])) := ⟨fun e h => e (by rw [h]), fun e h => e (by rw [h]), fun e1 e2 => Prod.ext e1 e2⟩
          clear s0 s1 s2 s3 HAL p0 p1 d0 d1 d2
          generalize ops[j] = u1 at *
          generalize ops'[j] = u2 at *
          obtain ⟨k1, a1⟩ := u1
          obtain ⟨k2, a2⟩ := u2
          simp only at m0 m1 m2 m3
          cases hk : (k1 == k2)
          · have HE : Hid (decide (ms = ns) = false) := HN.out (HK.out.1 (by simpa using hk))
            have hk' : (k1 == k2) = false := hk
            go_wp2_with fail
            go_quiet (fail)
            go_wp2
            go_ret
            exact ⟨ret_bool HE.out.symm, lm_drewN hb6 _⟩
          cases ha : (a1 == a2)
          · have HE : Hid (decide (ms = ns) = false) := HN.out (HK.out.2.1 (by simpa using ha))
            go_wp2_with fail
            go_quiet (fail)
            go_wp2
            go_ret
            exact ⟨ret_bool HE.out.symm, lm_drewN hb6 _⟩
          have HE : Hid (∀ i, (hi : i < ops.length) → (hi' : i < ops'.length) → i < j + 1 → ops[i] = ops'[i]) := HQ.out (HK.out.2.2 (by simpa using hk) (by simpa using ha))
          go_wp2_with fail
          go_quiet (fail)
          go_wp2
          go_roundg (ops.length - (j + 1))
          case measure => omega
          case rel => exact ⟨j + 1, by omega, rfl, by go_num, hbx.below (lm_drewN (Below.refl _ _) _), lm_drewN hb5 _, HE.out⟩
        · obtain rfl : j = ops.length := by omega
          have HE : Hid (ops = ops') := List.ext_getElem HOL.out fun i hi hi' => HAL.out i hi hi' hi
          go_wp2
          go_roundg (ms.length - (k + 1))
          case measure => omega
          case rel => exact ⟨k + 1, by omega, rfl, by go_num, r0, r1, hb6, HG.out HXT.out.1 HXT.out.2 HE.out⟩
    · obtain rfl : k = ms.length := by omega
      have HE : Hid (decide (ms = ns) = true) := by
        show _ = _
        rw [decide_eq_true_iff]
        exact List.ext_getElem HL.out fun j hj hj' => HA.out j hj hj' hj
      go_wp2
      go_ret
      exact ⟨ret_bool HE.out.symm, hb⟩

end Go.Proofs.YtlbkgnmalhidmaaDoor
