/-
  The document's model of how many values there are: l2At, walked.
-/
import Derived.Test.YtfpodljalccpnaaGreatDoorDeepD

namespace Go.Proofs.YtfpodljalccpnaaGreatDoor
open Go.RowKit
def AtEnd (ms : List (Int × Int × List (Int × Int))) (ops : List (Int × Int)) (B : Nat) (e : Ending) (w : World) : Prop :=
  ∃ v r f, e = .returned (.tuple #[v, .bool r]) ∧ IntRow B w v f ∧ ((r = true ∧ Inv ms ops (fun _ => False) f []) ∨ (r = false ∧ ∀ g, ¬ Closed ms ops g))
theorem atYes {ms : List (Int × Int × List (Int × Int))} {ops : List (Int × Int)} {B : Nat} {w : World} {v : Value} {f : List Int} (hr : IntRow B w v f) (h : Inv ms ops (fun _ => False) f []) : AtEnd ms ops B (.returned (.tuple #[v, .bool true])) w := ⟨v, true, f, rfl, hr, .inl ⟨rfl, h⟩⟩
theorem atNo {ms : List (Int × Int × List (Int × Int))} {ops : List (Int × Int)} {B : Nat} {w : World} {v : Value} {f : List Int} (hr : IntRow B w v f) (h : ∀ g, ¬ Closed ms ops g) : AtEnd ms ops B (.returned (.tuple #[v, .bool false])) w := ⟨v, false, f, rfl, hr, .inr ⟨rfl, h⟩⟩
theorem Below.mono' {B : Nat} {w w' : World} (h : Below B w w') (hs : w.heap.size = B) : Below w.heap.size w w' := by rw [hs]; exact h
structure Part (ms : List (Int × Int × List (Int × Int))) (ops : List (Int × Int)) (pl : Nat) (D : Int) (ah q ks : List Int) (j : Nat) (ahj qj : List Int) : Prop where
  inv : Inv ms ops (fun i => i = pl) ahj qj
  td : todo ahj qj = todo ah q
  pres : gt ahj pl = gt ah pl
  vals : ∀ k ∈ ks.take j, 0 ≤ k ∧ k < ops.length ∧ gt ahj k = D
  neg : D < 0 → j = 0
theorem Part.step {ms : List (Int × Int × List (Int × Int))} {ops : List (Int × Int)} {pl : Nat} {D : Int} {ah q ks : List Int} {j : Nat} {ahj qj : List Int} (h : Part ms ops pl D ah q ks j ahj qj) (hpl : pl < ops.length) (h0 : 0 ≤ gt ah pl) (hD : D = behind ms (opAt ops pl) (gt ah pl)) (hD0 : 0 ≤ D) (hD6 : D ≤ 6)
    (hj : j < ks.length) (hk : ks[j] ∈ nexts (opAt ops pl) pl) :
    ((dd_comeP ahj qj ks[j] D).1 = false → ∀ g, ¬ Closed ms ops g) ∧ ((dd_comeP ahj qj ks[j] D).1 = true → Part ms ops pl D ah q ks (j + 1) (dd_comeP ahj qj ks[j] D).2.1 (dd_comeP ahj qj ks[j] D).2.2) := by
  have e0 := h.pres
  have hb : behind ms (opAt ops pl) (gt ahj pl) = D := by rw [e0, hD]
  obtain ⟨s1, s2⟩ := come_step h.inv hpl (by omega) ks[j] hk (by rw [hb]; exact hD0) (by rw [hb]; exact hD6)
  rw [hb] at s1 s2
  refine ⟨s1, fun e => ?_⟩
  obtain ⟨i1, i2, i3, i4, i5, i6⟩ := s2 e
  refine ⟨i1, i2.trans h.td, (i3 pl (by omega)).trans e0, fun k hk' => ?_, fun hn => by omega⟩
  rw [List.take_add_one, List.getElem?_eq_getElem hj, List.mem_append] at hk'
  rcases hk' with hk' | hk'
  · obtain ⟨a1, a2, a3⟩ := h.vals k hk'
    obtain ⟨k', rfl⟩ := Int.eq_ofNat_of_zero_le a1
    exact ⟨a1, a2, (i3 k' (by omega)).trans a3⟩
  · obtain rfl : k = ks[j] := by simpa using hk'
    exact ⟨i4, i5, i6⟩
theorem deepP_cases (ms : List (Int × Int × List (Int × Int))) (op : Int × Int) (d : Int) : (deepP ms op d = -1 ∧ (d < (takesOf ms op.1 op.2).1 ∨ 6 < behind ms op d)) ∨ (deepP ms op d = behind ms op d ∧ (takesOf ms op.1 op.2).1 ≤ d ∧ 0 ≤ behind ms op d ∧ behind ms op d ≤ 6) := by
  unfold deepP
  have := leaves_nonneg ms op.1 op.2
  by_cases h : d < (takesOf ms op.1 op.2).1 ∨ 6 < behind ms op d
  · rw [if_pos h]; exact .inl ⟨rfl, h⟩
  · rw [if_neg h]; exact .inr ⟨rfl, by omega, by unfold behind; omega, by omega⟩
theorem deep_no {ms : List (Int × Int × List (Int × Int))} {ops : List (Int × Int)} {ah q : List Int} {pl : Nat} (h : Inv ms ops (fun _ => False) ah q) (hpl : pl < ops.length) (h0 : 0 ≤ gt ah pl) (hc : gt ah pl < (takesOf ms (opAt ops pl).1 (opAt ops pl).2).1 ∨ 6 < behind ms (opAt ops pl) (gt ah pl)) : ∀ g, ¬ Closed ms ops g := fun g hg => by
  have e := h.sound g hg pl hpl h0
  have := hg.each pl hpl (by omega)
  unfold Done at this
  rw [e] at this
  omega
set_option maxRecDepth 100000 in
set_option maxHeartbeats 4000000 in
theorem l2At_any (vp vo : Value) (ms : List (Int × Int × List (Int × Int))) (ops : List (Int × Int)) (x t : Int) (m : Nat) (w : World) (hp : progOk ms = true) (hm : m < ms.length) (hmo : ms[m].2.2 = ops) (hM : MethsAt w vp ms) (hO : OpsAt w vo ops) :
    Calls Tryz.prog 94 #[.agg #[vp], .agg #[.int .i64 x, .int .i64 t, vo]] w fun e w' => Below w.heap.size w w' ∧ AtEnd ms ops w.heap.size e w' := by
  obtain ⟨ao, co, rfl, hlo, hco⟩ := id hO
  have hl14 : ops.length ≤ 14 := by rw [← hmo]; exact len_ok hp hm
  have HT : Hid (∀ k a, 0 ≤ (takesOf ms k a).1 ∧ (takesOf ms k a).1 ≤ 2) := takes_ok hp
  have HX : Hid (∀ pl : Nat, (h : pl < ops.length) → ∀ k ∈ nextsS (ops[pl].1, ops[pl].2) pl, 0 ≤ k) := by subst hmo; exact fun pl h => next_nonneg hp hm h
  obtain ⟨i0, hi, hz0, hz1, hz2⟩ := info_parts Tryz.infoInt
  have hA : Below w.heap.size w ((w.alloc (.cells #[vp] 25)).alloc (.cells #[.int .i64 x, .int .i64 t, .slice ao ops.length co] 35)) := ((Below.refl _ _).alloc (Nat.le_refl _) _).alloc (by simp) _
  have bp : ((w.alloc (.cells #[vp] 25)).alloc (.cells #[.int .i64 x, .int .i64 t, .slice ao ops.length co] 35)).cell? ⟨w.heap.size, 0, none⟩ = some vp := by simp [go_sem]
  have bm : ((w.alloc (.cells #[vp] 25)).alloc (.cells #[.int .i64 x, .int .i64 t, .slice ao ops.length co] 35)).cell? ⟨w.heap.size + 1, 2, none⟩ = some (.slice ao ops.length co) := by simp [go_sem]
  have hsz : ((w.alloc (.cells #[vp] 25)).alloc (.cells #[.int .i64 x, .int .i64 t, .slice ao ops.length co] 35)).heap.size = w.heap.size + 2 := by simp
  clear hmo hm hp
  go_enter Tryz.func94, Tryz.ntmps94
  go_wp2
  generalize (w.alloc (.cells #[vp] 25)).alloc (.cells #[.int .i64 x, .int .i64 t, .slice ao ops.length co] 35) = W0 at *
  have hM0 := hM.below hA
  have hO0 := hO.below hA
  go_loopg [6, 7] ops.length (fun g v i wr => ∃ L : List Int, L.length ≤ ops.length ∧ g = ops.length - L.length ∧ i = .int .i64 L.length ∧ IntRow (w.heap.size + 2) wr v L ∧ (∀ x ∈ L, x = -1) ∧ Below (w.heap.size + 2) W0 wr)
  case atStart => exact ⟨[], Nat.zero_le _, rfl, rfl, by have := IntRow.laid W0 [] 3 (by simp); rw [hsz] at this; exact this, by simp, by rw [← hsz]; exact (Below.refl _ _).alloc (Nat.le_refl _) _⟩
  case round =>
    obtain ⟨L, hL, rfl, rfl, hrow, hall, hB⟩ := hrel
    have bmr := cell_b hB bm (by simp)
    have hBs := hB.size
    by_cases hlt : L.length < ops.length
    · have hkz : (L.length : Int) < (ops.length : Int) := by omega
      have HA : Hid (∀ x ∈ L ++ [-1], x = -1) := fun x hx => by
        rw [List.mem_append] at hx
        rcases hx with hx | hx
        · exact hall x hx
        · simpa using hx
      clear hall
      go_wp2_with (at_builtin; refine append_int Tryz.underlying63 hi hz0 hz1 hz2 _ (by rfl) _ _ (by rfl) _ L (by rfl) hrow (-1) wr.heap.size _ rfl (by rfl) (by omega) (by omega) ?_; intro g off cp w2 h2 hg2 hat hlt2)
      have hB2 := below_grow2 hB hg2 (by omega) (fun g' e => (hrow.lt g' e).1)
      go_roundg (ops.length - (L.length + 1))
      case measure => omega
      case rel => exact ⟨L ++ [-1], by simp; omega, by simp, by simp, h2, HA.out, hB2⟩
    · have hLE : L = List.replicate ops.length (-1) := List.eq_replicate_iff.2 ⟨by omega, hall⟩
      clear hall
      by_cases hn0 : ops.length = 0
      · have HN : Hid (∀ g, ¬ Closed ms ops g) := fun g hg => absurd hg.pos (by omega)
        have hlz : ¬ ((L.length : Int) < (ops.length : Int)) := by omega
        have hn0' : ((ops.length : Int) == 0) = true := beq_iff_eq.2 (by omega)
        have bm1 : (wr.alloc (.cells #[.int .i64 0] 3)).cell? ⟨w.heap.size + 1, 2, none⟩ = some (.slice ao ops.length co) := cell_below ((Below.refl _ _).alloc (Nat.le_refl _) _) bmr
        go_wp2
        go_ret2
        exact ⟨(hA.trans (hB.mono (by omega))).alloc (by omega) _, atNo (f := L) ((hrow.mono (by omega)).below ((Below.refl _ _).alloc (Nat.le_refl _) _)) HN.out⟩
      have hpos : 0 < ops.length := by omega
      have hn0' : ((ops.length : Int) == 0) = false := beq_eq_false_iff_ne.2 (by omega)
      have hlz : ¬ ((L.length : Int) < (ops.length : Int)) := by omega
      have hposz : (0 : Int) < (ops.length : Int) := by omega
      obtain ⟨go, oo, cpo, hv6, hgo, hgol⟩ := hrow.form (by omega)
      have hLl : L.length = ops.length := by omega
      rw [hLl] at hv6
      rw [hv6] at hrow
      obtain ⟨ci, fi⟩ := hrow.cell (i := 0) (by omega)
      rw [Nat.add_zero] at ci fi
      have hs0 := hrow.set 0 (by omega) 0
      rw [Nat.add_zero] at hs0
      have hs1 := hs0.below ((Below.refl _ _).alloc (Nat.le_refl _) (.cells #[.int .i64 0] 3))
      have bm1 : (wr.alloc (.cells #[.int .i64 0] 3)).cell? ⟨w.heap.size + 1, 2, none⟩ = some (.slice ao ops.length co) := cell_below ((Below.refl _ _).alloc (Nat.le_refl _) _) bmr
      obtain ⟨ci1, fi1⟩ := (hrow.below ((Below.refl _ _).alloc (Nat.le_refl _) (.cells #[.int .i64 0] 3))).cell (i := 0) (by omega)
      rw [Nat.add_zero] at ci1 fi1
      have hwz : (wr.setCell ⟨go, oo, none⟩ (.int .i64 0)).heap.size = wr.heap.size := by simp [World.setCell]
      have ht1 : IntRow (w.heap.size + 2) ((wr.setCell ⟨go, oo, none⟩ (.int .i64 0)).alloc (.cells #[.int .i64 0] 3)) (.slice (some ⟨wr.heap.size, 0, none⟩) 1 1) [0] := by
        have := IntRow.laid (wr.setCell ⟨go, oo, none⟩ (.int .i64 0)) [0] 3 (by simp)
        rw [hwz] at this
        exact this.mono (by omega)
      have hB1 : Below (w.heap.size + 2) W0 ((wr.setCell ⟨go, oo, none⟩ (.int .i64 0)).alloc (.cells #[.int .i64 0] 3)) := (below_set hB go oo _ hgo).alloc (by rw [hwz]; omega) _
      have HI : Hid (Inv ms ops (fun _ => False) (L.set 0 0) [0]) := by rw [hLE]; exact Inv.start ms ops hpos
      have HM : Hid (todo (L.set 0 0) [0] = ops.length) := by rw [hLE]; exact todo_start _ hpos
      have hne1 : go ≠ wr.heap.size := by omega
      clear hLE hB hrow hs0
      go_wp2
      go_loopg [8] ops.length (fun g td wr2 => ∃ ah q, Inv ms ops (fun _ => False) ah q ∧ IntRow (w.heap.size + 2) wr2 (.slice (some ⟨go, oo, none⟩) ops.length cpo) ah ∧ IntRow (w.heap.size + 2) wr2 td q ∧ td.ownBlock ≠ some go ∧ g = todo ah q ∧ todo ah q ≤ 14 ∧ Below (w.heap.size + 2) W0 wr2)
      case atStart => exact ⟨_, _, HI.out, hs1, ht1, by simp [Value.ownBlock]; omega, HM.out.symm, by rw [HM.out]; exact hl14, hB1⟩
      case round =>
        clear HI HM hs1 ht1 hB1 ci fi ci1 fi1 bm1 hv6 hwz hne1 hlt hLl hlz
        obtain ⟨ah, q, hI, hro, hrq, hap, rfl, h14, hB⟩ := hrel
        have z2 := hB.size
        have hgo2 := (hro.lt go rfl).2
        cases q with
        | nil =>
          obtain ⟨aq, cq, rfl, _⟩ := hrq.slice
          have HD : Hid (Inv ms ops (fun _ => False) ah []) := hI
          clear hI
          go_wp2
          go_ret2
          exact ⟨hA.trans (hB.mono (by omega)), atYes (hro.mono (by omega)) HD.out⟩
        | cons k q =>
          obtain ⟨pl, rfl, hpl, h0⟩ := hI.queue k (List.mem_cons_self ..)
          obtain ⟨gq, oq, cq, rfl, hgq, hgql⟩ := hrq.form (by simp)
          have hx : wr.cell? ⟨gq, oq, none⟩ = some (.int .i64 (pl : Int)) := (hrq.cell (i := 0) (by simp)).1
          have hql : q.length ≤ 14 := by have := h14; rw [todo_cons] at this; simp only [todo] at this; omega
          have hplz : (pl : Int) < (ops.length : Int) := by omega
          obtain ⟨_, _, _, _, hop⟩ := id hO0
          obtain ⟨bo, oo2, hao, p0, p1⟩ := hop pl hpl
          clear hop
          subst hao
          have hbo : bo < w.heap.size + 2 := by rw [← hsz]; exact World.block_lt_of_cell? _ _ p0
          have HL : Hid (ah.length = ops.length ∧ -1 ≤ gt ah pl ∧ gt ah pl ≤ 6) := ⟨hI.len, hI.bnd pl hpl⟩
          obtain ⟨D, hD⟩ : ∃ D, deepP ms (ops[pl].1, ops[pl].2) (gt ah pl) = D := ⟨_, rfl⟩
          have HD : Hid (deepP ms (ops[pl].1, ops[pl].2) (gt ah pl) = D) := hD
          have HI : Hid (Inv ms ops (fun _ => False) ah ((pl : Int) :: q)) := hI
          rw [List.length_cons] at hrq ⊢
          have hnx : ∀ j, (h : j < q.length) → (wr.alloc (.cells #[] 3)).cell? ((⟨gq, oq + 1, none⟩ : Addr).add j) = some (.int .i64 q[j]) := fun j hj => by
            rw [Addr.add_lit]
            refine cell_below ((Below.refl _ _).alloc (Nat.le_refl _) _) ?_
            have := (hrq.cell (i := j + 1) (by simp; omega)).1
            rw [show oq + (j + 1) = oq + 1 + j by omega] at this
            simpa using this
          have hem : IntRow (w.heap.size + 2) (wr.alloc (.cells #[] 3)) (.slice (some ⟨wr.heap.size, 0, none⟩) 0 0) [] := (IntRow.laid wr [] 3 (by simp)).mono (by omega)
          clear hI hD
          by_cases hcap : cq = 1
          · subst hcap
            have hq0 : q = [] := by
              rcases hrq with ⟨e, _⟩ | ⟨_, _, _, e, _, _, hl, _⟩
              · cases e
              · cases e
                simp at hl
                exact hl
            subst hq0
            go_wp2_with (at_builtin; refine append_ints Tryz.underlying63 hi hz0 hz1 hz2 _ (by rfl) _ _ (by rfl) (.slice (some ⟨wr.heap.size, 0, none⟩) 0 0) [] (by rfl) hem ⟨gq, oq, none⟩ 0 0 [] rfl (by rfl) (fun j h => absurd h (Nat.not_lt_zero _)) (.inr ⟨_, _, _, rfl⟩) (by simp) (by simp; omega) ?_; intro g3 off3 cap3 w3 h3 hg3 hat3)
            have hg3' : wr.grownBy w3 (some wr.heap.size) := ⟨hg3.os, hg3.tape, hg3.output, Nat.le_trans (by simp) hg3.size, fun k hk hne => (hg3.block k (by simp; omega) hne).trans (Below.heap_alloc wr _ k hk)⟩
            have hB3 := below_grow2 hB hg3' (by omega) (fun g' e => by have e' : wr.heap.size = g' := (by simpa using e); omega)
            have hro3 := hro.grown hg3' (fun g' e e2 => by have e' : go = g' := (by simpa [Value.ownBlock] using e); have e2' : wr.heap.size = g' := (by simpa using e2); omega)
            have hap3 : g3 ≠ go := fun e => by rcases hat3 with h | h <;> (simp [Value.ownBlock] at h; omega)
            simp only [List.nil_append, List.length_nil, Nat.zero_add] at h3
            clear hg3 hg3' hat3 hro hrq hB hx
            have q0 := cell_b hB3 p0 (by omega)
            have q1 := cell_b hB3 p1 (by omega)
            have bp3 := cell_b hB3 bp (by simp)
            have bm3 := cell_b hB3 bm (by simp)
            obtain ⟨cpl, _⟩ := hro3.cell (i := pl) (by rw [HL.out.1]; exact hpl)
            rw [← gt_nat ah pl (by rw [HL.out.1]; exact hpl)] at cpl
            have z3 := hB3.size
            have M3 : MethsAt w3.drew _ ms := (hM0.below (Below.mono' hB3 hsz)).below (Below.refl _ _).drew
            go_wp2_with fail
            go_region_held3 (fun w' => w'.cell? ⟨w.heap.size, 0, none⟩ = some vp ∧ w'.cell? ⟨w.heap.size + 1, 2, none⟩ = some (.slice (some ⟨bo, oo2, none⟩) ops.length co) ∧ w'.cell? ⟨bo, oo2 + pl * 2, none⟩ = some (.int .i64 ops[pl].1) ∧ w'.cell? ⟨bo, oo2 + pl * 2 + 1, none⟩ = some (.int .i64 ops[pl].2) ∧ w'.cell? ⟨go, oo + pl, none⟩ = some (.int .i64 (gt ah pl)))
              (first | go_keep | (refine ⟨cell_below hb4 ?_, cell_below hb4 ?_, cell_below hb4 ?_, cell_below hb4 ?_, cell_below hb4 ?_⟩ <;> assumption))
              ((go_at_call 113; refine (l2Deep_any _ ms _ _ _ D _ M3 (HT.out _ _).1 (HT.out _ _).2 (leaves_nonneg _ _ _).1 (leaves_nonneg _ _ _).2 HL.out.2.1 HL.out.2.2 HD).mono ?_; rintro e w4 ⟨rfl, hb4⟩))
            have B4 : Below (w.heap.size + 2) W0 w4 := hB3.drew.trans (hb4.mono (show w.heap.size + 2 ≤ w3.heap.size by omega))
            have hro4 := IntRow.below (w := w3.drew) hro3 hb4
            have h34 := IntRow.below (w := w3.drew) h3 hb4
            have q04 := cell_below hb4 (show w3.drew.cell? _ = _ from q0)
            have q14 := cell_below hb4 (show w3.drew.cell? _ = _ from q1)
            have bm4 := cell_below hb4 (show w3.drew.cell? _ = _ from bm3)
            have z4 : w.heap.size + 2 ≤ w4.heap.size := by have := B4.size; omega
            clear hb4 hro3 h3 q0 q1 bm3 bp3 cpl M3 hB3 z3
            go_wp2_with fail
            refine (l2Next_any _ _ pl (by omega) _).mono ?_
            rintro e w5 ⟨hb5, vn, rfl, hrn⟩
            have B5 : Below (w.heap.size + 2) W0 w5 := B4.trans (hb5.mono z4)
            have hro5 := hro4.below hb5
            have h35 := h34.below hb5
            have hgo4 := (hro4.lt go rfl).2
            have hg34 := (h34.lt g3 rfl).2
            have z5 := B5.size
            clear hb5 hro4 h34 q04 q14 bm4 B4
            have HK : Hid ((∀ k ∈ nextsS (ops[pl].1, ops[pl].2) pl, k ∈ nexts (opAt ops pl) pl ∧ 0 ≤ k) ∧ (∀ k ∈ nexts (opAt ops pl) pl, k ∈ nextsS (ops[pl].1, ops[pl].2) pl)) := ⟨fun k hk => ⟨by rw [opAt_nat ops pl hpl]; exact (nextsS_mem _ _ _).1 hk, HX.out pl hpl k hk⟩, fun k hk => by rw [opAt_nat ops pl hpl] at hk; exact (nextsS_mem _ _ _).2 hk⟩
            have hk2 := nextsS_len (ops[pl].1, ops[pl].2) pl
            generalize nextsS (ops[pl].1, ops[pl].2) (pl : Int) = ks at *
            obtain ⟨an, cn, rfl, _⟩ := hrn.slice
            have hvo : (Value.slice an ks.length cn).ownBlock ≠ some go := fun e => by have := (hrn.lt go e).1; omega
            have hvt : ∀ g, (Value.slice (some ⟨g3, off3, none⟩) ([] : List Int).length cap3).ownBlock = some g → (Value.slice an ks.length cn).ownBlock ≠ some g := fun g e e2 => by have e' : g3 = g := (by simpa [Value.ownBlock] using e); have := (hrn.lt g e2).1; omega
            have hrn5 := hrn.mono z4
            clear hrn
            have HC : Hid ((D = -1 ∧ ∀ g, ¬ Closed ms ops g) ∨ (D = behind ms (opAt ops pl) (gt ah pl) ∧ (takesOf ms (opAt ops pl).1 (opAt ops pl).2).1 ≤ gt ah pl ∧ 0 ≤ D ∧ D ≤ 6)) := by
              show _ ∨ _
              have hDo := HD.out
              rw [← opAt_nat ops pl hpl] at hDo
              rcases deepP_cases ms (opAt ops pl) (gt ah pl) with ⟨c1, c2⟩ | ⟨c1, c2, c3, c4⟩
              · exact .inl ⟨hDo.symm.trans c1, deep_no HI.out hpl h0 c2⟩
              · have : D = behind ms (opAt ops pl) (gt ah pl) := hDo.symm.trans c1
                exact .inr ⟨this, c2, by omega, by omega⟩
            have HP0 : Hid (Part ms ops pl D ah ([] : List Int) ks 0 ah ([] : List Int)) := ⟨HI.out.pop, rfl, rfl, by simp, fun _ => rfl⟩
            have HTD : Hid (todo ah ((pl : Int) :: ([] : List Int)) = todo ah ([] : List Int) + 1) := todo_cons _ _ _
            clear HD HI
            go_wp2
            go_loopg [8, 12] ks.length (fun g td i wr => ∃ (j : Nat) (ahj qj : List Int), j ≤ ks.length ∧ g = ks.length - j ∧ i = .int .i64 j ∧ Part ms ops pl D ah ([] : List Int) ks j ahj qj ∧ IntRow (w.heap.size + 2) wr (.slice (some ⟨go, oo, none⟩) ops.length cpo) ahj ∧ IntRow (w.heap.size + 2) wr td qj ∧ td.ownBlock ≠ some go ∧ IntRow (w.heap.size + 2) wr (.slice an ks.length cn) ks ∧ (∀ g, td.ownBlock = some g → (Value.slice an ks.length cn).ownBlock ≠ some g) ∧ Below (w.heap.size + 2) W0 wr)
            case atStart => exact ⟨0, ah, ([] : List Int), Nat.zero_le _, rfl, rfl, HP0.out, hro5, h35, by simp [Value.ownBlock]; exact hap3, hrn5, hvt, B5⟩
            case round =>
              clear HP0 hro5 h35 hrn5 hvt B5 z5 z4 z2
              obtain ⟨j, ahj, qj, hj, rfl, rfl, hP, hroj, hrtj, hapj, hrnj, hvtj, hBj⟩ := hrel
              have HP : Hid (Part ms ops pl D ah ([] : List Int) ks j ahj qj) := hP
              have hlj : ahj.length = ops.length := hP.inv.len
              have hqj : qj.length ≤ 14 := by have := hP.td; have := HTD.out; have h14' := h14; simp only [todo] at *; omega
              clear hP
              have zj := hBj.size
              have hgoj := (hroj.lt go rfl).2
              have bmj := cell_b hBj bm (by simp)
              by_cases hlt : j < ks.length
              · obtain ⟨gn, on, cn', hvn, hgn, hgnl⟩ := hrnj.form (by omega)
                obtain ⟨rfl, rfl⟩ : an = some ⟨gn, on, none⟩ ∧ cn = cn' := by injection hvn with e1 _ e2; exact ⟨e1, e2⟩
                clear hvn
                obtain ⟨hkm, hk0⟩ := HK.out.1 ks[j] (List.getElem_mem hlt)
                have HKM : Hid (ks[j] ∈ nexts (opAt ops pl) pl) := hkm
                obtain ⟨kn, hkn⟩ := Int.eq_ofNat_of_zero_le hk0
                have ckj := (hrnj.cell hlt).1
                rw [hkn] at ckj
                have hjz : (j : Int) < (ks.length : Int) := by omega
                clear hkm hk0
                by_cases hD0 : D < 0
                · have HN : Hid (∀ g, ¬ Closed ms ops g) := by rcases HC.out with ⟨_, h⟩ | ⟨_, _, h, _⟩; exact h; omega
                  go_wp2
                  go_ret2
                  exact ⟨hA.trans (hBj.mono (by omega)), atNo (hroj.mono (by omega)) HN.out⟩
                obtain ⟨hDb, _, hD0', hD6⟩ : D = behind ms (opAt ops pl) (gt ah pl) ∧ (takesOf ms (opAt ops pl).1 (opAt ops pl).2).1 ≤ gt ah pl ∧ 0 ≤ D ∧ D ≤ 6 := by
                  rcases HC.out with ⟨h, _⟩ | h
                  · omega
                  · exact h
                have hst := HP.out.step hpl h0 hDb hD0' hD6 hlt HKM.out
                have HS : Hid (((dd_comeP ahj qj (kn : Int) D).1 = false → ∀ g, ¬ Closed ms ops g) ∧ ((dd_comeP ahj qj (kn : Int) D).1 = true → Part ms ops pl D ah ([] : List Int) ks (j + 1) (dd_comeP ahj qj (kn : Int) D).2.1 (dd_comeP ahj qj (kn : Int) D).2.2)) := by rw [hkn] at hst; exact hst
                have hDn : ¬ D < 0 := by omega
                clear hst hDb hkn HKM
                by_cases hkl : kn < ops.length
                · have hkla : kn < ahj.length := by omega
                  obtain ⟨ck, fk⟩ := hroj.cell hkla
                  have hklz : (kn : Int) < (ops.length : Int) := by omega
                  have hbk := HP.out.inv.bnd kn hkl
                  rw [gt_nat ahj kn hkla] at hbk
                  by_cases h1 : ahj[kn] = -1
                  · have HSP : Hid (Part ms ops pl D ah ([] : List Int) ks (j + 1) (ahj.set kn D) (qj ++ [(kn : Int)])) := by
                      have := HS.out.2
                      rw [come_new hkla h1] at this
                      exact this rfl
                    rw [h1] at ck
                    have hset := hroj.set kn hkla D
                    have hrt1 := hrtj.set_other (p := ⟨go, oo + kn, none⟩) (.int .i64 D) hapj
                    have hrn1 := hrnj.set_other (p := ⟨go, oo + kn, none⟩) (.int .i64 D) hvo
                    have hb1 := below_set hBj go (oo + kn) (.int .i64 D) hgo
                    have hs1 : (wr.setCell ⟨go, oo + kn, none⟩ (.int .i64 D)).heap.size = wr.heap.size := by simp [World.setCell]
                    clear HS hbk
                    go_wp2_with (at_builtin; refine append_int Tryz.underlying63 hi hz0 hz1 hz2 _ (by rfl) _ _ (by rfl) _ qj (by rfl) hrt1 (kn : Int) wr.heap.size _ hs1 (by rfl) (by omega) (by omega) ?_; intro g7 off7 cap7 w7 h7 hg7 hat7 hlt7)
                    have hB7 := below_grow2 hb1 hg7 (by omega) (fun g' e => (hrt1.lt g' e).1)
                    have hro7 := hset.grown hg7 (fun g' e e2 => by have e' : go = g' := (by simpa [Value.ownBlock] using e); exact hapj (by rw [e2, e']))
                    have hrn7 := hrn1.grown hg7 (fun g' e e2 => hvtj g' e2 e)
                    have hg7o : g7 ≠ go := fun e => by
                      rcases hat7 with h | h
                      · exact hapj (by rw [h, e])
                      · omega
                    have hg7n : g7 ≠ gn := fun e => by
                      rcases hat7 with h | h
                      · exact hvtj g7 h (by rw [e]; rfl)
                      · omega
                    go_roundg (ks.length - (j + 1))
                    case measure => omega
                    case rel => exact ⟨j + 1, ahj.set kn D, qj ++ [(kn : Int)], by omega, rfl, by go_num, HSP.out, hro7, h7, by simp [Value.ownBlock]; exact hg7o, hrn7, fun g e => by simp [Value.ownBlock] at e ⊢; omega, hB7⟩
                  · have h0c : 0 ≤ ahj[kn] := by omega
                    have h0n : ¬ ahj[kn] < 0 := by omega
                    by_cases hcD : ahj[kn] = D
                    · have HSP : Hid (Part ms ops pl D ah ([] : List Int) ks (j + 1) ahj qj) := by
                        have := HS.out.2
                        rw [come_old hkla h1] at this
                        exact this (beq_iff_eq.2 hcD)
                      have hcD' : (ahj[kn] != D) = false := by rw [hcD]; simp
                      clear HS hbk
                      go_wp2
                      go_roundg (ks.length - (j + 1))
                      case measure => omega
                      case rel => exact ⟨j + 1, ahj, qj, by omega, rfl, by go_num, HSP.out, hroj, hrtj, hapj, hrnj, hvtj, hBj⟩
                    · have HN : Hid (∀ g, ¬ Closed ms ops g) := by
                        have := HS.out.1
                        rw [come_old hkla h1] at this
                        exact this (beq_eq_false_iff_ne.2 hcD)
                      have hcD' : (ahj[kn] != D) = true := bne_iff_ne.2 hcD
                      clear HS hbk
                      go_wp2
                      go_ret2
                      exact ⟨hA.trans (hBj.mono (by omega)), atNo (hroj.mono (by omega)) HN.out⟩
                · have HN : Hid (∀ g, ¬ Closed ms ops g) := by
                    have := HS.out.1
                    rw [come_out (inR_false.2 (by omega))] at this
                    exact this rfl
                  have hklz : (ops.length : Int) ≤ (kn : Int) := by omega
                  clear HS
                  go_wp2
                  go_ret2
                  exact ⟨hA.trans (hBj.mono (by omega)), atNo (hroj.mono (by omega)) HN.out⟩
              · obtain rfl : j = ks.length := by omega
                by_cases hD0 : D < 0
                · have HN : Hid (∀ g, ¬ Closed ms ops g) := by rcases HC.out with ⟨_, h⟩ | ⟨_, _, h, _⟩; exact h; omega
                  go_wp2
                  go_ret2
                  exact ⟨hA.trans (hBj.mono (by omega)), atNo (hroj.mono (by omega)) HN.out⟩
                obtain ⟨hDb, hDt, hD0', hD6⟩ : D = behind ms (opAt ops pl) (gt ah pl) ∧ (takesOf ms (opAt ops pl).1 (opAt ops pl).2).1 ≤ gt ah pl ∧ 0 ≤ D ∧ D ≤ 6 := by
                  rcases HC.out with ⟨h, _⟩ | h
                  · omega
                  · exact h
                have HIN : Hid (Inv ms ops (fun _ => False) ahj qj) := HP.out.inv.push (done_of hDt (by omega) HP.out.pres fun k hk => by rw [← hDb]; exact HP.out.vals k (by rw [List.take_length]; exact HK.out.2 k hk))
                have HTE : Hid (todo ahj qj + 1 = todo ah ((pl : Int) :: ([] : List Int))) := by show _ = _; rw [HP.out.td, HTD.out]
                clear hDb hDt HP HTD
                go_wp2
                go_roundg (todo ahj qj)
                case measure => have := HTE.out; omega
                case rel => exact ⟨ahj, qj, HIN.out, hroj, hrtj, hapj, rfl, by have := HTE.out; omega, hBj⟩
          · go_wp2_with (at_builtin; refine append_ints Tryz.underlying63 hi hz0 hz1 hz2 _ (by rfl) _ _ (by rfl) (.slice (some ⟨wr.heap.size, 0, none⟩) 0 0) [] (by rfl) hem ⟨gq, oq + 1, none⟩ q.length (cq - 1) q rfl (by rfl) hnx (.inr ⟨_, _, _, rfl⟩) (by simp; omega) (by simp; omega) ?_; intro g3 off3 cap3 w3 h3 hg3 hat3)
            have hg3' : wr.grownBy w3 (some wr.heap.size) := ⟨hg3.os, hg3.tape, hg3.output, Nat.le_trans (by simp) hg3.size, fun k hk hne => (hg3.block k (by simp; omega) hne).trans (Below.heap_alloc wr _ k hk)⟩
            have hB3 := below_grow2 hB hg3' (by omega) (fun g' e => by have e' : wr.heap.size = g' := (by simpa using e); omega)
            have hro3 := hro.grown hg3' (fun g' e e2 => by have e' : go = g' := (by simpa [Value.ownBlock] using e); have e2' : wr.heap.size = g' := (by simpa using e2); omega)
            have hap3 : g3 ≠ go := fun e => by rcases hat3 with h | h <;> (simp [Value.ownBlock] at h; omega)
            simp only [List.nil_append, List.length_nil, Nat.zero_add] at h3
            clear hg3 hg3' hat3 hro hrq hB hx
            have q0 := cell_b hB3 p0 (by omega)
            have q1 := cell_b hB3 p1 (by omega)
            have bp3 := cell_b hB3 bp (by simp)
            have bm3 := cell_b hB3 bm (by simp)
            obtain ⟨cpl, _⟩ := hro3.cell (i := pl) (by rw [HL.out.1]; exact hpl)
            rw [← gt_nat ah pl (by rw [HL.out.1]; exact hpl)] at cpl
            have z3 := hB3.size
            have M3 : MethsAt w3.drew _ ms := (hM0.below (Below.mono' hB3 hsz)).below (Below.refl _ _).drew
            go_wp2_with fail
            go_region_held3 (fun w' => w'.cell? ⟨w.heap.size, 0, none⟩ = some vp ∧ w'.cell? ⟨w.heap.size + 1, 2, none⟩ = some (.slice (some ⟨bo, oo2, none⟩) ops.length co) ∧ w'.cell? ⟨bo, oo2 + pl * 2, none⟩ = some (.int .i64 ops[pl].1) ∧ w'.cell? ⟨bo, oo2 + pl * 2 + 1, none⟩ = some (.int .i64 ops[pl].2) ∧ w'.cell? ⟨go, oo + pl, none⟩ = some (.int .i64 (gt ah pl)))
              (first | go_keep | (refine ⟨cell_below hb4 ?_, cell_below hb4 ?_, cell_below hb4 ?_, cell_below hb4 ?_, cell_below hb4 ?_⟩ <;> assumption))
              ((go_at_call 113; refine (l2Deep_any _ ms _ _ _ D _ M3 (HT.out _ _).1 (HT.out _ _).2 (leaves_nonneg _ _ _).1 (leaves_nonneg _ _ _).2 HL.out.2.1 HL.out.2.2 HD).mono ?_; rintro e w4 ⟨rfl, hb4⟩))
            have B4 : Below (w.heap.size + 2) W0 w4 := hB3.drew.trans (hb4.mono (show w.heap.size + 2 ≤ w3.heap.size by omega))
            have hro4 := IntRow.below (w := w3.drew) hro3 hb4
            have h34 := IntRow.below (w := w3.drew) h3 hb4
            have q04 := cell_below hb4 (show w3.drew.cell? _ = _ from q0)
            have q14 := cell_below hb4 (show w3.drew.cell? _ = _ from q1)
            have bm4 := cell_below hb4 (show w3.drew.cell? _ = _ from bm3)
            have z4 : w.heap.size + 2 ≤ w4.heap.size := by have := B4.size; omega
            clear hb4 hro3 h3 q0 q1 bm3 bp3 cpl M3 hB3 z3
            go_wp2_with fail
            refine (l2Next_any _ _ pl (by omega) _).mono ?_
            rintro e w5 ⟨hb5, vn, rfl, hrn⟩
            have B5 : Below (w.heap.size + 2) W0 w5 := B4.trans (hb5.mono z4)
            have hro5 := hro4.below hb5
            have h35 := h34.below hb5
            have hgo4 := (hro4.lt go rfl).2
            have hg34 := (h34.lt g3 rfl).2
            have z5 := B5.size
            clear hb5 hro4 h34 q04 q14 bm4 B4
            have HK : Hid ((∀ k ∈ nextsS (ops[pl].1, ops[pl].2) pl, k ∈ nexts (opAt ops pl) pl ∧ 0 ≤ k) ∧ (∀ k ∈ nexts (opAt ops pl) pl, k ∈ nextsS (ops[pl].1, ops[pl].2) pl)) := ⟨fun k hk => ⟨by rw [opAt_nat ops pl hpl]; exact (nextsS_mem _ _ _).1 hk, HX.out pl hpl k hk⟩, fun k hk => by rw [opAt_nat ops pl hpl] at hk; exact (nextsS_mem _ _ _).2 hk⟩
            have hk2 := nextsS_len (ops[pl].1, ops[pl].2) pl
            generalize nextsS (ops[pl].1, ops[pl].2) (pl : Int) = ks at *
            obtain ⟨an, cn, rfl, _⟩ := hrn.slice
            have hvo : (Value.slice an ks.length cn).ownBlock ≠ some go := fun e => by have := (hrn.lt go e).1; omega
            have hvt : ∀ g, (Value.slice (some ⟨g3, off3, none⟩) q.length cap3).ownBlock = some g → (Value.slice an ks.length cn).ownBlock ≠ some g := fun g e e2 => by have e' : g3 = g := (by simpa [Value.ownBlock] using e); have := (hrn.lt g e2).1; omega
            have hrn5 := hrn.mono z4
            clear hrn
            have HC : Hid ((D = -1 ∧ ∀ g, ¬ Closed ms ops g) ∨ (D = behind ms (opAt ops pl) (gt ah pl) ∧ (takesOf ms (opAt ops pl).1 (opAt ops pl).2).1 ≤ gt ah pl ∧ 0 ≤ D ∧ D ≤ 6)) := by
              show _ ∨ _
              have hDo := HD.out
              rw [← opAt_nat ops pl hpl] at hDo
              rcases deepP_cases ms (opAt ops pl) (gt ah pl) with ⟨c1, c2⟩ | ⟨c1, c2, c3, c4⟩
              · exact .inl ⟨hDo.symm.trans c1, deep_no HI.out hpl h0 c2⟩
              · have : D = behind ms (opAt ops pl) (gt ah pl) := hDo.symm.trans c1
                exact .inr ⟨this, c2, by omega, by omega⟩
            have HP0 : Hid (Part ms ops pl D ah q ks 0 ah q) := ⟨HI.out.pop, rfl, rfl, by simp, fun _ => rfl⟩
            have HTD : Hid (todo ah ((pl : Int) :: q) = todo ah q + 1) := todo_cons _ _ _
            clear HD HI
            go_wp2
            go_loopg [8, 12] ks.length (fun g td i wr => ∃ (j : Nat) (ahj qj : List Int), j ≤ ks.length ∧ g = ks.length - j ∧ i = .int .i64 j ∧ Part ms ops pl D ah q ks j ahj qj ∧ IntRow (w.heap.size + 2) wr (.slice (some ⟨go, oo, none⟩) ops.length cpo) ahj ∧ IntRow (w.heap.size + 2) wr td qj ∧ td.ownBlock ≠ some go ∧ IntRow (w.heap.size + 2) wr (.slice an ks.length cn) ks ∧ (∀ g, td.ownBlock = some g → (Value.slice an ks.length cn).ownBlock ≠ some g) ∧ Below (w.heap.size + 2) W0 wr)
            case atStart => exact ⟨0, ah, q, Nat.zero_le _, rfl, rfl, HP0.out, hro5, h35, by simp [Value.ownBlock]; exact hap3, hrn5, hvt, B5⟩
            case round =>
              clear HP0 hro5 h35 hrn5 hvt B5 z5 z4 z2
              obtain ⟨j, ahj, qj, hj, rfl, rfl, hP, hroj, hrtj, hapj, hrnj, hvtj, hBj⟩ := hrel
              have HP : Hid (Part ms ops pl D ah q ks j ahj qj) := hP
              have hlj : ahj.length = ops.length := hP.inv.len
              have hqj : qj.length ≤ 14 := by have := hP.td; have := HTD.out; have h14' := h14; simp only [todo] at *; omega
              clear hP
              have zj := hBj.size
              have hgoj := (hroj.lt go rfl).2
              have bmj := cell_b hBj bm (by simp)
              by_cases hlt : j < ks.length
              · obtain ⟨gn, on, cn', hvn, hgn, hgnl⟩ := hrnj.form (by omega)
                obtain ⟨rfl, rfl⟩ : an = some ⟨gn, on, none⟩ ∧ cn = cn' := by injection hvn with e1 _ e2; exact ⟨e1, e2⟩
                clear hvn
                obtain ⟨hkm, hk0⟩ := HK.out.1 ks[j] (List.getElem_mem hlt)
                have HKM : Hid (ks[j] ∈ nexts (opAt ops pl) pl) := hkm
                obtain ⟨kn, hkn⟩ := Int.eq_ofNat_of_zero_le hk0
                have ckj := (hrnj.cell hlt).1
                rw [hkn] at ckj
                have hjz : (j : Int) < (ks.length : Int) := by omega
                clear hkm hk0
                by_cases hD0 : D < 0
                · have HN : Hid (∀ g, ¬ Closed ms ops g) := by rcases HC.out with ⟨_, h⟩ | ⟨_, _, h, _⟩; exact h; omega
                  go_wp2
                  go_ret2
                  exact ⟨hA.trans (hBj.mono (by omega)), atNo (hroj.mono (by omega)) HN.out⟩
                obtain ⟨hDb, _, hD0', hD6⟩ : D = behind ms (opAt ops pl) (gt ah pl) ∧ (takesOf ms (opAt ops pl).1 (opAt ops pl).2).1 ≤ gt ah pl ∧ 0 ≤ D ∧ D ≤ 6 := by
                  rcases HC.out with ⟨h, _⟩ | h
                  · omega
                  · exact h
                have hst := HP.out.step hpl h0 hDb hD0' hD6 hlt HKM.out
                have HS : Hid (((dd_comeP ahj qj (kn : Int) D).1 = false → ∀ g, ¬ Closed ms ops g) ∧ ((dd_comeP ahj qj (kn : Int) D).1 = true → Part ms ops pl D ah q ks (j + 1) (dd_comeP ahj qj (kn : Int) D).2.1 (dd_comeP ahj qj (kn : Int) D).2.2)) := by rw [hkn] at hst; exact hst
                have hDn : ¬ D < 0 := by omega
                clear hst hDb hkn HKM
                by_cases hkl : kn < ops.length
                · have hkla : kn < ahj.length := by omega
                  obtain ⟨ck, fk⟩ := hroj.cell hkla
                  have hklz : (kn : Int) < (ops.length : Int) := by omega
                  have hbk := HP.out.inv.bnd kn hkl
                  rw [gt_nat ahj kn hkla] at hbk
                  by_cases h1 : ahj[kn] = -1
                  · have HSP : Hid (Part ms ops pl D ah q ks (j + 1) (ahj.set kn D) (qj ++ [(kn : Int)])) := by
                      have := HS.out.2
                      rw [come_new hkla h1] at this
                      exact this rfl
                    rw [h1] at ck
                    have hset := hroj.set kn hkla D
                    have hrt1 := hrtj.set_other (p := ⟨go, oo + kn, none⟩) (.int .i64 D) hapj
                    have hrn1 := hrnj.set_other (p := ⟨go, oo + kn, none⟩) (.int .i64 D) hvo
                    have hb1 := below_set hBj go (oo + kn) (.int .i64 D) hgo
                    have hs1 : (wr.setCell ⟨go, oo + kn, none⟩ (.int .i64 D)).heap.size = wr.heap.size := by simp [World.setCell]
                    clear HS hbk
                    go_wp2_with (at_builtin; refine append_int Tryz.underlying63 hi hz0 hz1 hz2 _ (by rfl) _ _ (by rfl) _ qj (by rfl) hrt1 (kn : Int) wr.heap.size _ hs1 (by rfl) (by omega) (by omega) ?_; intro g7 off7 cap7 w7 h7 hg7 hat7 hlt7)
                    have hB7 := below_grow2 hb1 hg7 (by omega) (fun g' e => (hrt1.lt g' e).1)
                    have hro7 := hset.grown hg7 (fun g' e e2 => by have e' : go = g' := (by simpa [Value.ownBlock] using e); exact hapj (by rw [e2, e']))
                    have hrn7 := hrn1.grown hg7 (fun g' e e2 => hvtj g' e2 e)
                    have hg7o : g7 ≠ go := fun e => by
                      rcases hat7 with h | h
                      · exact hapj (by rw [h, e])
                      · omega
                    have hg7n : g7 ≠ gn := fun e => by
                      rcases hat7 with h | h
                      · exact hvtj g7 h (by rw [e]; rfl)
                      · omega
                    go_roundg (ks.length - (j + 1))
                    case measure => omega
                    case rel => exact ⟨j + 1, ahj.set kn D, qj ++ [(kn : Int)], by omega, rfl, by go_num, HSP.out, hro7, h7, by simp [Value.ownBlock]; exact hg7o, hrn7, fun g e => by simp [Value.ownBlock] at e ⊢; omega, hB7⟩
                  · have h0c : 0 ≤ ahj[kn] := by omega
                    have h0n : ¬ ahj[kn] < 0 := by omega
                    by_cases hcD : ahj[kn] = D
                    · have HSP : Hid (Part ms ops pl D ah q ks (j + 1) ahj qj) := by
                        have := HS.out.2
                        rw [come_old hkla h1] at this
                        exact this (beq_iff_eq.2 hcD)
                      have hcD' : (ahj[kn] != D) = false := by rw [hcD]; simp
                      clear HS hbk
                      go_wp2
                      go_roundg (ks.length - (j + 1))
                      case measure => omega
                      case rel => exact ⟨j + 1, ahj, qj, by omega, rfl, by go_num, HSP.out, hroj, hrtj, hapj, hrnj, hvtj, hBj⟩
                    · have HN : Hid (∀ g, ¬ Closed ms ops g) := by
                        have := HS.out.1
                        rw [come_old hkla h1] at this
                        exact this (beq_eq_false_iff_ne.2 hcD)
                      have hcD' : (ahj[kn] != D) = true := bne_iff_ne.2 hcD
                      clear HS hbk
                      go_wp2
                      go_ret2
                      exact ⟨hA.trans (hBj.mono (by omega)), atNo (hroj.mono (by omega)) HN.out⟩
                · have HN : Hid (∀ g, ¬ Closed ms ops g) := by
                    have := HS.out.1
                    rw [come_out (inR_false.2 (by omega))] at this
                    exact this rfl
                  have hklz : (ops.length : Int) ≤ (kn : Int) := by omega
                  clear HS
                  go_wp2
                  go_ret2
                  exact ⟨hA.trans (hBj.mono (by omega)), atNo (hroj.mono (by omega)) HN.out⟩
              · obtain rfl : j = ks.length := by omega
                by_cases hD0 : D < 0
                · have HN : Hid (∀ g, ¬ Closed ms ops g) := by rcases HC.out with ⟨_, h⟩ | ⟨_, _, h, _⟩; exact h; omega
                  go_wp2
                  go_ret2
                  exact ⟨hA.trans (hBj.mono (by omega)), atNo (hroj.mono (by omega)) HN.out⟩
                obtain ⟨hDb, hDt, hD0', hD6⟩ : D = behind ms (opAt ops pl) (gt ah pl) ∧ (takesOf ms (opAt ops pl).1 (opAt ops pl).2).1 ≤ gt ah pl ∧ 0 ≤ D ∧ D ≤ 6 := by
                  rcases HC.out with ⟨h, _⟩ | h
                  · omega
                  · exact h
                have HIN : Hid (Inv ms ops (fun _ => False) ahj qj) := HP.out.inv.push (done_of hDt (by omega) HP.out.pres fun k hk => by rw [← hDb]; exact HP.out.vals k (by rw [List.take_length]; exact HK.out.2 k hk))
                have HTE : Hid (todo ahj qj + 1 = todo ah ((pl : Int) :: q)) := by show _ = _; rw [HP.out.td, HTD.out]
                clear hDb hDt HP HTD
                go_wp2
                go_roundg (todo ahj qj)
                case measure => have := HTE.out; omega
                case rel => exact ⟨ahj, qj, HIN.out, hroj, hrtj, hapj, rfl, by have := HTE.out; omega, hBj⟩
end Go.Proofs.YtfpodljalccpnaaGreatDoor
