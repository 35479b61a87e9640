/-
  Pieces of the program's MachOk: what runs, frames, pages and twins. (Written by mkmo2.py.)
-/
import Derived.Test.YtldiccheboipeaaHNew
import Derived.Test.YtldiccheboipeaaQB
import Derived.Deep.QuietTactic
import Derived.BigQuiet
import Derived.Deep.RegionWith
import Derived.Test.YtldiccheboipeaaHImpl4
import Derived.Test.YtldiccheboipeaaVals
import Derived.Deep.RegionHeld3
import Derived.Test.YtldiccheboipeaaCallRow

namespace Go.Proofs.Ytldiccheboipeaa
open Go.RowKit
theorem few_ints : ∀ (l A : List Int), l.Nodup → (∀ k ∈ l, k ∈ A) → l.length ≤ A.length
  | [], _, _, _ => Nat.zero_le _
  | x :: l, A, hn, hA => by
    have hx : x ∈ A := hA x (List.mem_cons_self ..)
    obtain ⟨hx1, hn1⟩ := List.nodup_cons.1 hn
    have := few_ints l (A.erase x) hn1 fun k hk => (List.mem_erase_of_ne (show k ≠ x from fun e => hx1 (by rw [← e]; exact hk))).2 (hA k (List.mem_cons_of_mem _ hk))
    rw [List.length_erase_of_mem hx] at this
    have h0 : 0 < A.length := List.length_pos_of_mem hx
    simp only [List.length_cons]
    omega
theorem order_in {m : Mc} (h : orderB m = true) {x : Int} (hx : x ∈ m.order) : 0 ≤ x ∧ x < (m.pages.length : Int) := by
  unfold orderB at h
  rw [Bool.and_eq_true_iff] at h
  have hl : m.order.length = m.pages.length := by simpa using h.1
  have ha := List.all_eq_true.1 h.2
  by_cases hr : 0 ≤ x ∧ x < (m.pages.length : Int)
  · exact hr
  · exfalso
    have hnd : ((List.range m.pages.length).map fun i : Nat => (i : Int)).Nodup := by
      refine List.Pairwise.map _ (fun a b hab e => hab (by omega)) List.nodup_range
    have hmem : ∀ k ∈ (List.range m.pages.length).map fun i : Nat => (i : Int), k ∈ m.order := fun k hk => by
      obtain ⟨i, hi, rfl⟩ := List.mem_map.1 hk
      simpa using ha i hi
    have hnx : x ∉ (List.range m.pages.length).map fun i : Nat => (i : Int) := fun hk => by
      obtain ⟨i, hi, rfl⟩ := List.mem_map.1 hk
      exact hr ⟨by omega, by have := List.mem_range.1 hi; omega⟩
    have := few_ints (x :: (List.range m.pages.length).map fun i : Nat => (i : Int)) m.order (List.nodup_cons.2 ⟨hnx, hnd⟩) (fun k hk => by
      rcases List.mem_cons.1 hk with rfl | hk
      · exact hx
      · exact hmem k hk)
    simp at this
    omega
theorem bel_drewN {B : Nat} {w0 w : World} (h : Below B w0 w) (n : Nat) : Below B w0 (w.drewN n) := ⟨h.os, h.tape, h.output, h.size, h.block⟩
def Pg.none : Pg := ⟨-1, []⟩
def pgAt (m : Mc) (i : Int) : Pg := m.pages.getD i.toNat Pg.none
theorem pgAt_at {m : Mc} {k : Nat} (h : k < m.pages.length) : pgAt m (k : Int) = m.pages[k] := by simp [pgAt, h]
def nowB (m : Mc) : Bool := m.now == -1 || (m.now == m.order.getD (m.order.length - 1) 0 && decide (0 < (pgAt m m.now).frames.length))
set_option maxRecDepth 100000 in
set_option maxHeartbeats 4000000 in
theorem nowOk_any (vp vo vt vs : Value) (m : Mc) (w : World) (h : MachAt w vp vo vt vs m) (ho : orderB m = true) (hp1 : 1 ≤ m.pages.length) :
    Calls Try.prog 43 #[.agg (mcCells vp vo vt vs m).toArray] w fun e w' => e = .returned (.bool (nowB m)) ∧ Below w.heap.size w w' := by
  have HLEQ : Hid (m.order.length = m.pages.length) := by show _ = _; unfold orderB at ho; rw [Bool.and_eq_true_iff] at ho; simpa using ho.1
  have HIN : Hid (∀ x ∈ m.order, 0 ≤ x ∧ x < (m.pages.length : Int)) := fun x hx => order_in ho hx
  clear ho
  obtain ⟨ap, cp, hvp, hlp, hcp⟩ := id h.p
  obtain ⟨ao, co, hvo, hlo, hco⟩ := id h.o
  obtain ⟨at', ct, hvt, hlt', hct⟩ := id h.t
  obtain ⟨as', cs, hvs⟩ := h.s.shape
  subst hvp hvo hvt hvs
  unfold mcCells
  unfold maxLen at hlp hlo
  go_enter Try.func43, Try.ntmps43
  go_upto_region 1 with fail
  refine wp_gen (fun W => Below w.heap.size w W ∧ Bx W w.heap.size 33 [.int .i64 m.cells, .slice ap m.pages.length cp, .slice ao m.order.length co, .int .i64 m.now, .slice at' m.twins.length ct, .int .i64 m.born, .slice as' m.said.length cs, .int .i64 m.code]) ⟨(Below.refl _ _).alloc (Nat.le_refl _) _, Bx.new w _ _⟩ ?_
  rintro W ⟨hb, hm⟩
  obtain ⟨⟨m0, m1, m2, m3, m4, m5, m6, m7⟩, _⟩ := bx8 hm
  by_cases hnow : m.now = -1
  · have HE : Hid (nowB m = true) := by show _ = _; unfold nowB; rw [hnow]; rfl
    rw [hnow] at m3
    go_wp2
    go_ret
    exact ⟨ret_bool HE.out.symm, hb⟩
  have hne : (m.now == -1) = false := by simpa using hnow
  obtain ⟨q, hq⟩ : ∃ q, m.order.length = q + 1 := ⟨m.order.length - 1, by have := HLEQ.out; omega⟩
  have hql : q < m.order.length := by omega
  obtain ⟨b, o, hao, c0⟩ := hco q hql
  subst hao
  have d0 := cell_below hb c0
  have HL : Hid (m.order.getD (m.order.length - 1) 0 = m.order[q]) := by show _ = _; rw [hq]; simp [hql]
  have hrng := HIN.out _ (List.getElem_mem hql)
  obtain ⟨last, hla⟩ : ∃ l, m.order[q] = l := ⟨_, rfl⟩
  rw [hla] at HL d0 hrng
  have hq1 : ((m.order.length : Int)) - 1 = (q : Int) := by omega
  have hqz : (q : Int) < (m.order.length : Int) := by omega
  have hwq : IntKind.i64.wrap ((m.order.length : Int) - 1) = (q : Int) := by rw [IntKind.wrap_i64]; omega
  have hbl : b < w.heap.size := World.block_lt_of_cell? _ _ c0
  clear hla c0 hco hq hq1
  obtain ⟨k, hk⟩ := Int.eq_ofNat_of_zero_le hrng.1
  subst hk
  have hkl : k < m.pages.length := by omega
  obtain ⟨b2, o2, vf, hap, hpg⟩ := hcp k hkl
  subst hap
  obtain ⟨af, cf, hvf⟩ := hpg.f.shape
  have e1 := cell_below hb hpg.c1
  rw [hvf] at e1
  obtain ⟨nf, hnf⟩ : ∃ nf, m.pages[k].frames.length = nf := ⟨_, rfl⟩
  have HPG : Hid ((pgAt m (k : Int)).frames.length = nf) := by show _ = _; rw [pgAt_at hkl, hnf]
  rw [hnf] at e1
  clear hnf hpg hcp hvf
  have hkz : (k : Int) < (m.pages.length : Int) := by omega
  by_cases hnl : m.now = (k : Int)
  · have HE : Hid (nowB m = decide (0 < nf)) := by show _ = _; unfold nowB; rw [hne, HL.out, hnl, HPG.out]; simp
    rw [hnl] at m3 hne
    go_wp2_with fail
    go_quiet (fail)
    go_wp2
    go_ret
    exact ⟨ret_bool HE.out.symm, bel_drewN hb _⟩
  · have HE : Hid (nowB m = false) := by show _ = _; unfold nowB; rw [hne, HL.out]; simp [hnl]
    have hnl2 : (m.now == (k : Int)) = false := by simpa using hnl
    go_wp2_with fail
    go_quiet (fail)
    go_wp2
    go_ret
    exact ⟨ret_bool HE.out.symm, bel_drewN hb _⟩
end Go.Proofs.Ytldiccheboipeaa

/-
  Pieces of the program's MachOk: frames, bases and twins. (Written by mkmo3.py.)
-/
namespace Go.Proofs.Ytldiccheboipeaa
open Go.RowKit
def frB (m : Mc) (i k : Int) : Bool := inR i 0 ((m.pages.length : Int) - 1) && inR k 0 (((pgAt m i).frames.length : Int) - 1)
theorem pg_of {m : Mc} {i : Int} (h : inR i 0 ((m.pages.length : Int) - 1) = true) : ∃ k : Nat, i = (k : Int) ∧ k < m.pages.length := by
  have := inR_true.1 h
  obtain ⟨k, rfl⟩ := Int.eq_ofNat_of_zero_le this.1
  exact ⟨k, rfl, by omega⟩
set_option maxRecDepth 100000 in
set_option maxHeartbeats 4000000 in
theorem isFrame_any (vp vo vt vs : Value) (m : Mc) (i k : Int) (w : World) (h : MachAt w vp vo vt vs m) :
    Calls Try.prog 94 #[.agg (mcCells vp vo vt vs m).toArray, .int .i64 i, .int .i64 k] w fun e w' => e = .returned (.bool (frB m i k)) ∧ Below w.heap.size w w' := by
  obtain ⟨ap, cp, hvp, hlp, hcp⟩ := id h.p
  obtain ⟨ao, co, hvo, hlo, hco⟩ := id h.o
  obtain ⟨at', ct, hvt, hlt', hct⟩ := id h.t
  obtain ⟨as', cs, hvs⟩ := h.s.shape
  subst hvp hvo hvt hvs
  unfold mcCells
  go_enter Try.func94, Try.ntmps94
  go_upto_region 1 with fail
  refine wp_gen (fun W => Below w.heap.size w W ∧ Bx W w.heap.size 33 [.int .i64 m.cells, .slice ap m.pages.length cp, .slice ao m.order.length co, .int .i64 m.now, .slice at' m.twins.length ct, .int .i64 m.born, .slice as' m.said.length cs, .int .i64 m.code]) ⟨(Below.refl _ _).alloc (Nat.le_refl _) _, Bx.new w _ _⟩ ?_
  rintro W ⟨hb, hm⟩
  obtain ⟨⟨m0, m1, m2, m3, m4, m5, m6, m7⟩, _⟩ := bx8 hm
  obtain ⟨f, hf⟩ : ∃ f, inR i 0 ((m.pages.length : Int) - 1) = f := ⟨_, rfl⟩
  have HP := isPlace_any i m.pages.length W
  rw [hf] at HP
  go_wp2_with fail
  refine HP.mono ?_
  rintro e W1 ⟨rfl, hw⟩
  obtain rfl := hw.symm
  clear hw HP
  cases f
  · have HE : Hid (frB m i k = false) := by show _ = _; unfold frB; rw [hf]; rfl
    go_wp2
    go_ret
    exact ⟨ret_bool HE.out.symm, hb⟩
  obtain ⟨j, rfl, hj⟩ := pg_of hf
  obtain ⟨b2, o2, vf, hap, hpg⟩ := hcp j hj
  subst hap
  obtain ⟨af, cf, hvf⟩ := hpg.f.shape
  have e1 := cell_below hb hpg.c1
  rw [hvf] at e1
  have hjz : (j : Int) < (m.pages.length : Int) := by omega
  have HE : Hid (frB m (j : Int) k = inR k 0 ((m.pages[j].frames.length : Int) - 1)) := by show _ = _; unfold frB; rw [hf, pgAt_at hj]; rfl
  clear hf hcp hpg hvf
  go_wp2_with fail
  refine (isPlace_any _ _ _).mono ?_
  rintro e W1 ⟨rfl, hw⟩
  obtain rfl := hw.symm
  clear hw
  go_wp2
  go_ret
  exact ⟨ret_bool HE.out.symm, hb⟩
def emptyB (c : Cl) : Bool := c.m == 0 && c.pc == 0 && decide (c.temps.length = 0) && decide (c.stack.length = 0) && c.sender == 0 && !c.dead
set_option maxRecDepth 100000 in
set_option maxHeartbeats 4000000 in
theorem isEmptyCall_any (c : Cl) (vt vs : Value) (w : World) (ht : OpsAt w vt c.temps) (hs : OpsAt w vs c.stack) :
    Calls Try.prog 95 #[.agg #[.int .i64 c.m, .int .i64 c.pc, vt, vs, .int .i64 c.sender, .bool c.dead]] w fun e w' => e = .returned (.bool (emptyB c)) ∧ Below w.heap.size w w' := by
  obtain ⟨a1, c1, e1, hl1, _⟩ := ht
  obtain ⟨a2, c2, e2, hl2, _⟩ := hs
  subst e1 e2
  have hB : ∀ o, Below w.heap.size w (w.alloc o) := fun o => (Below.refl _ _).alloc (Nat.le_refl _) _
  go_enter Try.func95, Try.ntmps95
  by_cases h0 : c.m = 0
  case neg =>
    have HE : Hid (emptyB c = false) := by show _ = _; unfold emptyB; simp [h0]
    have e : (c.m == 0) = false := by simpa using h0
    go_wp2
    go_ret
    exact ⟨ret_bool HE.out.symm, hB _⟩
  by_cases h1 : c.pc = 0
  case neg =>
    have HE : Hid (emptyB c = false) := by show _ = _; unfold emptyB; simp [h1]
    have e : (c.pc == 0) = false := by simpa using h1
    go_wp2
    go_ret
    exact ⟨ret_bool HE.out.symm, hB _⟩
  by_cases h2 : c.temps.length = 0
  case neg =>
    have HE : Hid (emptyB c = false) := by show _ = _; unfold emptyB; simp [h2]
    go_wp2
    go_ret
    exact ⟨ret_bool HE.out.symm, hB _⟩
  by_cases h3 : c.stack.length = 0
  case neg =>
    have HE : Hid (emptyB c = false) := by show _ = _; unfold emptyB; simp [h3]
    go_wp2
    go_ret
    exact ⟨ret_bool HE.out.symm, hB _⟩
  by_cases h4 : c.sender = 0
  case neg =>
    have HE : Hid (emptyB c = false) := by show _ = _; unfold emptyB; simp [h4]
    have e : (c.sender == 0) = false := by simpa using h4
    go_wp2
    go_ret
    exact ⟨ret_bool HE.out.symm, hB _⟩
  have HE : Hid (emptyB c = !c.dead) := by show _ = _; unfold emptyB; simp [h0, h1, h2, h3, h4]
  go_wp2
  go_ret
  exact ⟨ret_bool HE.out.symm, hB _⟩
def Tw.none : Tw := ⟨-1, 0, ⟨0, 0, [], [], 0, false⟩⟩
def twAt (m : Mc) (i : Int) : Tw := m.twins.getD i.toNat Tw.none
theorem twAt_at {m : Mc} {k : Nat} (h : k < m.twins.length) : twAt m (k : Int) = m.twins[k] := by simp [twAt, h]
theorem tw_of {m : Mc} {i : Int} (h : inR i 0 ((m.twins.length : Int) - 1) = true) : ∃ k : Nat, i = (k : Int) ∧ k < m.twins.length := by
  have := inR_true.1 h
  obtain ⟨k, rfl⟩ := Int.eq_ofNat_of_zero_le this.1
  exact ⟨k, rfl, by omega⟩
def baseB (m : Mc) (p : Pg) : Bool :=
  p.base == -1 || (decide (p.frames.length ≠ 0) && inR p.base 0 ((m.twins.length : Int) - 1) && ((twAt m p.base).page == -1 || (inR (twAt m p.base).page 0 ((m.pages.length : Int) - 1) && (twAt m p.base).place == ((pgAt m (twAt m p.base).page).frames.length : Int) - 1)))
set_option maxRecDepth 100000 in
set_option maxHeartbeats 4000000 in
theorem baseOk_any (vp vo vt vs : Value) (m : Mc) (p : Pg) (af : Option Addr) (cf : Nat) (w : World) (h : MachAt w vp vo vt vs m) (hsm : ∀ i, (hi : i < m.pages.length) → m.pages[i].frames.length ≤ 1099511627776) :
    Calls Try.prog 92 #[.agg (mcCells vp vo vt vs m).toArray, .agg #[.int .i64 p.base, .slice af p.frames.length cf]] w fun e w' => e = .returned (.bool (baseB m p)) ∧ Below w.heap.size w w' := by
  obtain ⟨ap, cp, hvp, hlp, hcp⟩ := id h.p
  obtain ⟨ao, co, hvo, hlo, hco⟩ := id h.o
  obtain ⟨at', ct, hvt, hlt', hct⟩ := id h.t
  obtain ⟨as', cs, hvs⟩ := h.s.shape
  subst hvp hvo hvt hvs
  unfold mcCells
  have HSM : Hid (∀ i, (hi : i < m.pages.length) → m.pages[i].frames.length ≤ 1099511627776) := hsm
  clear hsm
  go_enter Try.func92, Try.ntmps92
  go_upto_region 1 with fail
  refine wp_gen (fun W => Below w.heap.size w W ∧ Bx W w.heap.size 33 [.int .i64 m.cells, .slice ap m.pages.length cp, .slice ao m.order.length co, .int .i64 m.now, .slice at' m.twins.length ct, .int .i64 m.born, .slice as' m.said.length cs, .int .i64 m.code] ∧ Bx W (w.heap.size + 1) 51 [.int .i64 p.base, .slice af p.frames.length cf]) ⟨((Below.refl _ _).alloc (Nat.le_refl _) _).alloc (by simp) _, (Bx.new w _ _).alloc _, Bx.newAt _ _ _ (by simp)⟩ ?_
  rintro W ⟨hb, hm, hx⟩
  obtain ⟨⟨m0, m1, m2, m3, m4, m5, m6, m7⟩, _⟩ := bx8 hm
  have x0 := hx.cell 0 rfl
  have x1 := hx.cell 1 rfl
  by_cases hb1 : p.base = -1
  · have HE : Hid (baseB m p = true) := by show _ = _; unfold baseB; rw [hb1]; rfl
    rw [hb1] at x0
    go_wp2
    go_ret
    exact ⟨ret_bool HE.out.symm, hb⟩
  have hbe : (p.base == -1) = false := by simpa using hb1
  by_cases hf0 : p.frames.length = 0
  · have HE : Hid (baseB m p = false) := by show _ = _; unfold baseB; rw [hbe, hf0]; rfl
    rw [hf0] at x1
    go_wp2
    go_ret
    exact ⟨ret_bool HE.out.symm, hb⟩
  have hfz : ¬ ((p.frames.length : Int) = 0) := by omega
  obtain ⟨f, hf⟩ : ∃ f, inR p.base 0 ((m.twins.length : Int) - 1) = f := ⟨_, rfl⟩
  have HP := isPlace_any p.base m.twins.length W
  rw [hf] at HP
  go_wp2_with fail
  refine HP.mono ?_
  rintro e W1 ⟨rfl, hw⟩
  obtain rfl := hw.symm
  clear hw HP
  cases f
  · have HE : Hid (baseB m p = false) := by show _ = _; unfold baseB; rw [hbe, hf]; simp
    go_wp2
    go_ret
    exact ⟨ret_bool HE.out.symm, hb⟩
  obtain ⟨j, hj, hjl⟩ := tw_of hf
  have HB0 : Hid (baseB m p = ((twAt m p.base).page == -1 || (inR (twAt m p.base).page 0 ((m.pages.length : Int) - 1) && (twAt m p.base).place == ((pgAt m (twAt m p.base).page).frames.length : Int) - 1))) := by show _ = _; unfold baseB; rw [hbe, hf]; simp [hf0]
  rw [hj] at x0 HB0 hbe
  rw [twAt_at hjl] at HB0
  obtain ⟨b, o, vt, vs, hat, htw⟩ := hct j hjl
  subst hat
  obtain ⟨d0, d1, d2, d3, d4, d5, d6, d7, dt, ds⟩ := htw.below hb
  obtain ⟨a1, k1, e1⟩ := dt.shape
  obtain ⟨a2, k2, e2⟩ := ds.shape
  rw [e1] at d4
  rw [e2] at d5
  have hjz : (j : Int) < (m.twins.length : Int) := by omega
  have zb := hb.size
  have lm := hm.lt
  clear hf hct htw dt ds e1 e2 hj hb1
  obtain ⟨T, hT⟩ : ∃ T, m.twins[j] = T := ⟨_, rfl⟩
  rw [hT] at d0 d1 d2 d3 d4 d5 d6 d7 HB0
  clear hT
  go_upto_region 6 with fail
  refine wp_gen (fun W' => Below W.heap.size W W' ∧ Bx W' W.heap.size 90 [.int .i64 T.page, .int .i64 T.place, .int .i64 T.left.m, .int .i64 T.left.pc, .slice a1 T.left.temps.length k1, .slice a2 T.left.stack.length k2, .int .i64 T.left.sender, .bool T.left.dead]) ⟨(Below.refl _ _).alloc (Nat.le_refl _) _, Bx.new _ _ _⟩ ?_
  rintro W2 ⟨t2, y2⟩
  have hb2 := hb.trans (t2.mono zb)
  have hm2 := hm.below t2
  clear hb hm hx t2 zb lm d0 d1 d2 d3 d4 d5 d6 d7 m0 m1 m2 m3 m4 m5 m6 m7 x0 x1
  obtain ⟨⟨m0, m1, m2, m3, m4, m5, m6, m7⟩, _⟩ := bx8 hm2
  have y0 := y2.cell 0 rfl
  have y1 := y2.cell 1 rfl
  by_cases hpn : T.page = -1
  · have HE : Hid (baseB m p = true) := by rw [HB0.out, hpn]; rfl
    rw [hpn] at y0
    go_wp2
    go_ret
    exact ⟨ret_bool HE.out.symm, hb2⟩
  have hpe : (T.page == -1) = false := by simpa using hpn
  obtain ⟨f, hf⟩ : ∃ f, inR T.page 0 ((m.pages.length : Int) - 1) = f := ⟨_, rfl⟩
  have HP := fun W => isPlace_any T.page m.pages.length W
  rw [hf] at HP
  cases f
  · have HE : Hid (baseB m p = false) := by rw [HB0.out, hpe, hf]; rfl
    clear HB0 hf
    go_wp2_with fail
    go_quiet ((go_at_call 56; exact Calls.quiet_of_same (HP _)))
    go_wp2
    go_ret
    exact ⟨ret_bool HE.out.symm, bel_drewN hb2 _⟩
  obtain ⟨i, hi, hil⟩ := pg_of hf
  rw [hi] at HB0 y0 HP hf hpe
  rw [pgAt_at hil, hf, hpe] at HB0
  obtain ⟨b2, o2, vf, hap, hpg⟩ := hcp i hil
  subst hap
  obtain ⟨ag, cg, hvf⟩ := hpg.f.shape
  have g1 := cell_below hb2 hpg.c1
  rw [hvf] at g1
  have hnb := HSM.out i hil
  obtain ⟨nf, hnf⟩ : ∃ nf, m.pages[i].frames.length = nf := ⟨_, rfl⟩
  rw [hnf] at g1 HB0 hnb
  have hiz : (i : Int) < (m.pages.length : Int) := by omega
  have hwn : IntKind.i64.wrap ((nf : Int) - 1) = (nf : Int) - 1 := by rw [IntKind.wrap_i64]; omega
  have HE : Hid (baseB m p = (T.place == (nf : Int) - 1)) := by rw [HB0.out]; rfl
  clear HB0 hf hcp hpg hvf hnf hi hpn
  go_wp2_with fail
  go_quiet ((go_at_call 56; exact Calls.quiet_of_same (HP _)))
  go_wp2
  go_ret
  exact ⟨ret_bool HE.out.symm, bel_drewN hb2 _⟩
end Go.Proofs.Ytldiccheboipeaa

/-
  What is seen of a heap, by the model: l11Has, l11Refs, l11Found, l11Names, l11Copy.
-/
namespace Go.Proofs.Ytldiccheboipeaa
open Go.RowKit
theorem nums_at (l : List Nat) (i : Nat) (h : i < (nums l).length) : (nums l)[i] = ((l[i]'(by simpa [nums] using h) : Nat) : Int) := by simp [nums]
theorem append_i {ops : Array Oper} {rest : List Oper} {o : Oper} {act : Act} {Q : Exit → Act → World → Prop} (w : World) (hgd : o.guard = none) (s x : Operand)
    (ho : o.op = .call { callee := .builtin .append, args := #[s, x], argTypes := #[29, 29] }) (B : Nat) (v : Value) (L : List Int) (hs : act.eval s = v) (hown : IntRow B w v L) (k : Int) (H c : Nat) (hH : w.heap.size = H)
    (hx : act.eval x = .slice (some ⟨H, 0, none⟩) 1 c) (hL : L.length ≤ 900000) (hB : B ≤ H)
    (h : ∀ g off cap w', IntRow B w' (.slice (some ⟨g, off, none⟩) (L.length + 1) cap) (L ++ [k]) → w.grownBy w' v.ownBlock → (v.ownBlock = some g ∨ H ≤ g) → g < w'.heap.size →
      wpList Try.prog ops Q rest (act.put o.dst (.slice (some ⟨g, off, none⟩) (L.length + 1) cap)) w') :
    wpList Try.prog ops Q (o :: rest) act (w.alloc (.cells #[.int .i64 k] 3)) := by
  obtain ⟨i0, hi, hz0, hz1, hz2⟩ := info_parts Try.infoInt2
  exact append_int Try.underlying29 hi hz0 hz1 hz2 w hgd s x ho v L hs hown k H c hH hx hL hB h
end Go.Proofs.Ytldiccheboipeaa

/-
  What is seen of a heap, by the model: l11Names, l11Copy.
-/
namespace Go.Proofs.Ytldiccheboipeaa
open Go.RowKit
theorem map_take {α β : Type} {f : α → β} {l : List α} {k : Nat} (h : k < l.length) : (l.take k).map f ++ [f l[k]] = (l.take (k + 1)).map f := by
  rw [List.take_add_one, List.getElem?_eq_getElem h, List.map_append]
  rfl
end Go.Proofs.Ytldiccheboipeaa

/-
  What is seen of a heap, by the model: l11Found answers the calls that can be come to.
-/
namespace Go.Proofs.Ytldiccheboipeaa
open Go.RowKit
def Hp.short (h : Hp) : Prop := h.calls.length ≤ 1000 ∧ ∀ i, (hi : i < h.calls.length) → h.calls[i].temps.length ≤ 1000 ∧ h.calls[i].stack.length ≤ 1000
theorem PsOk.nil (n : Nat) : PsOk n [] := ⟨by simp, fun p hp => by cases hp⟩
end Go.Proofs.Ytldiccheboipeaa

/-
  What is seen of a heap, by the model: HeapView.
-/
namespace Go.Proofs.Ytldiccheboipeaa
open Go.RowKit
theorem CallsAt.cl {w : World} {a : Option Addr} {n c : Nat} {cs : List Cl} (h : CallsAt w (.slice a n c) cs) {p : Nat} (hp : p < cs.length) : ∃ b o vt vs, a = some ⟨b, o, none⟩ ∧ ClAt w b (o + p * 6) vt vs cs[p] := by
  obtain ⟨a', c', e, _, hc⟩ := h
  obtain ⟨b, o, vt, vs, rfl, hx⟩ := hc p hp
  injection e with e1 e2 e3
  exact ⟨b, o, vt, vs, e1, hx⟩
end Go.Proofs.Ytldiccheboipeaa

/-
  Plain facts of the heap that a program begins with: it is ok, one deep, and seen as it is.
-/
namespace Go.Proofs.Ytldiccheboipeaa
open Go.RowKit
theorem newHp_yes {ms : List (Int × Int × List (Int × Int))} (h : progOk ms = true) : newHp ms = ⟨[⟨0, 0, List.replicate (temps0 ms) (0, 0), [], -1, false⟩], 0, 1, [], 0⟩ := if_pos h
theorem newHp_no {ms : List (Int × Int × List (Int × Int))} (h : progOk ms = false) : newHp ms = ⟨[], 0, 0, [], 0⟩ := if_neg (by simp [h])
theorem vals_zero (n : Int) (k : Nat) : valsOk n (List.replicate k (0, 0)) = true := by
  refine valsOk_yes fun i hi => ?_
  simp [valOk]
theorem newHp_short (ms : List (Int × Int × List (Int × Int))) : (newHp ms).short ∧ (newHp ms).calls.length ≤ 1 := by
  by_cases h : progOk ms = true
  · obtain ⟨hl, h0, h4, ht, h5⟩ := first_ok h
    rw [newHp_yes h]
    refine ⟨⟨by simp, fun i hi => ?_⟩, by simp⟩
    have : i = 0 := by simp at hi; omega
    subst this
    simp
    omega
  · rw [newHp_no (by simpa using h)]
    exact ⟨⟨by decide, fun i hi => absurd hi (by simp)⟩, by decide⟩
end Go.Proofs.Ytldiccheboipeaa
