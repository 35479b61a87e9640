/-
  Pieces of the program's MachOk: what runs, frames, pages and twins. (Written by mkmo2.py.)
-/
import Derived.Test.YtldiccheboipeaaMOk1
import Derived.Test.YtldiccheboipeaaQB
import Derived.Deep.QuietTactic
import Derived.BigQuiet
import Derived.Deep.RegionWith
namespace Go.Proofs.Ytldiccheboipeaa
open Go.RowKit

theorem few_ints : ∀ (l A : List Int), l.Nodup → (∀ k ∈ l, k ∈ A) → l.length ≤ A.length
  | [], _, _, _ => Nat.zero_le _
  | x :: l, A, hn, hA => by
    have hx : x ∈ A := hA x (List.mem_cons_self ..)
    obtain ⟨hx1, hn1⟩ := List.nodup_cons.1 hn
    have := few_ints l (A.erase x) hn1 fun k hk => (List.mem_erase_of_ne (show k ≠ x from fun e => hx1 (by rw [← e]; exact hk))).2 (hA k (List.mem_cons_of_mem _ hk))
    rw [List.length_erase_of_mem hx] at this
    have h0 : 0 < A.length := List.length_pos_of_mem hx
    simp only [List.length_cons]
    omega

/-- an order that is all pages has nothing else -/
theorem order_in {m : Mc} (h : orderB m = true) {x : Int} (hx : x ∈ m.order) : 0 ≤ x ∧ x < (m.pages.length : Int) := by
  unfold orderB at h
  rw [Bool.and_eq_true_iff] at h
  have hl : m.order.length = m.pages.length := by simpa using h.1
  have ha := List.all_eq_true.1 h.2
  by_cases hr : 0 ≤ x ∧ x < (m.pages.length : Int)
  · exact hr
  · exfalso
    have hnd : ((List.range m.pages.length).map fun i : Nat => (i : Int)).Nodup := by
      refine List.Pairwise.map _ (fun a b hab e => hab (by omega)) List.nodup_range
    have hmem : ∀ k ∈ (List.range m.pages.length).map fun i : Nat => (i : Int), k ∈ m.order := fun k hk => by
      obtain ⟨i, hi, rfl⟩ := List.mem_map.1 hk
      simpa using ha i hi
    have hnx : x ∉ (List.range m.pages.length).map fun i : Nat => (i : Int) := fun hk => by
      obtain ⟨i, hi, rfl⟩ := List.mem_map.1 hk
      exact hr ⟨by omega, by have := List.mem_range.1 hi; omega⟩
    have := few_ints (x :: (List.range m.pages.length).map fun i : Nat => (i : Int)) m.order (List.nodup_cons.2 ⟨hnx, hnd⟩) (fun k hk => by
      rcases List.mem_cons.1 hk with rfl | hk
      · exact hx
      · exact hmem k hk)
    simp at this
    omega

theorem bel_drewN {B : Nat} {w0 w : World} (h : Below B w0 w) (n : Nat) : Below B w0 (w.drewN n) := ⟨h.os, h.tape, h.output, h.size, h.block⟩

def Pg.none : Pg := ⟨-1, []⟩
/-- the page at a place -/
def pgAt (m : Mc) (i : Int) : Pg := m.pages.getD i.toNat Pg.none
theorem pgAt_at {m : Mc} {k : Nat} (h : k < m.pages.length) : pgAt m (k : Int) = m.pages[k] := by simp [pgAt, h]

/-- whether what runs, if something does, is a page with a frame, and the last one -/
def nowB (m : Mc) : Bool := m.now == -1 || (m.now == m.order.getD (m.order.length - 1) 0 && decide (0 < (pgAt m m.now).frames.length))

set_option maxRecDepth 100000 in
set_option maxHeartbeats 4000000 in
theorem nowOk_any (vp vo vt vs : Value) (m : Mc) (w : World) (h : MachAt w vp vo vt vs m) (ho : orderB m = true) (hp1 : 1 ≤ m.pages.length) :
    Calls Try.prog 43 #[.agg (mcCells vp vo vt vs m).toArray] w fun e w' => e = .returned (.bool (nowB m)) ∧ Below w.heap.size w w' := by
  have HLEQ : Hid (m.order.length = m.pages.length) := by show _ = _; unfold orderB at ho; rw [Bool.and_eq_true_iff] at ho; simpa using ho.1
  have HIN : Hid (∀ x ∈ m.order, 0 ≤ x ∧ x < (m.pages.length : Int)) := fun x hx => order_in ho hx
  clear ho
  obtain ⟨ap, cp, hvp, hlp, hcp⟩ := id h.p
  obtain ⟨ao, co, hvo, hlo, hco⟩ := id h.o
  obtain ⟨at', ct, hvt, hlt', hct⟩ := id h.t
  obtain ⟨as', cs, hvs⟩ := h.s.shape
  subst hvp hvo hvt hvs
  unfold mcCells
  unfold maxLen at hlp hlo
  go_enter Try.func43, Try.ntmps43
  go_upto_region 1 with fail
  refine wp_gen (fun W => Below w.heap.size w W ∧ Bx W w.heap.size 33 [.int .i64 m.cells, .slice ap m.pages.length cp, .slice ao m.order.length co, .int .i64 m.now, .slice at' m.twins.length ct, .int .i64 m.born, .slice as' m.said.length cs, .int .i64 m.code]) ⟨(Below.refl _ _).alloc (Nat.le_refl _) _, Bx.new w _ _⟩ ?_
  rintro W ⟨hb, hm⟩
  obtain ⟨⟨m0, m1, m2, m3, m4, m5, m6, m7⟩, _⟩ := bx8 hm
  by_cases hnow : m.now = -1
  · have HE : Hid (nowB m = true) := by show _ = _; unfold nowB; rw [hnow]; rfl
    rw [hnow] at m3
    go_wp2
    go_ret
    exact ⟨ret_bool HE.out.symm, hb⟩
  have hne : (m.now == -1) = false := by simpa using hnow
  obtain ⟨q, hq⟩ : ∃ q, m.order.length = q + 1 := ⟨m.order.length - 1, by have := HLEQ.out; omega⟩
  have hql : q < m.order.length := by omega
  obtain ⟨b, o, hao, c0⟩ := hco q hql
  subst hao
  have d0 := cell_below hb c0
  have HL : Hid (m.order.getD (m.order.length - 1) 0 = m.order[q]) := by show _ = _; rw [hq]; simp [hql]
  have hrng := HIN.out _ (List.getElem_mem hql)
  obtain ⟨last, hla⟩ : ∃ l, m.order[q] = l := ⟨_, rfl⟩
  rw [hla] at HL d0 hrng
  have hq1 : ((m.order.length : Int)) - 1 = (q : Int) := by omega
  have hqz : (q : Int) < (m.order.length : Int) := by omega
  have hwq : IntKind.i64.wrap ((m.order.length : Int) - 1) = (q : Int) := by rw [IntKind.wrap_i64]; omega
  have hbl : b < w.heap.size := World.block_lt_of_cell? _ _ c0
  clear hla c0 hco hq hq1
  obtain ⟨k, hk⟩ := Int.eq_ofNat_of_zero_le hrng.1
  subst hk
  have hkl : k < m.pages.length := by omega
  obtain ⟨b2, o2, vf, hap, hpg⟩ := hcp k hkl
  subst hap
  obtain ⟨af, cf, hvf⟩ := hpg.f.shape
  have e1 := cell_below hb hpg.c1
  rw [hvf] at e1
  obtain ⟨nf, hnf⟩ : ∃ nf, m.pages[k].frames.length = nf := ⟨_, rfl⟩
  have HPG : Hid ((pgAt m (k : Int)).frames.length = nf) := by show _ = _; rw [pgAt_at hkl, hnf]
  rw [hnf] at e1
  clear hnf hpg hcp hvf
  have hkz : (k : Int) < (m.pages.length : Int) := by omega
  by_cases hnl : m.now = (k : Int)
  · have HE : Hid (nowB m = decide (0 < nf)) := by show _ = _; unfold nowB; rw [hne, HL.out, hnl, HPG.out]; simp
    rw [hnl] at m3 hne
    go_wp2_with fail
    go_quiet (fail)
    go_wp2
    go_ret
    exact ⟨ret_bool HE.out.symm, bel_drewN hb _⟩
  · have HE : Hid (nowB m = false) := by show _ = _; unfold nowB; rw [hne, HL.out]; simp [hnl]
    have hnl2 : (m.now == (k : Int)) = false := by simpa using hnl
    go_wp2_with fail
    go_quiet (fail)
    go_wp2
    go_ret
    exact ⟨ret_bool HE.out.symm, bel_drewN hb _⟩


end Go.Proofs.Ytldiccheboipeaa
