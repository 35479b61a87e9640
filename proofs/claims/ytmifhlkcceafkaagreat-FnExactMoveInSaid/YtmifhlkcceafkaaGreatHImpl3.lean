/-
  The calls that wait for one another: the chain, in plain words, and the document's model of it (l11Chain).
-/
import Derived.Test.YtmifhlkcceafkaaGreatHSpecOk
import Derived.Test.YtmifhlkcceafkaaGreatInts
import Derived.Test.YtmifhlkcceafkaaGreatHImpl2

namespace Go.Proofs.YtmifhlkcceafkaaGreat
open Go.RowKit
def walkC (cs : List Cl) : Nat → Int → Option (List Nat)
  | 0, a => if a < 0 then some [] else none
  | f + 1, a => if a < 0 then some [] else if h : a.toNat < cs.length then (if cs[a.toNat].dead then none else (walkC cs f cs[a.toNat].sender).map (a.toNat :: ·)) else none
def chainOf (cs : List Cl) (now : Int) : List Nat := (walkC cs cs.length now).getD []
theorem walkC_neg {cs : List Cl} {f : Nat} {a : Int} (h : a < 0) : walkC cs f a = some [] := by
  cases f <;> simp [walkC, h]
theorem walkC_zero {cs : List Cl} {a : Int} (h : 0 ≤ a) : walkC cs 0 a = none := by
  simp [walkC]; omega
theorem walkC_past {cs : List Cl} {f : Nat} {a : Nat} (h : ¬ a < cs.length) : walkC cs f (a : Int) = none := by
  cases f with
  | zero => exact walkC_zero (by omega)
  | succ f =>
    simp only [walkC]
    rw [if_neg (by omega), dif_neg (by simpa using h)]
theorem walkC_dead {cs : List Cl} {f : Nat} {a : Nat} (h : a < cs.length) (hd : cs[a].dead = true) : walkC cs f (a : Int) = none := by
  cases f with
  | zero => exact walkC_zero (by omega)
  | succ f =>
    simp only [walkC, Int.toNat_natCast]
    rw [if_neg (by omega), dif_pos h, if_pos hd]
theorem walkC_step {cs : List Cl} {f : Nat} {a : Nat} (h : a < cs.length) (hd : cs[a].dead = false) : walkC cs (f + 1) (a : Int) = (walkC cs f cs[a].sender).map (a :: ·) := by
  simp only [walkC, Int.toNat_natCast]
  rw [if_neg (by omega), dif_pos h, hd]
  rfl
def nums (l : List Nat) : List Int := l.map fun (k : Nat) => (k : Int)
theorem nums_len (l : List Nat) : (nums l).length = l.length := by simp [nums]
theorem nums_snoc (l : List Nat) (k : Nat) : nums l ++ [(k : Int)] = nums (l ++ [k]) := by simp [nums]
theorem Tryz.infoInt2 : (Tryz.prog.info? 3).map (fun i => (i.zero, i.size, i.bytes)) = some (some (.int .i64 0), 1, 8) := by kernel_rfl
theorem int_made (w : World) : IntRow w.heap.size (w.alloc (.cells #[] 3)) (.slice (some ⟨w.heap.size, 0, none⟩) 0 0) [] :=
  .inr ⟨w.heap.size, 0, 0, rfl, Nat.le_refl _, by simp, Nat.le_refl _, Nat.zero_le _, fun i hi => absurd hi (Nat.not_lt_zero _), fun i hi => absurd hi (Nat.not_lt_zero _)⟩
set_option maxRecDepth 100000 in
set_option maxHeartbeats 4000000 in
theorem l11Chain_any (vc vs : Value) (h : Hp) (w : World) (hh : HeapAt w vc vs h) (hn : h.calls.length ≤ 900000) :
    Calls Tryz.prog 58 #[.agg (hpCells vc vs h)] w fun e w' => ∃ v, e = .returned v ∧ IntRow w.heap.size w' v (nums (chainOf h.calls h.now)) ∧ Below w.heap.size w w' := by
  unfold hpCells
  obtain ⟨cs, now, born, said, code⟩ := h
  obtain ⟨hhc, hhs⟩ := hh
  simp only [] at hhc hhs hn ⊢
  obtain ⟨aD, kD, hvs⟩ := hhs.shape
  subst hvs
  obtain ⟨ac, kc, rfl, _, hcl⟩ := hhc
  have hA := (Below.refl w.heap.size w).alloc (Nat.le_refl _) (.cells #[.slice ac cs.length kc, .int .i64 now, .int .i64 born, .slice aD said.length kD, .int .i64 code] 45)
  have b0 : (w.alloc (.cells #[.slice ac cs.length kc, .int .i64 now, .int .i64 born, .slice aD said.length kD, .int .i64 code] 45)).cell? ⟨w.heap.size, 0, none⟩ = some (.slice ac cs.length kc) := by simp [go_sem]
  have b1 : (w.alloc (.cells #[.slice ac cs.length kc, .int .i64 now, .int .i64 born, .slice aD said.length kD, .int .i64 code] 45)).cell? ⟨w.heap.size, 1, none⟩ = some (.int .i64 now) := by simp [go_sem]
  go_enter Tryz.func58, Tryz.ntmps58
  go_upto_region 1 with fail
  generalize w.alloc (.cells #[.slice ac cs.length kc, .int .i64 now, .int .i64 born, .slice aD said.length kD, .int .i64 code] 45) = W0 at *
  have zA := hA.size
  have hw0 : w.heap.size < W0.heap.size := World.block_lt_of_cell? _ _ b0
  have bN := fun o => cell_below ((Below.refl _ _).alloc (Nat.le_refl _) o) b0
  have b1N := fun o => cell_below ((Below.refl _ _).alloc (Nat.le_refl _) o) b1
  have r0 := int_made W0
  have hB0 := hA.alloc zA (.cells #[] 3)
  go_upto_region 3 with fail
  go_wp2_with fail
  have HW : Hid (walkC cs cs.length now = (walkC cs (cs.length - ([] : List Nat).length) now).map (([] : List Nat) ++ ·)) := by
    show _ = _
    simp
  obtain ⟨i0, hi, hz0, hz1, hz2⟩ := info_parts Tryz.infoInt2
  clear hA b0 b1 b1N hhs
  go_loopg [3, 4] cs.length (fun d v at_ wr => ∃ (pre : List Nat) (a : Int), pre.length ≤ cs.length ∧ d = cs.length - pre.length ∧ at_ = .int .i64 a ∧ IntRow W0.heap.size wr v (nums pre) ∧ wr.cell? ⟨w.heap.size, 0, none⟩ = some (.slice ac cs.length kc) ∧ Below w.heap.size w wr ∧ W0.heap.size ≤ wr.heap.size ∧ walkC cs cs.length now = (walkC cs (cs.length - pre.length) a).map (pre ++ ·))
  case atStart => exact ⟨[], now, Nat.zero_le _, rfl, rfl, r0, bN _, hB0, by simp, HW.out⟩
  case round =>
    obtain ⟨pre, a, hpl, rfl, rfl, hrow, br, hb, hzr, hwalk⟩ := hrel
    have HK : Hid (walkC cs cs.length now = (walkC cs (cs.length - pre.length) a).map (pre ++ ·)) := hwalk
    clear hwalk bN r0 hB0 HW
    have hsz := hb.size
    have hbw : w.heap.size < wr.heap.size := World.block_lt_of_cell? _ _ br
    obtain ⟨av, kv, hv, _⟩ := hrow.slice
    rw [nums_len] at hv
    subst hv
    by_cases ha : a < 0
    · have HE : Hid (nums (chainOf cs now) = nums pre) := by
        show _ = _
        unfold chainOf
        rw [HK.out, walkC_neg ha]
        simp
      go_wp2
      go_ret
      exact ⟨_, rfl, by rw [HE.out]; exact hrow.mono (by omega), hb⟩
    obtain ⟨an, han⟩ := Int.eq_ofNat_of_zero_le (show 0 ≤ a by omega)
    subst han
    clear ha
    have hnone : walkC cs (cs.length - pre.length) (an : Int) = none → nums (chainOf cs now) = [] := fun e => by
      unfold chainOf
      rw [HK.out, e]
      rfl
    have HN : Hid (walkC cs (cs.length - pre.length) (an : Int) = none → nums (chainOf cs now) = []) := hnone
    clear hnone
    have hE : ∀ W : World, w.heap.size ≤ W.heap.size → IntRow w.heap.size (W.alloc (.cells #[] 3)) (.slice (some ⟨W.heap.size, 0, none⟩) 0 0) [] := fun W hz => (int_made W).mono hz
    by_cases hfull : cs.length ≤ pre.length
    · have hfz : (cs.length : Int) ≤ (pre.length : Int) := by omega
      have HE : Hid (nums (chainOf cs now) = []) := HN.out (by rw [show cs.length - pre.length = 0 by omega]; exact walkC_zero (by omega))
      go_wp2
      go_ret
      exact ⟨_, rfl, by rw [HE.out]; exact hE _ hsz, hb.alloc hsz _⟩
    have hfz : (pre.length : Int) < (cs.length : Int) := by omega
    by_cases hin : cs.length ≤ an
    · have hinz : (cs.length : Int) ≤ (an : Int) := by omega
      have HE : Hid (nums (chainOf cs now) = []) := HN.out (walkC_past (by omega))
      go_wp2
      go_ret
      exact ⟨_, rfl, by rw [HE.out]; exact hE _ hsz, hb.alloc hsz _⟩
    have han : an < cs.length := by omega
    have hanz : (an : Int) < (cs.length : Int) := by omega
    obtain ⟨b, o, vt, vs, rfl, hc⟩ := hcl an han
    have d4 := cell_below hb hc.c4
    have d5 := cell_below hb hc.c5
    have hbl : b < w.heap.size := World.block_lt_of_cell? _ _ hc.c4
    rcases hdd : cs[an].dead with _ | _
    · rw [hdd] at d5
      have HS : Hid (walkC cs cs.length now = (walkC cs (cs.length - (pre ++ [an]).length) cs[an].sender).map ((pre ++ [an]) ++ ·)) := by
        show _ = _
        rw [HK.out, show cs.length - pre.length = (cs.length - (pre ++ [an]).length) + 1 by simp; omega, walkC_step han hdd]
        rw [Option.map_map]
        congr 1
        funext x
        simp
      generalize cs[an].sender = sd at *
      clear HN hE hc
      go_wp2_with (at_builtin; refine append_int Tryz.underlying32 hi hz0 hz1 hz2 _ (by rfl) _ _ (by rfl) _ (nums pre) (by rfl) hrow _ _ _ rfl (by rfl) (by rw [nums_len]; omega) hzr ?_; intro g2 off2 cp2 w2 hrow2 hg2 hor2 hlt2; have br2 := hg2.cell br (fun e => by have h9 : W0.heap.size ≤ w.heap.size := (hrow.lt _ e.symm).1; omega); have e4 := hg2.cell d4 (fun e => by have h9 : W0.heap.size ≤ b := (hrow.lt _ e.symm).1; omega))
      have hb2 : Below w.heap.size w w2 := hb.grown hg2 hsz (fun k e => by have := (hrow.lt k e).1; omega)
      have hz2' := hg2.size
      rw [nums_snoc] at hrow2
      have HL : Hid ((pre ++ [an]).length = pre.length + 1) := by show _ = _; simp
      clear hg2 hor2 hlt2 hrow d4 d5 br
      go_wp2
      go_roundg (cs.length - (pre ++ [an]).length)
      case measure => have := HL.out; omega
      case rel => exact ⟨pre ++ [an], _, by have := HL.out; omega, rfl, rfl, by simpa [nums_len] using hrow2, br2, hb2, by omega, HS.out⟩
    · rw [hdd] at d5
      have HE : Hid (nums (chainOf cs now) = []) := HN.out (walkC_dead han hdd)
      go_wp2
      go_ret
      exact ⟨_, rfl, by rw [HE.out]; exact hE _ hsz, hb.alloc hsz _⟩
end Go.Proofs.YtmifhlkcceafkaaGreat

/-
  The document's model of HeapOk, the end of it: l11Wait.
-/
namespace Go.Proofs.YtmifhlkcceafkaaGreat
open Go.RowKit
theorem walkC_in {cs : List Cl} : ∀ (f : Nat) (a : Int) (l : List Nat), walkC cs f a = some l → ∀ k ∈ l, ∃ h : k < cs.length, cs[k].dead = false
  | 0, a, l, h, k, hk => by
    simp only [walkC] at h
    split at h
    · cases h; cases hk
    · cases h
  | f + 1, a, l, h, k, hk => by
    simp only [walkC] at h
    split at h
    · cases h; cases hk
    · split at h
      · rename_i hn ha
        split at h
        · cases h
        · rename_i hd
          obtain ⟨l', hl', rfl⟩ := Option.map_eq_some_iff.1 h
          rcases List.mem_cons.1 hk with rfl | hk
          · exact ⟨ha, by simpa using hd⟩
          · exact walkC_in f _ l' hl' k hk
      · cases h
theorem chain_in {cs : List Cl} {now : Int} {k : Nat} (h : k ∈ chainOf cs now) : ∃ h : k < cs.length, cs[k].dead = false := by
  unfold chainOf at h
  cases hw : walkC cs cs.length now with
  | none => rw [hw] at h; cases h
  | some l => rw [hw] at h; exact walkC_in _ _ _ hw k h
def roomP (cs : List Cl) (ch : List Nat) : Bool := (ch.drop 1).all fun k => decide ((cs.getD k Cl.none).stack.length < 6)
theorem roomP_no {cs : List Cl} {ch : List Nat} {i : Nat} (h1 : 1 ≤ i) (hi : i < ch.length) (hk : ch[i] < cs.length) (h : ¬ cs[ch[i]].stack.length < 6) : roomP cs ch = false := by
  unfold roomP
  rw [List.all_eq_false]
  refine ⟨ch[i], ?_, by simp [hk, h]⟩
  have : ch[i] = (ch.drop 1)[i - 1]'(by simp; omega) := by
    rw [List.getElem_drop]
    congr 1
    omega
  rw [this]
  exact List.getElem_mem _
theorem roomP_yes {cs : List Cl} {ch : List Nat} (hin : ∀ k ∈ ch, k < cs.length) (h : ∀ i, (hi : i < ch.length) → 1 ≤ i → ∀ hk : ch[i] < cs.length, cs[ch[i]].stack.length < 6) : roomP cs ch = true := by
  unfold roomP
  rw [List.all_eq_true]
  intro k hk
  obtain ⟨j, hj, rfl⟩ := List.getElem_of_mem hk
  have hj' : j + 1 < ch.length := by simp at hj; omega
  have e : (ch.drop 1)[j] = ch[j + 1] := by simp
  rw [e]
  have hk' := hin _ (List.getElem_mem hj')
  have := h (j + 1) hj' (by omega) hk'
  simp [hk', this]
set_option maxRecDepth 100000 in
set_option maxHeartbeats 4000000 in
theorem l11Wait_any (vc vs : Value) (h : Hp) (w : World) (hh : HeapAt w vc vs h) (hn : h.calls.length ≤ 900000) :
    Calls Tryz.prog 59 #[.agg (hpCells vc vs h)] w fun e w' => e = .returned (.bool (roomP h.calls (chainOf h.calls h.now))) ∧ Below w.heap.size w w' := by
  obtain ⟨ac, kc, hvc⟩ := hh.c.shape
  obtain ⟨aD, kD, hvs⟩ := hh.s.shape
  subst hvc hvs
  have hA := (Below.refl w.heap.size w).alloc (Nat.le_refl _) (.cells (hpCells (.slice ac h.calls.length kc) (.slice aD h.said.length kD) h) 45)
  have b0 : (w.alloc (.cells (hpCells (.slice ac h.calls.length kc) (.slice aD h.said.length kD) h) 45)).cell? ⟨w.heap.size, 0, none⟩ = some (.slice ac h.calls.length kc) := by simp [go_sem, hpCells]
  unfold hpCells at hA b0 ⊢
  go_enter Tryz.func59, Tryz.ntmps59
  go_wp2_with fail
  generalize w.alloc (.cells #[.slice ac h.calls.length kc, .int .i64 h.now, .int .i64 h.born, .slice aD h.said.length kD, .int .i64 h.code] 45) = W0 at *
  have zA := hA.size
  refine (l11Chain_any _ _ h _ (hh.below hA) hn).mono ?_
  rintro e w1 ⟨v, rfl, hrow, hb1⟩
  have hB1 : Below w.heap.size w w1 := hA.trans (hb1.mono zA)
  have c0 := cell_below hb1 b0
  have hin : Hid (∀ k ∈ chainOf h.calls h.now, k < h.calls.length) := fun k hk => (chain_in hk).1
  clear hA b0 hb1
  obtain ⟨ch, hch⟩ : ∃ ch, chainOf h.calls h.now = ch := ⟨_, rfl⟩
  rw [hch] at hrow hin
  have HCH : Hid (chainOf h.calls h.now = ch) := hch
  clear hch
  obtain ⟨av, kv, hv, hlv⟩ := hrow.slice
  rw [nums_len] at hv hlv
  subst hv
  unfold maxLen at hlv
  have z1 := hB1.size
  go_wp2_with fail
  go_loopg [4] ch.length (fun d i wr => ∃ k : Nat, 1 ≤ k ∧ k ≤ ch.length + 1 ∧ d = ch.length + 1 - k ∧ i = .int .i64 k ∧ Below w1.heap.size w1 wr ∧ ∀ j, (hj : j < ch.length) → 1 ≤ j → j < k → ∀ hk : ch[j] < h.calls.length, h.calls[ch[j]].stack.length < 6)
  case atStart => exact ⟨1, Nat.le_refl _, by omega, by omega, rfl, Below.refl _ _, fun j _ h1 h2 => absurd h2 (by omega)⟩
  case round =>
    obtain ⟨k, hk1, hk, rfl, rfl, hb, hall⟩ := hrel
    have H : Hid (∀ j, (hj : j < ch.length) → 1 ≤ j → j < k → ∀ hk : ch[j] < h.calls.length, h.calls[ch[j]].stack.length < 6) := hall
    clear hall
    by_cases hlt : k < ch.length
    · have hkz : (k : Int) < (ch.length : Int) := by omega
      have hik := hin.out _ (List.getElem_mem hlt)
      have hkn : k < (nums ch).length := by rw [nums_len]; exact hlt
      obtain ⟨g1, o1, q1, e1, _⟩ := hrow.form (by omega)
      rw [nums_len] at e1
      cases e1
      have rc := ((hrow.below hb).cell hkn).1
      have en : (nums ch)[k] = ((ch[k] : Nat) : Int) := by simp [nums]
      rw [en] at rc
      have cr := cell_below hb c0
      obtain ⟨acx, kcx, hx, _, hcl⟩ := hh.c
      cases hx
      obtain ⟨b, o, vt, vs, rfl, hc⟩ := hcl _ hik
      have hcr := (hc.below hB1).below hb
      have d3 := hcr.c3
      obtain ⟨a3, k3, h3⟩ := hcr.s.shape
      rw [h3] at d3
      have hikz : ((ch[k] : Nat) : Int) < (h.calls.length : Int) := by omega
      have HNO : Hid (¬ h.calls[ch[k]].stack.length < 6 → roomP h.calls ch = false) := fun hno => roomP_no hk1 hlt hik hno
      have HYES : Hid (h.calls[ch[k]].stack.length < 6 → ∀ j, (hj : j < ch.length) → 1 ≤ j → j < k + 1 → ∀ hk : ch[j] < h.calls.length, h.calls[ch[j]].stack.length < 6) := fun hy j hj hj1 hjk hk' => by
        by_cases e : j = k
        · subst e; exact hy
        · exact H.out j hj hj1 (by omega) hk'
      clear hcl hc hcr en h3
      generalize h.calls[ch[k]].stack.length = sl at *
      generalize ch[k] = ck at *
      by_cases h6 : sl < 6
      · have h6z : (sl : Int) < 6 := by omega
        go_wp2_with fail
        go_region
        all_goals
          go_wp2
          go_roundg (ch.length + 1 - (k + 1))
          case measure => omega
          case rel => exact ⟨k + 1, by omega, by omega, rfl, by go_num, hb.drew, HYES.out h6⟩
      · have h6z : (6 : Int) ≤ (sl : Int) := by omega
        go_wp2_with fail
        go_region
        all_goals
          go_wp2
          go_ret
          exact ⟨ret_bool (by rw [HCH.out]; exact (HNO.out h6).symm), hB1.trans (hb.drew.mono z1)⟩
    · have hkz : (ch.length : Int) ≤ (k : Int) := by omega
      go_wp2
      go_ret
      exact ⟨ret_bool (by rw [HCH.out]; exact (roomP_yes hin.out (fun i hi h1 hk' => H.out i hi h1 (by omega) hk')).symm), hB1.trans (hb.mono z1)⟩
end Go.Proofs.YtmifhlkcceafkaaGreat

/-
  The program's HeapDeep: how many calls there are from Now on by Sender.
-/
namespace Go.Proofs.YtmifhlkcceafkaaGreat
open Go.RowKit
def deepC (cs : List Cl) : Nat → Int → Option Nat
  | 0, a => if 0 ≤ a ∧ a.toNat < cs.length then none else some 0
  | f + 1, a => if h : 0 ≤ a ∧ a.toNat < cs.length then (if (cs[a.toNat]'h.2).dead then none else (deepC cs f (cs[a.toNat]'h.2).sender).map (· + 1)) else some 0
theorem deepC_out {cs : List Cl} {f : Nat} {a : Int} (h : ¬ (0 ≤ a ∧ a < (cs.length : Int))) : deepC cs f a = some 0 := by
  have h' : ¬ (0 ≤ a ∧ a.toNat < cs.length) := by omega
  cases f
  · simp only [deepC, if_neg h']
  · simp only [deepC, dif_neg h']
theorem deepC_zero {cs : List Cl} {a : Nat} (h : a < cs.length) : deepC cs 0 (a : Int) = none := by
  simp only [deepC]
  rw [if_pos (by simp; exact h)]
theorem deepC_dead {cs : List Cl} {f : Nat} {a : Nat} (h : a < cs.length) (hd : cs[a].dead = true) : deepC cs f (a : Int) = none := by
  cases f with
  | zero => exact deepC_zero h
  | succ f =>
    simp only [deepC, Int.toNat_natCast]
    rw [dif_pos ⟨by omega, h⟩, if_pos hd]
theorem deepC_step {cs : List Cl} {f : Nat} {a : Nat} (h : a < cs.length) (hd : cs[a].dead = false) : deepC cs (f + 1) (a : Int) = (deepC cs f cs[a].sender).map (· + 1) := by
  simp only [deepC, Int.toNat_natCast]
  rw [dif_pos ⟨by omega, h⟩, hd]
  rfl
def deepOf (cs : List Cl) (now : Int) : Nat := (deepC cs cs.length now).getD 0
theorem deepC_walk {cs : List Cl} (hs : ∀ i, (h : i < cs.length) → -1 ≤ cs[i].sender ∧ cs[i].sender < (cs.length : Int)) : ∀ (f : Nat) (a : Int), -1 ≤ a → a < (cs.length : Int) → deepC cs f a = (walkC cs f a).map List.length
  | f, a, h0, h1 => by
    by_cases hn : a < 0
    · rw [walkC_neg hn, deepC_out (by omega)]; rfl
    obtain ⟨n, rfl⟩ := Int.eq_ofNat_of_zero_le (show 0 ≤ a by omega)
    have hl : n < cs.length := by omega
    cases f with
    | zero => rw [deepC_zero hl, walkC_zero (by omega)]; rfl
    | succ f =>
      cases hd : cs[n].dead
      · rw [deepC_step hl hd, walkC_step hl hd, deepC_walk hs f _ (hs n hl).1 (hs n hl).2]
        cases walkC cs f cs[n].sender <;> rfl
      · rw [deepC_dead hl hd, walkC_dead hl hd]; rfl
theorem deepOf_chain {cs : List Cl} {now : Int} (hs : ∀ i, (h : i < cs.length) → -1 ≤ cs[i].sender ∧ cs[i].sender < (cs.length : Int)) (h0 : -1 ≤ now) (h1 : now < (cs.length : Int)) : deepOf cs now = (chainOf cs now).length := by
  unfold deepOf chainOf
  rw [deepC_walk hs _ _ h0 h1]
  cases walkC cs cs.length now <;> rfl
set_option maxRecDepth 100000 in
set_option maxHeartbeats 4000000 in
theorem implHeapDeep_any (vc vs : Value) (h : Hp) (w : World) (hh : HeapAt w vc vs h) (hn : h.calls.length ≤ 900000) :
    Calls Tryz.prog 94 #[.agg (hpCells vc vs h)] w fun e w' => e = .returned (.int .i64 (deepOf h.calls h.now : Nat)) ∧ Below w.heap.size w w' := by
  unfold hpCells
  obtain ⟨cs, now, born, said, code⟩ := h
  obtain ⟨hhc, hhs⟩ := hh
  simp only [] at hhc hhs hn ⊢
  obtain ⟨aD, kD, hvs⟩ := hhs.shape
  subst hvs
  obtain ⟨ac, kc, rfl, _, hcl⟩ := hhc
  have hA := (Below.refl w.heap.size w).alloc (Nat.le_refl _) (.cells #[.slice ac cs.length kc, .int .i64 now, .int .i64 born, .slice aD said.length kD, .int .i64 code] 45)
  have b0 : (w.alloc (.cells #[.slice ac cs.length kc, .int .i64 now, .int .i64 born, .slice aD said.length kD, .int .i64 code] 45)).cell? ⟨w.heap.size, 0, none⟩ = some (.slice ac cs.length kc) := by simp [go_sem]
  have b1 : (w.alloc (.cells #[.slice ac cs.length kc, .int .i64 now, .int .i64 born, .slice aD said.length kD, .int .i64 code] 45)).cell? ⟨w.heap.size, 1, none⟩ = some (.int .i64 now) := by simp [go_sem]
  go_enter Tryz.func94, Tryz.ntmps94
  go_upto_region 1 with fail
  generalize w.alloc (.cells #[.slice ac cs.length kc, .int .i64 now, .int .i64 born, .slice aD said.length kD, .int .i64 code] 45) = W0 at *
  have HW : Hid (deepC cs cs.length now = (deepC cs (cs.length - 0) now).map (· + 0)) := by
    show _ = _
    simp
  clear hhs
  go_wp2_with fail
  go_loopg [3, 4] cs.length (fun d v at_ wr => ∃ (k : Nat) (a : Int), k ≤ cs.length ∧ d = cs.length - k ∧ v = .int .i64 (k : Nat) ∧ at_ = .int .i64 a ∧ wr.cell? ⟨w.heap.size, 0, none⟩ = some (.slice ac cs.length kc) ∧ Below w.heap.size w wr ∧ deepC cs cs.length now = (deepC cs (cs.length - k) a).map (· + k))
  case atStart => exact ⟨0, now, Nat.zero_le _, rfl, rfl, rfl, b0, hA, HW.out⟩
  case round =>
    obtain ⟨k, a, hk, rfl, rfl, rfl, br, hb, hwalk⟩ := hrel
    have HK : Hid (deepC cs cs.length now = (deepC cs (cs.length - k) a).map (· + k)) := hwalk
    clear hwalk HW b0 b1 hA
    have hsz := hb.size
    by_cases ha : ¬ (0 ≤ a ∧ a < (cs.length : Int))
    · have HI : Hid (inR a 0 ((cs.length : Int) - 1) = false) := inR_false.2 (by omega)
      have HE : Hid (deepOf cs now = k) := by
        show _ = _
        unfold deepOf
        rw [HK.out, deepC_out ha]
        simp
      go_wp2_with (go_at_call 92; refine (isPlace_any _ _ _).mono ?_; rintro e w' ⟨rfl, hw⟩; obtain rfl := hw.symm; rw [HI.out])
      go_ret
      exact ⟨by rw [HE.out]; rfl, hb⟩
    have ha := Decidable.not_not.1 ha
    have HI : Hid (inR a 0 ((cs.length : Int) - 1) = true) := inR_true.2 (by omega)
    obtain ⟨an, rfl⟩ := Int.eq_ofNat_of_zero_le ha.1
    have han : an < cs.length := by omega
    have hanz : (an : Int) < (cs.length : Int) := by omega
    obtain ⟨b, o, vt, vs, rfl, hc⟩ := hcl an han
    have d4 := cell_below hb hc.c4
    have d5 := cell_below hb hc.c5
    have HN : Hid (deepC cs (cs.length - k) (an : Int) = none → deepOf cs now = 0) := fun e => by
      unfold deepOf
      rw [HK.out, e]
      rfl
    clear hcl hc ha
    rcases hdd : cs[an].dead with _ | _
    · rw [hdd] at d5
      by_cases hf : cs.length ≤ k
      · have HE : Hid (deepOf cs now = 0) := HN.out (by rw [show cs.length - k = 0 by omega]; exact deepC_zero han)
        have hkk : ((k : Int) == (cs.length : Int)) = true := by simp; omega
        obtain rfl : k = cs.length := by omega
        clear HN HK hdd
        go_wp2_with (go_at_call 92; refine (isPlace_any _ _ _).mono ?_; rintro e w' ⟨rfl, hw⟩; obtain rfl := hw.symm; rw [HI.out])
        go_ret
        exact ⟨by rw [HE.out]; rfl, hb⟩
      · have HS : Hid (deepC cs cs.length now = (deepC cs (cs.length - (k + 1)) cs[an].sender).map (· + (k + 1))) := by
          show _ = _
          rw [HK.out, show cs.length - k = (cs.length - (k + 1)) + 1 by omega, deepC_step han hdd]
          cases deepC cs (cs.length - (k + 1)) cs[an].sender with
          | none => rfl
          | some q => simp; omega
        have hkk : ((k : Int) == (cs.length : Int)) = false := by simp; omega
        have hkl : (k : Int) < (cs.length : Int) := by omega
        clear HN HK hdd
        go_wp2_with (go_at_call 92; refine (isPlace_any _ _ _).mono ?_; rintro e w' ⟨rfl, hw⟩; obtain rfl := hw.symm; rw [HI.out])
        go_roundg (cs.length - (k + 1))
        case measure => omega
        case rel => exact ⟨k + 1, cs[an].sender, by omega, rfl, by go_num, rfl, br, hb, HS.out⟩
    · rw [hdd] at d5
      have HE : Hid (deepOf cs now = 0) := HN.out (deepC_dead han hdd)
      clear HN HK hdd
      go_wp2_with (go_at_call 92; refine (isPlace_any _ _ _).mono ?_; rintro e w' ⟨rfl, hw⟩; obtain rfl := hw.symm; rw [HI.out])
      go_ret
      exact ⟨by rw [HE.out]; rfl, hb⟩
end Go.Proofs.YtmifhlkcceafkaaGreat
