/-
  The calls that wait for one another: the chain, in plain words, and the document's model of it (l11Chain).
-/
import Derived.Test.YtldiccheboipeaaHSpecOk
import Derived.Test.YtldiccheboipeaaInts
namespace Go.Proofs.Ytldiccheboipeaa
open Go.RowKit

/-- the places from one on, by who called; none, if that has no end within so many, or one is none, or has returned -/
def walkC (cs : List Cl) : Nat → Int → Option (List Nat)
  | 0, a => if a < 0 then some [] else none
  | f + 1, a => if a < 0 then some [] else if h : a.toNat < cs.length then (if cs[a.toNat].dead then none else (walkC cs f cs[a.toNat].sender).map (a.toNat :: ·)) else none

def chainOf (cs : List Cl) (now : Int) : List Nat := (walkC cs cs.length now).getD []

theorem walkC_neg {cs : List Cl} {f : Nat} {a : Int} (h : a < 0) : walkC cs f a = some [] := by
  cases f <;> simp [walkC, h]
theorem walkC_zero {cs : List Cl} {a : Int} (h : 0 ≤ a) : walkC cs 0 a = none := by
  simp [walkC]; omega
theorem walkC_past {cs : List Cl} {f : Nat} {a : Nat} (h : ¬ a < cs.length) : walkC cs f (a : Int) = none := by
  cases f with
  | zero => exact walkC_zero (by omega)
  | succ f =>
    simp only [walkC]
    rw [if_neg (by omega), dif_neg (by simpa using h)]
theorem walkC_dead {cs : List Cl} {f : Nat} {a : Nat} (h : a < cs.length) (hd : cs[a].dead = true) : walkC cs f (a : Int) = none := by
  cases f with
  | zero => exact walkC_zero (by omega)
  | succ f =>
    simp only [walkC, Int.toNat_natCast]
    rw [if_neg (by omega), dif_pos h, if_pos hd]
theorem walkC_step {cs : List Cl} {f : Nat} {a : Nat} (h : a < cs.length) (hd : cs[a].dead = false) : walkC cs (f + 1) (a : Int) = (walkC cs f cs[a].sender).map (a :: ·) := by
  simp only [walkC, Int.toNat_natCast]
  rw [if_neg (by omega), dif_pos h, hd]
  rfl

/-- places as numbers -/
def nums (l : List Nat) : List Int := l.map fun (k : Nat) => (k : Int)

theorem nums_len (l : List Nat) : (nums l).length = l.length := by simp [nums]
theorem nums_snoc (l : List Nat) (k : Nat) : nums l ++ [(k : Int)] = nums (l ++ [k]) := by simp [nums]

theorem Try.infoInt2 : (Try.prog.info? 3).map (fun i => (i.zero, i.size, i.bytes)) = some (some (.int .i64 0), 1, 8) := by kernel_rfl

theorem int_made (w : World) : IntRow w.heap.size (w.alloc (.cells #[] 3)) (.slice (some ⟨w.heap.size, 0, none⟩) 0 0) [] :=
  .inr ⟨w.heap.size, 0, 0, rfl, Nat.le_refl _, by simp, Nat.le_refl _, Nat.zero_le _, fun i hi => absurd hi (Nat.not_lt_zero _), fun i hi => absurd hi (Nat.not_lt_zero _)⟩

set_option maxRecDepth 100000 in
set_option maxHeartbeats 4000000 in
theorem l11Chain_any (vc vs : Value) (h : Hp) (w : World) (hh : HeapAt w vc vs h) (hn : h.calls.length ≤ 900000) :
    Calls Try.prog 209 #[.agg (hpCells vc vs h)] w fun e w' => ∃ v, e = .returned v ∧ IntRow w.heap.size w' v (nums (chainOf h.calls h.now)) ∧ Below w.heap.size w w' := by
  unfold hpCells
  obtain ⟨cs, now, born, said, code⟩ := h
  obtain ⟨hhc, hhs⟩ := hh
  simp only [] at hhc hhs hn ⊢
  obtain ⟨aD, kD, hvs⟩ := hhs.shape
  subst hvs
  obtain ⟨ac, kc, rfl, _, hcl⟩ := hhc
  have hA := (Below.refl w.heap.size w).alloc (Nat.le_refl _) (.cells #[.slice ac cs.length kc, .int .i64 now, .int .i64 born, .slice aD said.length kD, .int .i64 code] 39)
  have b0 : (w.alloc (.cells #[.slice ac cs.length kc, .int .i64 now, .int .i64 born, .slice aD said.length kD, .int .i64 code] 39)).cell? ⟨w.heap.size, 0, none⟩ = some (.slice ac cs.length kc) := by simp [go_sem]
  have b1 : (w.alloc (.cells #[.slice ac cs.length kc, .int .i64 now, .int .i64 born, .slice aD said.length kD, .int .i64 code] 39)).cell? ⟨w.heap.size, 1, none⟩ = some (.int .i64 now) := by simp [go_sem]
  go_enter Try.func209, Try.ntmps209
  go_upto_region 1 with fail
  generalize w.alloc (.cells #[.slice ac cs.length kc, .int .i64 now, .int .i64 born, .slice aD said.length kD, .int .i64 code] 39) = W0 at *
  have zA := hA.size
  have hw0 : w.heap.size < W0.heap.size := World.block_lt_of_cell? _ _ b0
  have bN := fun o => cell_below ((Below.refl _ _).alloc (Nat.le_refl _) o) b0
  have b1N := fun o => cell_below ((Below.refl _ _).alloc (Nat.le_refl _) o) b1
  have r0 := int_made W0
  have hB0 := hA.alloc zA (.cells #[] 3)
  go_upto_region 3 with fail
  go_wp2_with fail
  have HW : Hid (walkC cs cs.length now = (walkC cs (cs.length - ([] : List Nat).length) now).map (([] : List Nat) ++ ·)) := by
    show _ = _
    simp
  obtain ⟨i0, hi, hz0, hz1, hz2⟩ := info_parts Try.infoInt2
  clear hA b0 b1 b1N hhs
  go_loopg [3, 4] cs.length (fun d v at_ wr => ∃ (pre : List Nat) (a : Int), pre.length ≤ cs.length ∧ d = cs.length - pre.length ∧ at_ = .int .i64 a ∧ IntRow W0.heap.size wr v (nums pre) ∧ wr.cell? ⟨w.heap.size, 0, none⟩ = some (.slice ac cs.length kc) ∧ Below w.heap.size w wr ∧ W0.heap.size ≤ wr.heap.size ∧ walkC cs cs.length now = (walkC cs (cs.length - pre.length) a).map (pre ++ ·))
  case atStart => exact ⟨[], now, Nat.zero_le _, rfl, rfl, r0, bN _, hB0, by simp, HW.out⟩
  case round =>
    obtain ⟨pre, a, hpl, rfl, rfl, hrow, br, hb, hzr, hwalk⟩ := hrel
    have HK : Hid (walkC cs cs.length now = (walkC cs (cs.length - pre.length) a).map (pre ++ ·)) := hwalk
    clear hwalk bN r0 hB0 HW
    have hsz := hb.size
    have hbw : w.heap.size < wr.heap.size := World.block_lt_of_cell? _ _ br
    obtain ⟨av, kv, hv, _⟩ := hrow.slice
    rw [nums_len] at hv
    subst hv
    by_cases ha : a < 0
    · have HE : Hid (nums (chainOf cs now) = nums pre) := by
        show _ = _
        unfold chainOf
        rw [HK.out, walkC_neg ha]
        simp
      go_wp2
      go_ret
      exact ⟨_, rfl, by rw [HE.out]; exact hrow.mono (by omega), hb⟩
    obtain ⟨an, han⟩ := Int.eq_ofNat_of_zero_le (show 0 ≤ a by omega)
    subst han
    clear ha
    have hnone : walkC cs (cs.length - pre.length) (an : Int) = none → nums (chainOf cs now) = [] := fun e => by
      unfold chainOf
      rw [HK.out, e]
      rfl
    have HN : Hid (walkC cs (cs.length - pre.length) (an : Int) = none → nums (chainOf cs now) = []) := hnone
    clear hnone
    have hE : ∀ W : World, w.heap.size ≤ W.heap.size → IntRow w.heap.size (W.alloc (.cells #[] 3)) (.slice (some ⟨W.heap.size, 0, none⟩) 0 0) [] := fun W hz => (int_made W).mono hz
    by_cases hfull : cs.length ≤ pre.length
    · have hfz : (cs.length : Int) ≤ (pre.length : Int) := by omega
      have HE : Hid (nums (chainOf cs now) = []) := HN.out (by rw [show cs.length - pre.length = 0 by omega]; exact walkC_zero (by omega))
      go_wp2
      go_ret
      exact ⟨_, rfl, by rw [HE.out]; exact hE _ hsz, hb.alloc hsz _⟩
    have hfz : (pre.length : Int) < (cs.length : Int) := by omega
    by_cases hin : cs.length ≤ an
    · have hinz : (cs.length : Int) ≤ (an : Int) := by omega
      have HE : Hid (nums (chainOf cs now) = []) := HN.out (walkC_past (by omega))
      go_wp2
      go_ret
      exact ⟨_, rfl, by rw [HE.out]; exact hE _ hsz, hb.alloc hsz _⟩
    have han : an < cs.length := by omega
    have hanz : (an : Int) < (cs.length : Int) := by omega
    obtain ⟨b, o, vt, vs, rfl, hc⟩ := hcl an han
    have d4 := cell_below hb hc.c4
    have d5 := cell_below hb hc.c5
    have hbl : b < w.heap.size := World.block_lt_of_cell? _ _ hc.c4
    rcases hdd : cs[an].dead with _ | _
    · rw [hdd] at d5
      have HS : Hid (walkC cs cs.length now = (walkC cs (cs.length - (pre ++ [an]).length) cs[an].sender).map ((pre ++ [an]) ++ ·)) := by
        show _ = _
        rw [HK.out, show cs.length - pre.length = (cs.length - (pre ++ [an]).length) + 1 by simp; omega, walkC_step han hdd]
        rw [Option.map_map]
        congr 1
        funext x
        simp
      generalize cs[an].sender = sd at *
      clear HN hE hc
      go_wp2_with (at_builtin; refine append_int Try.underlying29 hi hz0 hz1 hz2 _ (by rfl) _ _ (by rfl) _ (nums pre) (by rfl) hrow _ _ _ rfl (by rfl) (by rw [nums_len]; omega) hzr ?_; intro g2 off2 cp2 w2 hrow2 hg2 hor2 hlt2; have br2 := hg2.cell br (fun e => by have h9 : W0.heap.size ≤ w.heap.size := (hrow.lt _ e.symm).1; omega); have e4 := hg2.cell d4 (fun e => by have h9 : W0.heap.size ≤ b := (hrow.lt _ e.symm).1; omega))
      have hb2 : Below w.heap.size w w2 := hb.grown hg2 hsz (fun k e => by have := (hrow.lt k e).1; omega)
      have hz2' := hg2.size
      rw [nums_snoc] at hrow2
      have HL : Hid ((pre ++ [an]).length = pre.length + 1) := by show _ = _; simp
      clear hg2 hor2 hlt2 hrow d4 d5 br
      go_wp2
      go_roundg (cs.length - (pre ++ [an]).length)
      case measure => have := HL.out; omega
      case rel => exact ⟨pre ++ [an], _, by have := HL.out; omega, rfl, rfl, by simpa [nums_len] using hrow2, br2, hb2, by omega, HS.out⟩
    · rw [hdd] at d5
      have HE : Hid (nums (chainOf cs now) = []) := HN.out (walkC_dead han hdd)
      go_wp2
      go_ret
      exact ⟨_, rfl, by rw [HE.out]; exact hE _ hsz, hb.alloc hsz _⟩

end Go.Proofs.Ytldiccheboipeaa
