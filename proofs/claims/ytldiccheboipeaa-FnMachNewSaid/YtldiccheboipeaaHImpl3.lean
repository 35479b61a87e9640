/-
  The program's HeapDeep: how many calls there are from Now on by Sender.
-/
import Derived.Test.YtldiccheboipeaaHImpl2
import Derived.Test.YtldiccheboipeaaHChain
namespace Go.Proofs.Ytldiccheboipeaa
open Go.RowKit

/-- how many there are from a place on; none, if that has no end within so many, or one has returned -/
def deepC (cs : List Cl) : Nat → Int → Option Nat
  | 0, a => if 0 ≤ a ∧ a.toNat < cs.length then none else some 0
  | f + 1, a => if h : 0 ≤ a ∧ a.toNat < cs.length then (if (cs[a.toNat]'h.2).dead then none else (deepC cs f (cs[a.toNat]'h.2).sender).map (· + 1)) else some 0

theorem deepC_out {cs : List Cl} {f : Nat} {a : Int} (h : ¬ (0 ≤ a ∧ a < (cs.length : Int))) : deepC cs f a = some 0 := by
  have h' : ¬ (0 ≤ a ∧ a.toNat < cs.length) := by omega
  cases f
  · simp only [deepC, if_neg h']
  · simp only [deepC, dif_neg h']
theorem deepC_zero {cs : List Cl} {a : Nat} (h : a < cs.length) : deepC cs 0 (a : Int) = none := by
  simp only [deepC]
  rw [if_pos (by simp; exact h)]
theorem deepC_dead {cs : List Cl} {f : Nat} {a : Nat} (h : a < cs.length) (hd : cs[a].dead = true) : deepC cs f (a : Int) = none := by
  cases f with
  | zero => exact deepC_zero h
  | succ f =>
    simp only [deepC, Int.toNat_natCast]
    rw [dif_pos ⟨by omega, h⟩, if_pos hd]
theorem deepC_step {cs : List Cl} {f : Nat} {a : Nat} (h : a < cs.length) (hd : cs[a].dead = false) : deepC cs (f + 1) (a : Int) = (deepC cs f cs[a].sender).map (· + 1) := by
  simp only [deepC, Int.toNat_natCast]
  rw [dif_pos ⟨by omega, h⟩, hd]
  rfl

def deepOf (cs : List Cl) (now : Int) : Nat := (deepC cs cs.length now).getD 0

/-- where all who called are there, or none, this is the chain's length -/
theorem deepC_walk {cs : List Cl} (hs : ∀ i, (h : i < cs.length) → -1 ≤ cs[i].sender ∧ cs[i].sender < (cs.length : Int)) : ∀ (f : Nat) (a : Int), -1 ≤ a → a < (cs.length : Int) → deepC cs f a = (walkC cs f a).map List.length
  | f, a, h0, h1 => by
    by_cases hn : a < 0
    · rw [walkC_neg hn, deepC_out (by omega)]; rfl
    obtain ⟨n, rfl⟩ := Int.eq_ofNat_of_zero_le (show 0 ≤ a by omega)
    have hl : n < cs.length := by omega
    cases f with
    | zero => rw [deepC_zero hl, walkC_zero (by omega)]; rfl
    | succ f =>
      cases hd : cs[n].dead
      · rw [deepC_step hl hd, walkC_step hl hd, deepC_walk hs f _ (hs n hl).1 (hs n hl).2]
        cases walkC cs f cs[n].sender <;> rfl
      · rw [deepC_dead hl hd, walkC_dead hl hd]; rfl

theorem deepOf_chain {cs : List Cl} {now : Int} (hs : ∀ i, (h : i < cs.length) → -1 ≤ cs[i].sender ∧ cs[i].sender < (cs.length : Int)) (h0 : -1 ≤ now) (h1 : now < (cs.length : Int)) : deepOf cs now = (chainOf cs now).length := by
  unfold deepOf chainOf
  rw [deepC_walk hs _ _ h0 h1]
  cases walkC cs cs.length now <;> rfl

set_option maxRecDepth 100000 in
set_option maxHeartbeats 4000000 in
theorem implHeapDeep_any (vc vs : Value) (h : Hp) (w : World) (hh : HeapAt w vc vs h) (hn : h.calls.length ≤ 900000) :
    Calls Try.prog 96 #[.agg (hpCells vc vs h)] w fun e w' => e = .returned (.int .i64 (deepOf h.calls h.now : Nat)) ∧ Below w.heap.size w w' := by
  unfold hpCells
  obtain ⟨cs, now, born, said, code⟩ := h
  obtain ⟨hhc, hhs⟩ := hh
  simp only [] at hhc hhs hn ⊢
  obtain ⟨aD, kD, hvs⟩ := hhs.shape
  subst hvs
  obtain ⟨ac, kc, rfl, _, hcl⟩ := hhc
  have hA := (Below.refl w.heap.size w).alloc (Nat.le_refl _) (.cells #[.slice ac cs.length kc, .int .i64 now, .int .i64 born, .slice aD said.length kD, .int .i64 code] 39)
  have b0 : (w.alloc (.cells #[.slice ac cs.length kc, .int .i64 now, .int .i64 born, .slice aD said.length kD, .int .i64 code] 39)).cell? ⟨w.heap.size, 0, none⟩ = some (.slice ac cs.length kc) := by simp [go_sem]
  have b1 : (w.alloc (.cells #[.slice ac cs.length kc, .int .i64 now, .int .i64 born, .slice aD said.length kD, .int .i64 code] 39)).cell? ⟨w.heap.size, 1, none⟩ = some (.int .i64 now) := by simp [go_sem]
  go_enter Try.func96, Try.ntmps96
  go_upto_region 1 with fail
  generalize w.alloc (.cells #[.slice ac cs.length kc, .int .i64 now, .int .i64 born, .slice aD said.length kD, .int .i64 code] 39) = W0 at *
  have HW : Hid (deepC cs cs.length now = (deepC cs (cs.length - 0) now).map (· + 0)) := by
    show _ = _
    simp
  clear hhs
  go_wp2_with fail
  go_loopg [3, 4] cs.length (fun d v at_ wr => ∃ (k : Nat) (a : Int), k ≤ cs.length ∧ d = cs.length - k ∧ v = .int .i64 (k : Nat) ∧ at_ = .int .i64 a ∧ wr.cell? ⟨w.heap.size, 0, none⟩ = some (.slice ac cs.length kc) ∧ Below w.heap.size w wr ∧ deepC cs cs.length now = (deepC cs (cs.length - k) a).map (· + k))
  case atStart => exact ⟨0, now, Nat.zero_le _, rfl, rfl, rfl, b0, hA, HW.out⟩
  case round =>
    obtain ⟨k, a, hk, rfl, rfl, rfl, br, hb, hwalk⟩ := hrel
    have HK : Hid (deepC cs cs.length now = (deepC cs (cs.length - k) a).map (· + k)) := hwalk
    clear hwalk HW b0 b1 hA
    have hsz := hb.size
    by_cases ha : ¬ (0 ≤ a ∧ a < (cs.length : Int))
    · have HI : Hid (inR a 0 ((cs.length : Int) - 1) = false) := inR_false.2 (by omega)
      have HE : Hid (deepOf cs now = k) := by
        show _ = _
        unfold deepOf
        rw [HK.out, deepC_out ha]
        simp
      go_wp2_with (go_at_call 56; refine (isPlace_any _ _ _).mono ?_; rintro e w' ⟨rfl, hw⟩; obtain rfl := hw.symm; rw [HI.out])
      go_ret
      exact ⟨by rw [HE.out]; rfl, hb⟩
    have ha := Decidable.not_not.1 ha
    have HI : Hid (inR a 0 ((cs.length : Int) - 1) = true) := inR_true.2 (by omega)
    obtain ⟨an, rfl⟩ := Int.eq_ofNat_of_zero_le ha.1
    have han : an < cs.length := by omega
    have hanz : (an : Int) < (cs.length : Int) := by omega
    obtain ⟨b, o, vt, vs, rfl, hc⟩ := hcl an han
    have d4 := cell_below hb hc.c4
    have d5 := cell_below hb hc.c5
    have HN : Hid (deepC cs (cs.length - k) (an : Int) = none → deepOf cs now = 0) := fun e => by
      unfold deepOf
      rw [HK.out, e]
      rfl
    clear hcl hc ha
    rcases hdd : cs[an].dead with _ | _
    · rw [hdd] at d5
      by_cases hf : cs.length ≤ k
      · have HE : Hid (deepOf cs now = 0) := HN.out (by rw [show cs.length - k = 0 by omega]; exact deepC_zero han)
        have hkk : ((k : Int) == (cs.length : Int)) = true := by simp; omega
        obtain rfl : k = cs.length := by omega
        clear HN HK hdd
        go_wp2_with (go_at_call 56; refine (isPlace_any _ _ _).mono ?_; rintro e w' ⟨rfl, hw⟩; obtain rfl := hw.symm; rw [HI.out])
        go_ret
        exact ⟨by rw [HE.out]; rfl, hb⟩
      · have HS : Hid (deepC cs cs.length now = (deepC cs (cs.length - (k + 1)) cs[an].sender).map (· + (k + 1))) := by
          show _ = _
          rw [HK.out, show cs.length - k = (cs.length - (k + 1)) + 1 by omega, deepC_step han hdd]
          cases deepC cs (cs.length - (k + 1)) cs[an].sender with
          | none => rfl
          | some q => simp; omega
        have hkk : ((k : Int) == (cs.length : Int)) = false := by simp; omega
        have hkl : (k : Int) < (cs.length : Int) := by omega
        clear HN HK hdd
        go_wp2_with (go_at_call 56; refine (isPlace_any _ _ _).mono ?_; rintro e w' ⟨rfl, hw⟩; obtain rfl := hw.symm; rw [HI.out])
        go_roundg (cs.length - (k + 1))
        case measure => omega
        case rel => exact ⟨k + 1, cs[an].sender, by omega, rfl, by go_num, rfl, br, hb, HS.out⟩
    · rw [hdd] at d5
      have HE : Hid (deepOf cs now = 0) := HN.out (deepC_dead han hdd)
      clear HN HK hdd
      go_wp2_with (go_at_call 56; refine (isPlace_any _ _ _).mono ?_; rintro e w' ⟨rfl, hw⟩; obtain rfl := hw.symm; rw [HI.out])
      go_ret
      exact ⟨by rw [HE.out]; rfl, hb⟩

end Go.Proofs.Ytldiccheboipeaa
