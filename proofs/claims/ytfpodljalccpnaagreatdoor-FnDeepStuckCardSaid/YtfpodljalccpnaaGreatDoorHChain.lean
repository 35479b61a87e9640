/-
  The calls that wait for one another: the chain, in plain words, and the document's model of it (l11Chain).
-/
import Derived.Test.YtfpodljalccpnaaGreatDoorHImpl1
import Derived.Test.YtfpodljalccpnaaGreatDoorOwn
import Derived.Deep.RegionWith

namespace Go.Proofs.YtfpodljalccpnaaGreatDoor
open Go.RowKit
def walkC (cs : List Cl) : Nat → Int → Option (List Nat)
  | 0, a => if a < 0 then some [] else none
  | f + 1, a => if a < 0 then some [] else if h : a.toNat < cs.length then (if cs[a.toNat].dead then none else (walkC cs f cs[a.toNat].sender).map (a.toNat :: ·)) else none
def chainOf (cs : List Cl) (now : Int) : List Nat := (walkC cs cs.length now).getD []
theorem walkC_neg {cs : List Cl} {f : Nat} {a : Int} (h : a < 0) : walkC cs f a = some [] := by
  cases f <;> simp [walkC, h]
theorem walkC_zero {cs : List Cl} {a : Int} (h : 0 ≤ a) : walkC cs 0 a = none := by
  simp [walkC]; omega
theorem walkC_past {cs : List Cl} {f : Nat} {a : Nat} (h : ¬ a < cs.length) : walkC cs f (a : Int) = none := by
  cases f with
  | zero => exact walkC_zero (by omega)
  | succ f =>
    simp only [walkC]
    rw [if_neg (by omega), dif_neg (by simpa using h)]
theorem walkC_dead {cs : List Cl} {f : Nat} {a : Nat} (h : a < cs.length) (hd : cs[a].dead = true) : walkC cs f (a : Int) = none := by
  cases f with
  | zero => exact walkC_zero (by omega)
  | succ f =>
    simp only [walkC, Int.toNat_natCast]
    rw [if_neg (by omega), dif_pos h, if_pos hd]
theorem walkC_step {cs : List Cl} {f : Nat} {a : Nat} (h : a < cs.length) (hd : cs[a].dead = false) : walkC cs (f + 1) (a : Int) = (walkC cs f cs[a].sender).map (a :: ·) := by
  simp only [walkC, Int.toNat_natCast]
  rw [if_neg (by omega), dif_pos h, hd]
  rfl
def nums (l : List Nat) : List Int := l.map fun (k : Nat) => (k : Int)
end Go.Proofs.YtfpodljalccpnaaGreatDoor

/-
  The document's model of HeapOk, the end of it: l11Wait.
-/
namespace Go.Proofs.YtfpodljalccpnaaGreatDoor
open Go.RowKit
theorem walkC_in {cs : List Cl} : ∀ (f : Nat) (a : Int) (l : List Nat), walkC cs f a = some l → ∀ k ∈ l, ∃ h : k < cs.length, cs[k].dead = false
  | 0, a, l, h, k, hk => by
    simp only [walkC] at h
    split at h
    · cases h; cases hk
    · cases h
  | f + 1, a, l, h, k, hk => by
    simp only [walkC] at h
    split at h
    · cases h; cases hk
    · split at h
      · rename_i hn ha
        split at h
        · cases h
        · rename_i hd
          obtain ⟨l', hl', rfl⟩ := Option.map_eq_some_iff.1 h
          rcases List.mem_cons.1 hk with rfl | hk
          · exact ⟨ha, by simpa using hd⟩
          · exact walkC_in f _ l' hl' k hk
      · cases h
theorem chain_in {cs : List Cl} {now : Int} {k : Nat} (h : k ∈ chainOf cs now) : ∃ h : k < cs.length, cs[k].dead = false := by
  unfold chainOf at h
  cases hw : walkC cs cs.length now with
  | none => rw [hw] at h; cases h
  | some l => rw [hw] at h; exact walkC_in _ _ _ hw k h
def roomP (cs : List Cl) (ch : List Nat) : Bool := (ch.drop 1).all fun k => decide ((cs.getD k Cl.none).stack.length < 6)
theorem roomP_yes {cs : List Cl} {ch : List Nat} (hin : ∀ k ∈ ch, k < cs.length) (h : ∀ i, (hi : i < ch.length) → 1 ≤ i → ∀ hk : ch[i] < cs.length, cs[ch[i]].stack.length < 6) : roomP cs ch = true := by
  unfold roomP
  rw [List.all_eq_true]
  intro k hk
  obtain ⟨j, hj, rfl⟩ := List.getElem_of_mem hk
  have hj' : j + 1 < ch.length := by simp at hj; omega
  have e : (ch.drop 1)[j] = ch[j + 1] := by simp
  rw [e]
  have hk' := hin _ (List.getElem_mem hj')
  have := h (j + 1) hj' (by omega) hk'
  simp [hk', this]
end Go.Proofs.YtfpodljalccpnaaGreatDoor

/-
  The document's model of HeapOk, walked: it answers the plain function heapOk, and writes to nothing that was there.
-/
namespace Go.Proofs.YtfpodljalccpnaaGreatDoor
open Go.RowKit
def headOk (ms : List (Int × Int × List (Int × Int))) (h : Hp) : Bool :=
  progOk ms && inR h.now (-1) ((h.calls.length : Int) - 1) && inR h.born 1 30 && decide ((h.calls.length : Int) ≤ h.born) && inR h.code 0 3 && valsOk ms.length h.said && ((h.code == 1) == decide (h.now < 0))
def liveN (cs : List Cl) : Nat := (cs.filter fun c => !c.dead).length
def endOk (h : Hp) : Bool := (decide (h.now < 0) || !(h.calls.getD h.now.toNat Cl.none).dead) && ((chainOf h.calls h.now).length == liveN h.calls) && roomP h.calls (chainOf h.calls h.now)
def heapOk (ms : List (Int × Int × List (Int × Int))) (h : Hp) : Bool := headOk ms h && h.calls.all (clOk ms h.calls.length) && endOk h
theorem heapOk_head {ms : List (Int × Int × List (Int × Int))} {h : Hp} (e : headOk ms h = false) : heapOk ms h = false := by simp [heapOk, e]
theorem heapOk_call {ms : List (Int × Int × List (Int × Int))} {h : Hp} {i : Nat} (hi : i < h.calls.length) (e : clOk ms h.calls.length h.calls[i] = false) : heapOk ms h = false := by
  simp only [heapOk, all_not hi e, Bool.and_false, Bool.false_and]
theorem heapOk_end {ms : List (Int × Int × List (Int × Int))} {h : Hp} (e : headOk ms h = true) (hc : ∀ i, (hi : i < h.calls.length) → clOk ms h.calls.length h.calls[i] = true) : heapOk ms h = endOk h := by
  simp only [heapOk, e, all_of hc, Bool.true_and]
theorem liveN_step {cs : List Cl} {k : Nat} (hk : k < cs.length) : liveN (cs.take (k + 1)) = liveN (cs.take k) + (if cs[k].dead then 0 else 1) := by
  unfold liveN
  rw [List.take_succ_eq_append_getElem hk, List.filter_append, List.length_append]
  congr 1
  by_cases e : cs[k].dead = true <;> simp [e]
end Go.Proofs.YtfpodljalccpnaaGreatDoor

/-
  The program's HeapDeep: how many calls there are from Now on by Sender.
-/
namespace Go.Proofs.YtfpodljalccpnaaGreatDoor
open Go.RowKit
def deepC (cs : List Cl) : Nat → Int → Option Nat
  | 0, a => if 0 ≤ a ∧ a.toNat < cs.length then none else some 0
  | f + 1, a => if h : 0 ≤ a ∧ a.toNat < cs.length then (if (cs[a.toNat]'h.2).dead then none else (deepC cs f (cs[a.toNat]'h.2).sender).map (· + 1)) else some 0
theorem deepC_out {cs : List Cl} {f : Nat} {a : Int} (h : ¬ (0 ≤ a ∧ a < (cs.length : Int))) : deepC cs f a = some 0 := by
  have h' : ¬ (0 ≤ a ∧ a.toNat < cs.length) := by omega
  cases f
  · simp only [deepC, if_neg h']
  · simp only [deepC, dif_neg h']
theorem deepC_zero {cs : List Cl} {a : Nat} (h : a < cs.length) : deepC cs 0 (a : Int) = none := by
  simp only [deepC]
  rw [if_pos (by simp; exact h)]
theorem deepC_dead {cs : List Cl} {f : Nat} {a : Nat} (h : a < cs.length) (hd : cs[a].dead = true) : deepC cs f (a : Int) = none := by
  cases f with
  | zero => exact deepC_zero h
  | succ f =>
    simp only [deepC, Int.toNat_natCast]
    rw [dif_pos ⟨by omega, h⟩, if_pos hd]
theorem deepC_step {cs : List Cl} {f : Nat} {a : Nat} (h : a < cs.length) (hd : cs[a].dead = false) : deepC cs (f + 1) (a : Int) = (deepC cs f cs[a].sender).map (· + 1) := by
  simp only [deepC, Int.toNat_natCast]
  rw [dif_pos ⟨by omega, h⟩, hd]
  rfl
def deepOf (cs : List Cl) (now : Int) : Nat := (deepC cs cs.length now).getD 0
theorem deepC_walk {cs : List Cl} (hs : ∀ i, (h : i < cs.length) → -1 ≤ cs[i].sender ∧ cs[i].sender < (cs.length : Int)) : ∀ (f : Nat) (a : Int), -1 ≤ a → a < (cs.length : Int) → deepC cs f a = (walkC cs f a).map List.length
  | f, a, h0, h1 => by
    by_cases hn : a < 0
    · rw [walkC_neg hn, deepC_out (by omega)]; rfl
    obtain ⟨n, rfl⟩ := Int.eq_ofNat_of_zero_le (show 0 ≤ a by omega)
    have hl : n < cs.length := by omega
    cases f with
    | zero => rw [deepC_zero hl, walkC_zero (by omega)]; rfl
    | succ f =>
      cases hd : cs[n].dead
      · rw [deepC_step hl hd, walkC_step hl hd, deepC_walk hs f _ (hs n hl).1 (hs n hl).2]
        cases walkC cs f cs[n].sender <;> rfl
      · rw [deepC_dead hl hd, walkC_dead hl hd]; rfl
theorem deepOf_chain {cs : List Cl} {now : Int} (hs : ∀ i, (h : i < cs.length) → -1 ≤ cs[i].sender ∧ cs[i].sender < (cs.length : Int)) (h0 : -1 ≤ now) (h1 : now < (cs.length : Int)) : deepOf cs now = (chainOf cs now).length := by
  unfold deepOf chainOf
  rw [deepC_walk hs _ _ h0 h1]
  cases walkC cs cs.length now <;> rfl
set_option maxRecDepth 100000 in
set_option maxHeartbeats 4000000 in
theorem implHeapDeep_any (vc vs : Value) (h : Hp) (w : World) (hh : HeapAt w vc vs h) (hn : h.calls.length ≤ 900000) :
    Calls Tryz.prog 21 #[.agg (hpCells vc vs h)] w fun e w' => e = .returned (.int .i64 (deepOf h.calls h.now : Nat)) ∧ Below w.heap.size w w' := by
  unfold hpCells
  obtain ⟨cs, now, born, said, code⟩ := h
  obtain ⟨hhc, hhs⟩ := hh
  simp only [] at hhc hhs hn ⊢
  obtain ⟨aD, kD, hvs⟩ := hhs.shape
  subst hvs
  obtain ⟨ac, kc, rfl, _, hcl⟩ := hhc
  have hA := (Below.refl w.heap.size w).alloc (Nat.le_refl _) (.cells #[.slice ac cs.length kc, .int .i64 now, .int .i64 born, .slice aD said.length kD, .int .i64 code] 29)
  have b0 : (w.alloc (.cells #[.slice ac cs.length kc, .int .i64 now, .int .i64 born, .slice aD said.length kD, .int .i64 code] 29)).cell? ⟨w.heap.size, 0, none⟩ = some (.slice ac cs.length kc) := by simp [go_sem]
  have b1 : (w.alloc (.cells #[.slice ac cs.length kc, .int .i64 now, .int .i64 born, .slice aD said.length kD, .int .i64 code] 29)).cell? ⟨w.heap.size, 1, none⟩ = some (.int .i64 now) := by simp [go_sem]
  go_enter Tryz.func21, Tryz.ntmps21
  go_upto_region 1 with fail
  generalize w.alloc (.cells #[.slice ac cs.length kc, .int .i64 now, .int .i64 born, .slice aD said.length kD, .int .i64 code] 29) = W0 at *
  have HW : Hid (deepC cs cs.length now = (deepC cs (cs.length - 0) now).map (· + 0)) := by
    show _ = _
    simp
  clear hhs
  go_wp2_with fail
  go_loopg [3, 4] cs.length (fun d v at_ wr => ∃ (k : Nat) (a : Int), k ≤ cs.length ∧ d = cs.length - k ∧ v = .int .i64 (k : Nat) ∧ at_ = .int .i64 a ∧ wr.cell? ⟨w.heap.size, 0, none⟩ = some (.slice ac cs.length kc) ∧ Below w.heap.size w wr ∧ deepC cs cs.length now = (deepC cs (cs.length - k) a).map (· + k))
  case atStart => exact ⟨0, now, Nat.zero_le _, rfl, rfl, rfl, b0, hA, HW.out⟩
  case round =>
    obtain ⟨k, a, hk, rfl, rfl, rfl, br, hb, hwalk⟩ := hrel
    have HK : Hid (deepC cs cs.length now = (deepC cs (cs.length - k) a).map (· + k)) := hwalk
    clear hwalk HW b0 b1 hA
    have hsz := hb.size
    by_cases ha : ¬ (0 ≤ a ∧ a < (cs.length : Int))
    · have HI : Hid (inR a 0 ((cs.length : Int) - 1) = false) := inR_false.2 (by omega)
      have HE : Hid (deepOf cs now = k) := by
        show _ = _
        unfold deepOf
        rw [HK.out, deepC_out ha]
        simp
      go_wp2_with (go_at_call 64; refine (isPlace_any _ _ _).mono ?_; rintro e w' ⟨rfl, hw⟩; obtain rfl := hw.symm; rw [HI.out])
      go_ret
      exact ⟨by rw [HE.out]; rfl, hb⟩
    have ha := Decidable.not_not.1 ha
    have HI : Hid (inR a 0 ((cs.length : Int) - 1) = true) := inR_true.2 (by omega)
    obtain ⟨an, rfl⟩ := Int.eq_ofNat_of_zero_le ha.1
    have han : an < cs.length := by omega
    have hanz : (an : Int) < (cs.length : Int) := by omega
    obtain ⟨b, o, vt, vs, rfl, hc⟩ := hcl an han
    have d4 := cell_below hb hc.c4
    have d5 := cell_below hb hc.c5
    have HN : Hid (deepC cs (cs.length - k) (an : Int) = none → deepOf cs now = 0) := fun e => by
      unfold deepOf
      rw [HK.out, e]
      rfl
    clear hcl hc ha
    rcases hdd : cs[an].dead with _ | _
    · rw [hdd] at d5
      by_cases hf : cs.length ≤ k
      · have HE : Hid (deepOf cs now = 0) := HN.out (by rw [show cs.length - k = 0 by omega]; exact deepC_zero han)
        have hkk : ((k : Int) == (cs.length : Int)) = true := by simp; omega
        obtain rfl : k = cs.length := by omega
        clear HN HK hdd
        go_wp2_with (go_at_call 64; refine (isPlace_any _ _ _).mono ?_; rintro e w' ⟨rfl, hw⟩; obtain rfl := hw.symm; rw [HI.out])
        go_ret
        exact ⟨by rw [HE.out]; rfl, hb⟩
      · have HS : Hid (deepC cs cs.length now = (deepC cs (cs.length - (k + 1)) cs[an].sender).map (· + (k + 1))) := by
          show _ = _
          rw [HK.out, show cs.length - k = (cs.length - (k + 1)) + 1 by omega, deepC_step han hdd]
          cases deepC cs (cs.length - (k + 1)) cs[an].sender with
          | none => rfl
          | some q => simp; omega
        have hkk : ((k : Int) == (cs.length : Int)) = false := by simp; omega
        have hkl : (k : Int) < (cs.length : Int) := by omega
        clear HN HK hdd
        go_wp2_with (go_at_call 64; refine (isPlace_any _ _ _).mono ?_; rintro e w' ⟨rfl, hw⟩; obtain rfl := hw.symm; rw [HI.out])
        go_roundg (cs.length - (k + 1))
        case measure => omega
        case rel => exact ⟨k + 1, cs[an].sender, by omega, rfl, by go_num, rfl, br, hb, HS.out⟩
    · rw [hdd] at d5
      have HE : Hid (deepOf cs now = 0) := HN.out (deepC_dead han hdd)
      clear HN HK hdd
      go_wp2_with (go_at_call 64; refine (isPlace_any _ _ _).mono ?_; rintro e w' ⟨rfl, hw⟩; obtain rfl := hw.symm; rw [HI.out])
      go_ret
      exact ⟨by rw [HE.out]; rfl, hb⟩
end Go.Proofs.YtfpodljalccpnaaGreatDoor

/-
  The program's waitOk, in plain words (waitP).
-/
namespace Go.Proofs.YtfpodljalccpnaaGreatDoor
open Go.RowKit
def freeP (cs : List Cl) (now : Int) : Prop := ∀ i, (h : i < cs.length) → (i : Int) ≠ now → cs[i].stack.length < 6
open Classical in
noncomputable def waitP (cs : List Cl) (now : Int) : Bool := decide (freeP cs now) && ((deepOf cs now == liveN cs) && ((deepOf cs now == 0) == (now == -1)))
theorem waitP_no {cs : List Cl} {now : Int} {i : Nat} (h : i < cs.length) (hn : (i : Int) ≠ now) (h6 : ¬ cs[i].stack.length < 6) : waitP cs now = false := by
  have : ¬ freeP cs now := fun hf => h6 (hf i h hn)
  simp [waitP, this]
theorem waitP_yes {cs : List Cl} {now : Int} (h : freeP cs now) : waitP cs now = ((deepOf cs now == liveN cs) && ((deepOf cs now == 0) == (now == -1))) := by
  simp [waitP, h]
set_option maxRecDepth 100000 in
set_option maxHeartbeats 4000000 in
theorem implWaitOk_any (vc vs : Value) (h : Hp) (w : World) (hh : HeapAt w vc vs h) (hn : h.calls.length ≤ 900000) :
    Calls Tryz.prog 47 #[.agg (hpCells vc vs h)] w fun e w' => e = .returned (.bool (waitP h.calls h.now)) ∧ Below w.heap.size w w' := by
  have HD : Hid (∀ w', Below w.heap.size w w' → Calls Tryz.prog 21 #[.agg (hpCells vc vs h)] w' fun e w2 => e = .returned (.int .i64 (deepOf h.calls h.now : Nat)) ∧ Below w'.heap.size w' w2) := fun w' hb => implHeapDeep_any vc vs h w' (hh.below hb) hn
  unfold hpCells at *
  obtain ⟨cs, now, born, said, code⟩ := h
  obtain ⟨hhc, hhs⟩ := hh
  simp only [] at hhc hhs hn HD ⊢
  obtain ⟨aD, kD, hvs⟩ := hhs.shape
  subst hvs
  obtain ⟨ac, kc, rfl, _, hcl⟩ := hhc
  have hA := (Below.refl w.heap.size w).alloc (Nat.le_refl _) (.cells #[.slice ac cs.length kc, .int .i64 now, .int .i64 born, .slice aD said.length kD, .int .i64 code] 29)
  have b5 := five_new w 29 (.slice ac cs.length kc) (.int .i64 now) (.int .i64 born) (.slice aD said.length kD) (.int .i64 code)
  go_enter Tryz.func47, Tryz.ntmps47
  go_upto_region 1 with fail
  generalize w.alloc (.cells #[.slice ac cs.length kc, .int .i64 now, .int .i64 born, .slice aD said.length kD, .int .i64 code] 29) = W0 at *
  obtain ⟨⟨x0, x1, x2, x3, x4⟩, _⟩ := five_cells b5
  clear b5 hhs
  have zA := hA.size
  have hw0 : w.heap.size < W0.heap.size := World.block_lt_of_cell? _ _ x0
  go_wp2_with fail
  go_loopg [3, 10] cs.length (fun d v i wr => ∃ k : Nat, k ≤ cs.length ∧ d = cs.length - k ∧ v = .int .i64 (liveN (cs.take k) : Nat) ∧ i = .int .i64 (k : Nat) ∧ Below W0.heap.size W0 wr ∧ ∀ j, (hj : j < cs.length) → j < k → (j : Int) ≠ now → cs[j].stack.length < 6)
  case atStart => exact ⟨0, Nat.zero_le _, rfl, rfl, rfl, Below.refl _ _, fun j _ h => absurd h (Nat.not_lt_zero _)⟩
  case round =>
    obtain ⟨k, hk, rfl, rfl, rfl, hb, hall⟩ := hrel
    have H : Hid (∀ j, (hj : j < cs.length) → j < k → (j : Int) ≠ now → cs[j].stack.length < 6) := hall
    clear hall
    have hsz := hb.size
    have q1 := cell_below hb x1
    by_cases hlt : k < cs.length
    · have hkz : (k : Int) < (cs.length : Int) := by omega
      obtain ⟨b, o, vt, vs, rfl, hc⟩ := hcl k hlt
      have hcW := hc.below (hA.trans (hb.mono zA))
      obtain ⟨d0, d1, d2, d3, d4, d5, ht, hs⟩ := hcW
      obtain ⟨a1, k1, e1⟩ := ht.shape
      obtain ⟨a2, k2, e2⟩ := hs.shape
      subst e1 e2
      have HL : Hid (liveN (cs.take (k + 1)) = liveN (cs.take k) + (if cs[k].dead then 0 else 1)) := liveN_step hlt
      have HLB : Hid (liveN (cs.take k) ≤ k) := by
        show _ ≤ _
        unfold liveN
        exact Nat.le_trans (List.length_filter_le _ _) (by simp; omega)
      clear hc hcl ht hs
      have hLz : liveN (cs.take k) ≤ 900000 := Nat.le_trans HLB.out (by omega)
      have qN := fun o => cell_below ((Below.refl _ _).alloc (Nat.le_refl _) o) q1
      generalize liveN (cs.take k) = L at *
      cases hdd : cs[k].dead
      · rw [hdd] at d5
        have HL2 : Hid (liveN (cs.take (k + 1)) = L + 1) := by
          show _ = _
          rw [HL.out, hdd]
          rfl
        clear HL hdd
        by_cases hkn : (k : Int) = now
        · subst hkn
          go_wp2
          go_roundg (cs.length - (k + 1))
          case measure => omega
          case rel =>
            refine ⟨k + 1, by omega, rfl, by rw [HL2.out]; go_num, by go_num, hb.alloc hsz _, fun j hj hjk hne => ?_⟩
            exact H.out j hj (by omega) hne
        · have ekn : ((k : Int) == now) = false := beq_eq_false_iff_ne.2 hkn
          have ekn' : ((k : Int) != now) = true := by simp [hkn]
          by_cases h6 : 6 ≤ cs[k].stack.length
          · have h6z : (6 : Int) ≤ (cs[k].stack.length : Int) := by omega
            have HF : Hid (waitP cs now = false) := waitP_no hlt hkn (by omega)
            go_wp2
            go_ret
            exact ⟨ret_bool HF.out.symm, hA.trans ((hb.alloc hsz _).mono zA)⟩
          · have h6z : (cs[k].stack.length : Int) < 6 := by omega
            have H6 : Hid (cs[k].stack.length < 6) := by show _ < _; omega
            go_wp2
            go_roundg (cs.length - (k + 1))
            case measure => omega
            case rel =>
              refine ⟨k + 1, by omega, rfl, by rw [HL2.out]; go_num, by go_num, hb.alloc hsz _, fun j hj hjk hne => ?_⟩
              by_cases e : j = k
              · subst e; exact H6.out
              · exact H.out j hj (by omega) hne
      · rw [hdd] at d5
        have HL2 : Hid (liveN (cs.take (k + 1)) = L) := by
          show _ = _
          rw [HL.out, hdd]
          rfl
        clear HL hdd
        by_cases hkn : (k : Int) = now
        · subst hkn
          go_wp2
          go_roundg (cs.length - (k + 1))
          case measure => omega
          case rel =>
            refine ⟨k + 1, by omega, rfl, by rw [HL2.out], by go_num, hb.alloc hsz _, fun j hj hjk hne => ?_⟩
            exact H.out j hj (by omega) hne
        · have ekn : ((k : Int) == now) = false := beq_eq_false_iff_ne.2 hkn
          have ekn' : ((k : Int) != now) = true := by simp [hkn]
          by_cases h6 : 6 ≤ cs[k].stack.length
          · have h6z : (6 : Int) ≤ (cs[k].stack.length : Int) := by omega
            have HF : Hid (waitP cs now = false) := waitP_no hlt hkn (by omega)
            go_wp2
            go_ret
            exact ⟨ret_bool HF.out.symm, hA.trans ((hb.alloc hsz _).mono zA)⟩
          · have h6z : (cs[k].stack.length : Int) < 6 := by omega
            have H6 : Hid (cs[k].stack.length < 6) := by show _ < _; omega
            go_wp2
            go_roundg (cs.length - (k + 1))
            case measure => omega
            case rel =>
              refine ⟨k + 1, by omega, rfl, by rw [HL2.out], by go_num, hb.alloc hsz _, fun j hj hjk hne => ?_⟩
              by_cases e : j = k
              · subst e; exact H6.out
              · exact H.out j hj (by omega) hne
    · obtain rfl : k = cs.length := by omega
      have HF : Hid (freeP cs now) := fun j hj hne => H.out j hj hj hne
      have HL : Hid (liveN (cs.take cs.length) = liveN cs) := by show _ = _; rw [List.take_length]
      have hLz : liveN cs ≤ 900000 := Nat.le_trans (List.length_filter_le _ _) hn
      rw [HL.out]
      have HP : Hid (waitP cs now = ((deepOf cs now == liveN cs) && ((deepOf cs now == 0) == (now == -1)))) := waitP_yes HF.out
      have q0 := cell_below hb x0
      have q2 := cell_below hb x2
      have q3 := cell_below hb x3
      have q4 := cell_below hb x4
      have HD2 := HD.out wr (hA.trans (hb.mono zA))
      have HD3 : Hid (Calls Tryz.prog 21 #[.agg #[.slice ac cs.length kc, .int .i64 now, .int .i64 born, .slice aD said.length kD, .int .i64 code]] wr fun e w2 => e = .returned (.int .i64 (deepOf cs now : Nat)) ∧ Below wr.heap.size wr w2) := HD2
      have hbW : Below w.heap.size w wr := hA.trans (hb.mono zA)
      have zW := hbW.size
      clear HD2 HD HF H HL hcl x0 x1 x2 x3 x4 hA hb
      generalize liveN cs = L at *
      generalize deepOf cs now = D at *
      by_cases hDL : D = L
      · subst hDL
        go_wp2_with (go_at_call 21; refine HD3.out.mono ?_; rintro e w2 ⟨rfl, hb2⟩; have p1 := cell_below hb2 q1)
        go_ret
        refine ⟨ret_bool ?_, hbW.trans (hb2.mono zW)⟩
        rw [HP.out, beq_self_eq_true, Bool.true_and, show ((D : Int) == 0) = (D == 0) from by rw [Bool.eq_iff_iff, beq_iff_eq, beq_iff_eq]; omega]
      · have eDL : ((D : Int) == (L : Int)) = false := beq_eq_false_iff_ne.2 (by omega)
        have hDz : ¬ (D : Int) = (L : Int) := by omega
        go_wp2_with (go_at_call 21; refine HD3.out.mono ?_; rintro e w2 ⟨rfl, hb2⟩; have p1 := cell_below hb2 q1)
        go_ret
        exact ⟨ret_bool (by rw [HP.out, beq_eq_false_iff_ne.2 hDL, Bool.false_and]), hbW.trans (hb2.mono zW)⟩
end Go.Proofs.YtfpodljalccpnaaGreatDoor
