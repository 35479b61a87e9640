/-
  The program's waitOk, in plain words (waitP).
-/
import Derived.Test.YtldiccheboipeaaHHeapOk
import Derived.Test.YtldiccheboipeaaSpecOk2

namespace Go.Proofs.Ytldiccheboipeaa
open Go.RowKit
def freeP (cs : List Cl) (now : Int) : Prop := ∀ i, (h : i < cs.length) → (i : Int) ≠ now → cs[i].stack.length < 6
open Classical in
noncomputable def waitP (cs : List Cl) (now : Int) : Bool := decide (freeP cs now) && ((deepOf cs now == liveN cs) && ((deepOf cs now == 0) == (now == -1)))
theorem waitP_no {cs : List Cl} {now : Int} {i : Nat} (h : i < cs.length) (hn : (i : Int) ≠ now) (h6 : ¬ cs[i].stack.length < 6) : waitP cs now = false := by
  have : ¬ freeP cs now := fun hf => h6 (hf i h hn)
  simp [waitP, this]
theorem waitP_yes {cs : List Cl} {now : Int} (h : freeP cs now) : waitP cs now = ((deepOf cs now == liveN cs) && ((deepOf cs now == 0) == (now == -1))) := by
  simp [waitP, h]
set_option maxRecDepth 100000 in
set_option maxHeartbeats 4000000 in
theorem implWaitOk_any (vc vs : Value) (h : Hp) (w : World) (hh : HeapAt w vc vs h) (hn : h.calls.length ≤ 900000) :
    Calls Try.prog 50 #[.agg (hpCells vc vs h)] w fun e w' => e = .returned (.bool (waitP h.calls h.now)) ∧ Below w.heap.size w w' := by
  have HD : Hid (∀ w', Below w.heap.size w w' → Calls Try.prog 96 #[.agg (hpCells vc vs h)] w' fun e w2 => e = .returned (.int .i64 (deepOf h.calls h.now : Nat)) ∧ Below w'.heap.size w' w2) := fun w' hb => implHeapDeep_any vc vs h w' (hh.below hb) hn
  unfold hpCells at *
  obtain ⟨cs, now, born, said, code⟩ := h
  obtain ⟨hhc, hhs⟩ := hh
  simp only [] at hhc hhs hn HD ⊢
  obtain ⟨aD, kD, hvs⟩ := hhs.shape
  subst hvs
  obtain ⟨ac, kc, rfl, _, hcl⟩ := hhc
  have hA := (Below.refl w.heap.size w).alloc (Nat.le_refl _) (.cells #[.slice ac cs.length kc, .int .i64 now, .int .i64 born, .slice aD said.length kD, .int .i64 code] 39)
  have b5 := five_new w 39 (.slice ac cs.length kc) (.int .i64 now) (.int .i64 born) (.slice aD said.length kD) (.int .i64 code)
  go_enter Try.func50, Try.ntmps50
  go_upto_region 1 with fail
  generalize w.alloc (.cells #[.slice ac cs.length kc, .int .i64 now, .int .i64 born, .slice aD said.length kD, .int .i64 code] 39) = W0 at *
  obtain ⟨⟨x0, x1, x2, x3, x4⟩, _⟩ := five_cells b5
  clear b5 hhs
  have zA := hA.size
  have hw0 : w.heap.size < W0.heap.size := World.block_lt_of_cell? _ _ x0
  go_wp2_with fail
  go_loopg [3, 10] cs.length (fun d v i wr => ∃ k : Nat, k ≤ cs.length ∧ d = cs.length - k ∧ v = .int .i64 (liveN (cs.take k) : Nat) ∧ i = .int .i64 (k : Nat) ∧ Below W0.heap.size W0 wr ∧ ∀ j, (hj : j < cs.length) → j < k → (j : Int) ≠ now → cs[j].stack.length < 6)
  case atStart => exact ⟨0, Nat.zero_le _, rfl, rfl, rfl, Below.refl _ _, fun j _ h => absurd h (Nat.not_lt_zero _)⟩
  case round =>
    obtain ⟨k, hk, rfl, rfl, rfl, hb, hall⟩ := hrel
    have H : Hid (∀ j, (hj : j < cs.length) → j < k → (j : Int) ≠ now → cs[j].stack.length < 6) := hall
    clear hall
    have hsz := hb.size
    have q1 := cell_below hb x1
    by_cases hlt : k < cs.length
    · have hkz : (k : Int) < (cs.length : Int) := by omega
      obtain ⟨b, o, vt, vs, rfl, hc⟩ := hcl k hlt
      have hcW := hc.below (hA.trans (hb.mono zA))
      obtain ⟨d0, d1, d2, d3, d4, d5, ht, hs⟩ := hcW
      obtain ⟨a1, k1, e1⟩ := ht.shape
      obtain ⟨a2, k2, e2⟩ := hs.shape
      subst e1 e2
      have HL : Hid (liveN (cs.take (k + 1)) = liveN (cs.take k) + (if cs[k].dead then 0 else 1)) := liveN_step hlt
      have HLB : Hid (liveN (cs.take k) ≤ k) := by
        show _ ≤ _
        unfold liveN
        exact Nat.le_trans (List.length_filter_le _ _) (by simp; omega)
      clear hc hcl ht hs
      have hLz : liveN (cs.take k) ≤ 900000 := Nat.le_trans HLB.out (by omega)
      have qN := fun o => cell_below ((Below.refl _ _).alloc (Nat.le_refl _) o) q1
      generalize liveN (cs.take k) = L at *
      cases hdd : cs[k].dead
      · rw [hdd] at d5
        have HL2 : Hid (liveN (cs.take (k + 1)) = L + 1) := by
          show _ = _
          rw [HL.out, hdd]
          rfl
        clear HL hdd
        by_cases hkn : (k : Int) = now
        · subst hkn
          go_wp2
          go_roundg (cs.length - (k + 1))
          case measure => omega
          case rel =>
            refine ⟨k + 1, by omega, rfl, by rw [HL2.out]; go_num, by go_num, hb.alloc hsz _, fun j hj hjk hne => ?_⟩
            exact H.out j hj (by omega) hne
        · have ekn : ((k : Int) == now) = false := beq_eq_false_iff_ne.2 hkn
          have ekn' : ((k : Int) != now) = true := by simp [hkn]
          by_cases h6 : 6 ≤ cs[k].stack.length
          · have h6z : (6 : Int) ≤ (cs[k].stack.length : Int) := by omega
            have HF : Hid (waitP cs now = false) := waitP_no hlt hkn (by omega)
            go_wp2
            go_ret
            exact ⟨ret_bool HF.out.symm, hA.trans ((hb.alloc hsz _).mono zA)⟩
          · have h6z : (cs[k].stack.length : Int) < 6 := by omega
            have H6 : Hid (cs[k].stack.length < 6) := by show _ < _; omega
            go_wp2
            go_roundg (cs.length - (k + 1))
            case measure => omega
            case rel =>
              refine ⟨k + 1, by omega, rfl, by rw [HL2.out]; go_num, by go_num, hb.alloc hsz _, fun j hj hjk hne => ?_⟩
              by_cases e : j = k
              · subst e; exact H6.out
              · exact H.out j hj (by omega) hne
      · rw [hdd] at d5
        have HL2 : Hid (liveN (cs.take (k + 1)) = L) := by
          show _ = _
          rw [HL.out, hdd]
          rfl
        clear HL hdd
        by_cases hkn : (k : Int) = now
        · subst hkn
          go_wp2
          go_roundg (cs.length - (k + 1))
          case measure => omega
          case rel =>
            refine ⟨k + 1, by omega, rfl, by rw [HL2.out], by go_num, hb.alloc hsz _, fun j hj hjk hne => ?_⟩
            exact H.out j hj (by omega) hne
        · have ekn : ((k : Int) == now) = false := beq_eq_false_iff_ne.2 hkn
          have ekn' : ((k : Int) != now) = true := by simp [hkn]
          by_cases h6 : 6 ≤ cs[k].stack.length
          · have h6z : (6 : Int) ≤ (cs[k].stack.length : Int) := by omega
            have HF : Hid (waitP cs now = false) := waitP_no hlt hkn (by omega)
            go_wp2
            go_ret
            exact ⟨ret_bool HF.out.symm, hA.trans ((hb.alloc hsz _).mono zA)⟩
          · have h6z : (cs[k].stack.length : Int) < 6 := by omega
            have H6 : Hid (cs[k].stack.length < 6) := by show _ < _; omega
            go_wp2
            go_roundg (cs.length - (k + 1))
            case measure => omega
            case rel =>
              refine ⟨k + 1, by omega, rfl, by rw [HL2.out], by go_num, hb.alloc hsz _, fun j hj hjk hne => ?_⟩
              by_cases e : j = k
              · subst e; exact H6.out
              · exact H.out j hj (by omega) hne
    · obtain rfl : k = cs.length := by omega
      have HF : Hid (freeP cs now) := fun j hj hne => H.out j hj hj hne
      have HL : Hid (liveN (cs.take cs.length) = liveN cs) := by show _ = _; rw [List.take_length]
      have hLz : liveN cs ≤ 900000 := Nat.le_trans (List.length_filter_le _ _) hn
      rw [HL.out]
      have HP : Hid (waitP cs now = ((deepOf cs now == liveN cs) && ((deepOf cs now == 0) == (now == -1)))) := waitP_yes HF.out
      have q0 := cell_below hb x0
      have q2 := cell_below hb x2
      have q3 := cell_below hb x3
      have q4 := cell_below hb x4
      have HD2 := HD.out wr (hA.trans (hb.mono zA))
      have HD3 : Hid (Calls Try.prog 96 #[.agg #[.slice ac cs.length kc, .int .i64 now, .int .i64 born, .slice aD said.length kD, .int .i64 code]] wr fun e w2 => e = .returned (.int .i64 (deepOf cs now : Nat)) ∧ Below wr.heap.size wr w2) := HD2
      have hbW : Below w.heap.size w wr := hA.trans (hb.mono zA)
      have zW := hbW.size
      clear HD2 HD HF H HL hcl x0 x1 x2 x3 x4 hA hb
      generalize liveN cs = L at *
      generalize deepOf cs now = D at *
      by_cases hDL : D = L
      · subst hDL
        go_wp2_with (go_at_call 96; refine HD3.out.mono ?_; rintro e w2 ⟨rfl, hb2⟩; have p1 := cell_below hb2 q1)
        go_ret
        refine ⟨ret_bool ?_, hbW.trans (hb2.mono zW)⟩
        rw [HP.out, beq_self_eq_true, Bool.true_and, show ((D : Int) == 0) = (D == 0) from by rw [Bool.eq_iff_iff, beq_iff_eq, beq_iff_eq]; omega]
      · have eDL : ((D : Int) == (L : Int)) = false := beq_eq_false_iff_ne.2 (by omega)
        have hDz : ¬ (D : Int) = (L : Int) := by omega
        go_wp2_with (go_at_call 96; refine HD3.out.mono ?_; rintro e w2 ⟨rfl, hb2⟩; have p1 := cell_below hb2 q1)
        go_ret
        exact ⟨ret_bool (by rw [HP.out, beq_eq_false_iff_ne.2 hDL, Bool.false_and]), hbW.trans (hb2.mono zW)⟩
end Go.Proofs.Ytldiccheboipeaa

/-
  Who waits for whom: where all calls are in form, the program's test (waitP) and the model's (endOk) answer the same. A chain has no repeats; as long as the alive calls are many, it holds them all.
-/
namespace Go.Proofs.Ytldiccheboipeaa
theorem few_of_nodup : ∀ (l A : List Nat), l.Nodup → (∀ k ∈ l, k ∈ A) → l.length ≤ A.length
  | [], _, _, _ => Nat.zero_le _
  | a :: t, A, hn, hs => by
    obtain ⟨ha, ht⟩ := List.nodup_cons.1 hn
    have hm : a ∈ A := hs a (List.mem_cons_self ..)
    have := few_of_nodup t (A.erase a) ht fun k hk => (List.mem_erase_of_ne (show k ≠ a from fun e => ha (by rw [← e]; exact hk))).2 (hs k (List.mem_cons_of_mem _ hk))
    rw [List.length_erase_of_mem hm] at this
    have := List.length_pos_of_mem hm
    simp
    omega
end Go.Proofs.Ytldiccheboipeaa

/-
  The program's HeapOk answers the plain heapOk; it writes to nothing that was there.
-/
namespace Go.Proofs.Ytldiccheboipeaa
open Go.RowKit
theorem ops_few {ms : List (Int × Int × List (Int × Int))} (h : progOk ms = true) : ∀ i, (hi : i < ms.length) → ms[i].2.2.length ≤ 1000000 := fun i hi => by
  simp only [progOk, Bool.and_eq_true] at h
  have := List.all_eq_true.1 h.2 ms[i] (List.getElem_mem hi)
  simp only [methOk, Bool.and_eq_true, inR_true, decide_eq_true_iff] at this
  omega
end Go.Proofs.Ytldiccheboipeaa

/-
  What is seen of a heap, in plain words: the calls that can be come to, as they are come to, with the numbers that they have in this order. Nothing of the translation is used here.
-/
namespace Go.Proofs.Ytldiccheboipeaa
open Go.RowKit
def numOf (ps : List Nat) (p : Int) : Int := match ps.findIdx? (fun (q : Nat) => (q : Int) == p) with
  | some i => (i : Int)
  | none => -1
theorem numOf_none {ps : List Nat} {p : Int} (h : ∀ i, (hi : i < ps.length) → (ps[i] : Int) ≠ p) : numOf ps p = -1 := by
  unfold numOf
  have : ps.findIdx? (fun (q : Nat) => (q : Int) == p) = none := by
    rw [List.findIdx?_eq_none_iff]
    intro x hx
    obtain ⟨i, hi, rfl⟩ := List.getElem_of_mem hx
    simpa using h i hi
  rw [this]
theorem numOf_first {ps : List Nat} {p : Int} {i : Nat} (hi : i < ps.length) (h : (ps[i] : Int) = p) (hf : ∀ k, (hk : k < i) → ((ps[k]'(by omega) : Nat) : Int) ≠ p) : numOf ps p = i := by
  unfold numOf
  have : ps.findIdx? (fun (q : Nat) => (q : Int) == p) = some i := by
    rw [List.findIdx?_eq_some_iff_getElem]
    exact ⟨hi, by simpa using h, fun k hk => by simpa using hf k hk⟩
  rw [this]
theorem numOf_neg_iff {ps : List Nat} {p : Int} : numOf ps p = -1 ↔ ∀ i, (hi : i < ps.length) → (ps[i] : Int) ≠ p := by
  refine ⟨fun h i hi e => ?_, numOf_none⟩
  unfold numOf at h
  split at h
  · omega
  · rename_i hn
    rw [List.findIdx?_eq_none_iff] at hn
    have := hn ps[i] (List.getElem_mem hi)
    simp [e] at this
theorem numOf_snoc {ps : List Nat} {p : Nat} {q : Int} (h : numOf ps p = -1) : numOf (ps ++ [p]) q = if q = p then (ps.length : Int) else numOf ps q := by
  by_cases hq : q = p
  · subst hq
    rw [if_pos rfl]
    refine numOf_first (i := ps.length) (by simp) (by simp) (fun k hk => ?_)
    rw [List.getElem_append_left hk]
    exact numOf_neg_iff.1 h k hk
  · rw [if_neg hq]
    unfold numOf
    rw [List.findIdx?_append]
    have : [p].findIdx? (fun (x : Nat) => (x : Int) == q) = none := by
      rw [List.findIdx?_eq_none_iff]
      intro x hx
      simp at hx
      subst hx
      simp
      exact fun e => hq e.symm
    rw [this]
    simp
structure PsOk (n : Nat) (ps : List Nat) : Prop where
  nd : ps.Nodup
  lt : ∀ p ∈ ps, p < n
theorem PsOk.len {n : Nat} {ps : List Nat} (h : PsOk n ps) : ps.length ≤ n := by
  have := few_of_nodup ps (List.range n) h.nd (fun k hk => by simpa using h.lt k hk)
  simpa using this
def comeP (n : Nat) (ps : List Nat) (p : Int) : List Nat := if 0 ≤ p ∧ p < (n : Int) ∧ numOf ps p = -1 then ps ++ [p.toNat] else ps
theorem comeP_yes {n : Nat} {ps : List Nat} {p : Nat} (h1 : p < n) (h2 : numOf ps p = -1) : comeP n ps p = ps ++ [p] := by
  unfold comeP
  rw [if_pos ⟨by omega, by omega, h2⟩]
  simp
theorem comeP_out {n : Nat} {ps : List Nat} {p : Int} (h : ¬ (0 ≤ p ∧ p < (n : Int))) : comeP n ps p = ps := by
  unfold comeP
  rw [if_neg (fun e => h ⟨e.1, e.2.1⟩)]
theorem comeP_in {n : Nat} {ps : List Nat} {p : Int} (h : numOf ps p ≠ -1) : comeP n ps p = ps := by
  unfold comeP
  rw [if_neg (fun e => h e.2.2)]
theorem PsOk.come {n : Nat} {ps : List Nat} (h : PsOk n ps) (p : Int) : PsOk n (comeP n ps p) := by
  unfold comeP
  split
  · rename_i hc
    obtain ⟨k, rfl⟩ := Int.eq_ofNat_of_zero_le hc.1
    have hk : k < n := by omega
    have hn := numOf_neg_iff.1 hc.2.2
    refine ⟨?_, fun q hq => ?_⟩
    · rw [List.nodup_append]
      refine ⟨h.nd, by simp, fun a ha b hb e => ?_⟩
      simp at hb
      subst hb e
      obtain ⟨i, hi, e⟩ := List.getElem_of_mem ha
      exact hn i hi (by rw [e])
    · simp at hq
      rcases hq with hq | rfl
      · exact h.lt q hq
      · exact hk
  · exact h
def comeV (n : Nat) (ps : List Nat) (vs : List (Int × Int)) : List Nat := vs.foldl (fun ps v => if v.1 = 2 then comeP n ps v.2 else ps) ps
theorem comeV_step {n : Nat} {ps : List Nat} {vs : List (Int × Int)} {k : Nat} (h : k < vs.length) : comeV n ps (vs.take (k + 1)) = if vs[k].1 = 2 then comeP n (comeV n ps (vs.take k)) vs[k].2 else comeV n ps (vs.take k) := by
  unfold comeV
  rw [List.take_add_one, List.getElem?_eq_getElem h, List.foldl_append]
  rfl
theorem PsOk.comeV {n : Nat} : ∀ (vs : List (Int × Int)) {ps : List Nat}, PsOk n ps → PsOk n (comeV n ps vs)
  | [], _, h => h
  | v :: r, ps, h => by
    show PsOk n (List.foldl _ (if v.1 = 2 then comeP n ps v.2 else ps) r)
    split
    · exact PsOk.comeV r (h.come v.2)
    · exact PsOk.comeV r h
def comeC (n : Nat) (ps : List Nat) (c : Cl) : List Nat := comeV n (comeV n (comeP n ps c.sender) c.temps) c.stack
theorem come_pre (n : Nat) (ps : List Nat) (p : Int) : ∃ t, comeP n ps p = ps ++ t := by
  unfold comeP
  split
  · exact ⟨_, rfl⟩
  · exact ⟨[], by simp⟩
theorem comeV_pre (n : Nat) : ∀ (vs : List (Int × Int)) (ps : List Nat), ∃ t, comeV n ps vs = ps ++ t
  | [], ps => ⟨[], by simp [comeV]⟩
  | v :: r, ps => by
    obtain ⟨t, ht⟩ := comeV_pre n r (if v.1 = 2 then comeP n ps v.2 else ps)
    have e : comeV n ps (v :: r) = comeV n (if v.1 = 2 then comeP n ps v.2 else ps) r := rfl
    rw [e, ht]
    split
    · obtain ⟨t2, h2⟩ := come_pre n ps v.2
      exact ⟨t2 ++ t, by rw [h2, List.append_assoc]⟩
    · exact ⟨t, rfl⟩
theorem comeC_pre (n : Nat) (ps : List Nat) (c : Cl) : ∃ t, comeC n ps c = ps ++ t := by
  obtain ⟨t1, h1⟩ := come_pre n ps c.sender
  obtain ⟨t2, h2⟩ := comeV_pre n c.temps (comeP n ps c.sender)
  obtain ⟨t3, h3⟩ := comeV_pre n c.stack (comeV n (comeP n ps c.sender) c.temps)
  exact ⟨t1 ++ (t2 ++ t3), by unfold comeC; rw [h3, h2, h1]; simp⟩
def foundF (cs : List Cl) : Nat → Nat → List Nat → List Nat
  | 0, _, ps => ps
  | f + 1, j, ps => if h : j < ps.length then foundF cs f (j + 1) (comeC cs.length ps (cs.getD ps[j] Cl.none)) else ps
def found (h : Hp) : List Nat := foundF h.calls h.calls.length 0 (comeP h.calls.length [] h.now)
theorem foundF_step {cs : List Cl} {j : Nat} {ps : List Nat} (hps : PsOk cs.length ps) (hj : j < ps.length) (hp : ps[j] < cs.length) :
    foundF cs (cs.length - j) j ps = foundF cs (cs.length - (j + 1)) (j + 1) (comeC cs.length ps cs[ps[j]]) := by
  have := hps.len
  rw [show cs.length - j = (cs.length - (j + 1)) + 1 by omega]
  show (if h : j < ps.length then foundF cs (cs.length - (j + 1)) (j + 1) (comeC cs.length ps (cs.getD ps[j] Cl.none)) else ps) = _
  rw [dif_pos hj]
  simp [hp]
theorem foundF_end {cs : List Cl} {j : Nat} {ps : List Nat} (f : Nat) (hj : ¬ j < ps.length) : foundF cs f j ps = ps := by
  cases f with
  | zero => rfl
  | succ f =>
    show (if h : j < ps.length then _ else ps) = ps
    rw [dif_neg hj]
def ren (ps : List Nat) (v : Int × Int) : Int × Int := if v.1 = 2 then (2, numOf ps v.2) else v
def viewC (ps : List Nat) (c : Cl) : Cl := ⟨c.m, c.pc, c.temps.map (ren ps), c.stack.map (ren ps), numOf ps c.sender, c.dead⟩
def viewL (h : Hp) : List Cl := (found h).map fun p => viewC (found h) (h.calls.getD p Cl.none)
end Go.Proofs.Ytldiccheboipeaa
