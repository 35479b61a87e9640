/-
  What is seen, looked at once more, is seen as it is; who called is seen where who was called is. Nothing of the translation is used here.
-/
import Derived.Test.YtfpodljalccpnaaGreatDoorStepT

namespace Go.Proofs.YtfpodljalccpnaaGreatDoor
open Go.RowKit
theorem numOf_get {ps : List Nat} {p : Int} (h : numOf ps p ≠ -1) : ∃ i, ∃ hi : i < ps.length, numOf ps p = (i : Int) ∧ (ps[i] : Int) = p := by
  unfold numOf at h ⊢
  cases e : ps.findIdx? (fun (q : Nat) => (q : Int) == p) with
  | none => rw [e] at h; exact absurd rfl h
  | some i =>
    rw [List.findIdx?_eq_some_iff_getElem] at e
    obtain ⟨hi, h1, _⟩ := e
    exact ⟨i, hi, rfl, by simpa using h1⟩
theorem numOf_mem {ps : List Nat} {p : Nat} (h : p ∈ ps) : numOf ps p ≠ -1 := fun e => by
  obtain ⟨i, hi, rfl⟩ := List.getElem_of_mem h
  exact numOf_neg_iff.1 e i hi rfl
theorem numOf_pre {ps : List Nat} (t : List Nat) {q : Int} (h : numOf ps q ≠ -1) : numOf (ps ++ t) q = numOf ps q := by
  unfold numOf at h ⊢
  cases e : ps.findIdx? (fun (q' : Nat) => (q' : Int) == q) with
  | none => rw [e] at h; exact absurd rfl h
  | some i => rw [List.findIdx?_append, e]; rfl
theorem numOf_range {m i : Nat} (h : i < m) : numOf (List.range m) (i : Int) = i :=
  numOf_first (i := i) (by simpa using h) (by simp) fun k hk => by simp; omega
theorem numOf_range_out {m : Nat} {i : Int} (h : ¬ (0 ≤ i ∧ i < (m : Int))) : numOf (List.range m) i = -1 := numOf_none fun k hk => by
  simp at hk ⊢
  omega
theorem numOf_twice (F : List Nat) (p : Int) : numOf (List.range F.length) (numOf F p) = numOf F p := by
  by_cases h : numOf F p = -1
  · rw [h]; exact numOf_range_out (by omega)
  · obtain ⟨i, hi, e, _⟩ := numOf_get h
    rw [e]; exact numOf_range hi
theorem come_again {n : Nat} {F : List Nat} (hF : PsOk n F) {ps : List Nat} {p : Int} (hpre : ∃ t, F = comeP n ps p ++ t) : comeP F.length (List.range ps.length) (numOf F p) = List.range (comeP n ps p).length := by
  by_cases hin : 0 ≤ p ∧ p < (n : Int)
  · obtain ⟨k, rfl⟩ := Int.eq_ofNat_of_zero_le hin.1
    have hk : k < n := by omega
    by_cases hnum : numOf ps k = -1
    · obtain ⟨t, ht⟩ := hpre
      rw [comeP_yes hk hnum] at ht ⊢
      have hl : ps.length < F.length := by rw [ht]; simp
      have e : numOf F k = (ps.length : Int) := by
        subst ht
        refine numOf_first (i := ps.length) hl (by simp) fun q hq => ?_
        rw [List.getElem_append_left (by simp; omega), List.getElem_append_left hq]
        exact numOf_neg_iff.1 hnum q hq
      rw [e, comeP_yes hl (numOf_range_out (by omega))]
      simp [List.range_succ]
    · obtain ⟨t, ht⟩ := hpre
      rw [comeP_in hnum] at ht ⊢
      obtain ⟨i, hi, e, _⟩ := numOf_get hnum
      rw [ht, numOf_pre t hnum, e, comeP_in (by rw [numOf_range hi]; omega)]
  · have e : numOf F p = -1 := numOf_none fun i hi e => by
      have := hF.lt _ (List.getElem_mem hi)
      omega
    rw [comeP_out hin, e, comeP_out (by omega)]
theorem comeV_again {n : Nat} {F : List Nat} (hF : PsOk n F) : ∀ (vs : List (Int × Int)) (ps : List Nat), (∃ t, F = comeV n ps vs ++ t) → comeV F.length (List.range ps.length) (vs.map (ren F)) = List.range (comeV n ps vs).length
  | [], _, _ => rfl
  | v :: r, ps, h => by
    have e1 : comeV n ps (v :: r) = comeV n (if v.1 = 2 then comeP n ps v.2 else ps) r := rfl
    have e2 : comeV F.length (List.range ps.length) ((v :: r).map (ren F)) = comeV F.length (if (ren F v).1 = 2 then comeP F.length (List.range ps.length) (ren F v).2 else List.range ps.length) (r.map (ren F)) := rfl
    rw [e1] at h ⊢
    rw [e2]
    by_cases hv : v.1 = 2
    · rw [if_pos hv] at h ⊢
      have hr : ren F v = (2, numOf F v.2) := if_pos hv
      rw [hr, if_pos rfl]
      obtain ⟨t, ht⟩ := h
      obtain ⟨t2, h2⟩ := comeV_pre n r (comeP n ps v.2)
      rw [come_again hF ⟨t2 ++ t, by rw [ht, h2, List.append_assoc]⟩]
      exact comeV_again hF r _ ⟨t, ht⟩
    · rw [if_neg hv] at h ⊢
      have hr : ren F v = v := if_neg hv
      rw [hr, if_neg hv]
      exact comeV_again hF r _ h
theorem comeC_again {n : Nat} {F : List Nat} (hF : PsOk n F) (ps : List Nat) (c : Cl) (h : ∃ t, F = comeC n ps c ++ t) : comeC F.length (List.range ps.length) (viewC F c) = List.range (comeC n ps c).length := by
  obtain ⟨t, ht⟩ := h
  obtain ⟨t2, h2⟩ := comeV_pre n c.temps (comeP n ps c.sender)
  obtain ⟨t3, h3⟩ := comeV_pre n c.stack (comeV n (comeP n ps c.sender) c.temps)
  unfold comeC at ht ⊢
  have p2 : F = comeV n (comeP n ps c.sender) c.temps ++ (t3 ++ t) := by rw [ht, h3, List.append_assoc]
  have p1 : F = comeP n ps c.sender ++ (t2 ++ (t3 ++ t)) := by rw [← List.append_assoc, ← h2]; exact p2
  show comeV F.length (comeV F.length (comeP F.length (List.range ps.length) (numOf F c.sender)) (c.temps.map (ren F))) (c.stack.map (ren F)) = _
  rw [come_again hF ⟨_, p1⟩, comeV_again hF _ _ ⟨_, p2⟩, comeV_again hF _ _ ⟨_, ht⟩]
theorem foundF_pre (cs : List Cl) : ∀ (f j : Nat) (ps : List Nat), ∃ t, foundF cs f j ps = ps ++ t
  | 0, _, _ => ⟨[], by simp [foundF]⟩
  | f + 1, j, ps => by
    show ∃ t, (if h : j < ps.length then foundF cs f (j + 1) (comeC cs.length ps (cs.getD ps[j] Cl.none)) else ps) = ps ++ t
    by_cases h : j < ps.length
    · rw [dif_pos h]
      obtain ⟨t1, h1⟩ := comeC_pre cs.length ps (cs.getD ps[j] Cl.none)
      obtain ⟨t2, h2⟩ := foundF_pre cs f (j + 1) (comeC cs.length ps (cs.getD ps[j] Cl.none))
      exact ⟨t1 ++ t2, by rw [h2, h1, List.append_assoc]⟩
    · rw [dif_neg h]; exact ⟨[], by simp⟩
theorem foundF_ok (cs : List Cl) : ∀ (f j : Nat) (ps : List Nat), PsOk cs.length ps → PsOk cs.length (foundF cs f j ps)
  | 0, _, _, h => h
  | f + 1, j, ps, h => by
    show PsOk cs.length (if h : j < ps.length then foundF cs f (j + 1) (comeC cs.length ps (cs.getD ps[j] Cl.none)) else ps)
    by_cases e : j < ps.length
    · rw [dif_pos e]; exact foundF_ok cs f _ _ (h.comeC _)
    · rw [dif_neg e]; exact h
theorem found_ok (h : Hp) : PsOk h.calls.length (found h) := foundF_ok _ _ _ _ (PsOk.come ⟨List.nodup_nil, fun _ hp => by cases hp⟩ _)
theorem foundF_again {cs : List Cl} {F : List Nat} (hF : PsOk cs.length F) : ∀ (k j : Nat) (ps : List Nat), k = cs.length - j → PsOk cs.length ps → foundF cs (cs.length - j) j ps = F →
    foundF (F.map fun p => viewC F (cs.getD p Cl.none)) (F.length - j) j (List.range ps.length) = List.range F.length
  | k, j, ps, hk, hps, e => by
    by_cases hj : j < ps.length
    · have hp : ps[j] < cs.length := hps.lt _ (List.getElem_mem hj)
      have hjn : j < cs.length := by have := hps.len; omega
      rw [foundF_step hps hj hp] at e
      obtain ⟨t1, h1⟩ := comeC_pre cs.length ps cs[ps[j]]
      obtain ⟨t2, h2⟩ := foundF_pre cs (cs.length - (j + 1)) (j + 1) (comeC cs.length ps cs[ps[j]])
      rw [e] at h2
      have hF1 : F = ps ++ (t1 ++ t2) := by rw [h2, h1, List.append_assoc]
      have hlF : ps.length ≤ F.length := by rw [hF1]; simp
      have hjF : j < F.length := by omega
      have hFj : F[j] = ps[j] := by simp only [hF1]; rw [List.getElem_append_left hj]
      have hcl : (F.map fun p => viewC F (cs.getD p Cl.none)).length = F.length := by simp
      have hR : PsOk (F.map fun p => viewC F (cs.getD p Cl.none)).length (List.range ps.length) := ⟨List.nodup_range, fun p hp => by rw [hcl]; simp at hp; omega⟩
      have hjr : j < (List.range ps.length).length := by simpa using hj
      have st := foundF_step hR hjr (by rw [hcl]; simp; omega)
      have hcj : (F.map fun p => viewC F (cs.getD p Cl.none))[(List.range ps.length)[j]]'(by rw [hcl]; simp; omega) = viewC F cs[ps[j]] := by
        simp [hFj, hp]
      rw [hcj, hcl] at st
      rw [st, comeC_again hF ps _ ⟨t2, h2⟩]
      exact foundF_again hF (k - 1) (j + 1) _ (by omega) (hps.comeC _) e
    · rw [foundF_end _ hj] at e
      subst e
      rw [foundF_end _ (by simpa using hj)]
  termination_by k => k
  decreasing_by omega
theorem found_first {h : Hp} (hne : found h ≠ []) : ∃ k : Nat, h.now = k ∧ k < h.calls.length ∧ comeP h.calls.length [] h.now = [k] := by
  by_cases hin : 0 ≤ h.now ∧ h.now < (h.calls.length : Int)
  · obtain ⟨k, hk⟩ := Int.eq_ofNat_of_zero_le hin.1
    have hn : numOf [] (k : Int) = -1 := rfl
    exact ⟨k, hk, by omega, by rw [hk, comeP_yes (by omega) hn]; rfl⟩
  · refine absurd ?_ hne
    unfold found
    rw [comeP_out hin, foundF_end _ (by simp)]
theorem viewC_again (F : List Nat) (c : Cl) : viewC (List.range F.length) (viewC F c) = viewC F c := by
  have hr : ∀ v, ren (List.range F.length) (ren F v) = ren F v := fun v => by
    unfold ren
    by_cases hv : v.1 = 2
    · simp [hv, numOf_twice]
    · simp [hv]
  simp only [viewC, numOf_twice, List.map_map]
  congr 1
  · exact List.map_congr_left fun v _ => hr v
  · exact List.map_congr_left fun v _ => hr v
theorem viewL_len (h : Hp) : (viewL h).length = (found h).length := by simp [viewL]
theorem found_again {h : Hp} (hne : found h ≠ []) (b : Int) (s : List (Int × Int)) (c : Int) : found ⟨viewL h, 0, b, s, c⟩ = List.range (found h).length := by
  obtain ⟨k, hk, hkl, hc⟩ := found_first hne
  have hF := found_ok h
  have hl : 0 < (found h).length := List.length_pos_iff.2 hne
  have := foundF_again hF (h.calls.length - 0) 0 [k] rfl (by rw [← hc]; exact PsOk.come ⟨List.nodup_nil, fun _ hp => by cases hp⟩ _) (by rw [← hc]; rfl)
  unfold found
  have e : comeP (viewL h).length [] 0 = List.range [k].length := by
    rw [viewL_len]
    exact comeP_yes (p := 0) hl rfl
  show foundF (viewL h) (viewL h).length 0 (comeP (viewL h).length [] 0) = List.range (found h).length
  rw [e, viewL_len]
  exact this
theorem view_again {h : Hp} (hne : found h ≠ []) (b : Int) (s : List (Int × Int)) (c : Int) : viewL ⟨viewL h, 0, b, s, c⟩ = viewL h := by
  have e := found_again hne b s c
  unfold viewL at e ⊢
  simp only at e ⊢
  rw [e]
  refine List.ext_getElem (by simp) fun i h1 h2 => ?_
  have hi : i < (found h).length := by simpa using h2
  simp only [List.getElem_map, List.getElem_range]
  have : (List.map (fun p => viewC (found h) (h.calls.getD p Cl.none)) (found h)).getD i Cl.none = viewC (found h) (h.calls.getD (found h)[i] Cl.none) := by simp [hi]
  rw [this]
  exact viewC_again _ _
def SndIn (cs : List Cl) (ps : List Nat) (p : Nat) : Prop := 0 ≤ (cs.getD p Cl.none).sender → (cs.getD p Cl.none).sender < (cs.length : Int) → numOf ps (cs.getD p Cl.none).sender ≠ -1
theorem SndIn.more {cs : List Cl} {ps : List Nat} {p : Nat} (h : SndIn cs ps p) (t : List Nat) : SndIn cs (ps ++ t) p := fun h0 h1 => by
  rw [numOf_pre t (h h0 h1)]; exact h h0 h1
theorem come_in {n : Nat} {ps : List Nat} {p : Int} (h0 : 0 ≤ p) (h1 : p < (n : Int)) : numOf (comeP n ps p) p ≠ -1 := by
  obtain ⟨k, rfl⟩ := Int.eq_ofNat_of_zero_le h0
  by_cases e : numOf ps k = -1
  · rw [comeP_yes (by omega) e, numOf_snoc e, if_pos rfl]; omega
  · rw [comeP_in e]; exact e
theorem foundF_sender {cs : List Cl} : ∀ (k j : Nat) (ps : List Nat), k = cs.length - j → PsOk cs.length ps → (∀ i, (hi : i < ps.length) → i < j → SndIn cs ps ps[i]) → ∀ p ∈ foundF cs (cs.length - j) j ps, SndIn cs (foundF cs (cs.length - j) j ps) p
  | k, j, ps, hk, hps, hin => by
    by_cases hj : j < ps.length
    · have hp : ps[j] < cs.length := hps.lt _ (List.getElem_mem hj)
      have hjn : j < cs.length := by have := hps.len; omega
      rw [foundF_step hps hj hp]
      obtain ⟨t1, h1⟩ := comeC_pre cs.length ps cs[ps[j]]
      refine foundF_sender (k - 1) (j + 1) _ (by omega) (hps.comeC _) fun i hi hij => ?_
      have hip : i < ps.length := by omega
      have he : (comeC cs.length ps cs[ps[j]])[i] = ps[i] := by simp only [h1]; rw [List.getElem_append_left hip]
      rw [he]
      by_cases e : i = j
      · subst e
        obtain ⟨t2, h2⟩ := comeV_pre cs.length cs[ps[i]].temps (comeP cs.length ps cs[ps[i]].sender)
        obtain ⟨t3, h3⟩ := comeV_pre cs.length cs[ps[i]].stack (comeV cs.length (comeP cs.length ps cs[ps[i]].sender) cs[ps[i]].temps)
        have e4 : comeC cs.length ps cs[ps[i]] = comeP cs.length ps cs[ps[i]].sender ++ (t2 ++ t3) := by unfold comeC; rw [h3, h2, List.append_assoc]
        rw [e4]
        refine SndIn.more (fun h0 h1 => ?_) _
        have eg : cs.getD ps[i] Cl.none = cs[ps[i]] := by simp [hp]
        rw [eg] at h0 h1 ⊢
        exact come_in h0 h1
      · rw [h1]
        exact (hin i hip (by omega)).more _
    · rw [foundF_end _ hj]
      intro p hp
      obtain ⟨i, hi, rfl⟩ := List.getElem_of_mem hp
      exact hin i hi (by omega)
  termination_by k => k
  decreasing_by omega
theorem found_sender (h : Hp) : ∀ p ∈ found h, SndIn h.calls (found h) p :=
  foundF_sender (h.calls.length - 0) 0 _ rfl (PsOk.come ⟨List.nodup_nil, fun _ hp => by cases hp⟩ _) fun i _ hij => absurd hij (Nat.not_lt_zero _)
theorem walk_view {h : Hp} : ∀ (f : Nat) (a : Int) (l : List Nat), walkC h.calls f a = some l → (0 ≤ a → numOf (found h) a ≠ -1) → walkC (viewL h) f (numOf (found h) a) = some (l.map fun (p : Nat) => (numOf (found h) p).toNat)
  | 0, a, l, e, _ => by
    by_cases ha : a < 0
    · rw [walkC_neg ha] at e
      cases e
      rw [walkC_neg]
      · rfl
      · rw [numOf_none fun i hi => by omega]; omega
    · rw [walkC_zero (by omega)] at e; cases e
  | f + 1, a, l, e, hin => by
    by_cases ha : a < 0
    · rw [walkC_neg ha] at e
      cases e
      rw [walkC_neg]
      · rfl
      · rw [numOf_none fun i hi => by omega]; omega
    obtain ⟨n, rfl⟩ := Int.eq_ofNat_of_zero_le (show 0 ≤ a by omega)
    obtain ⟨i, hi, e1, e2⟩ := numOf_get (hin (by omega))
    have e2' : (found h)[i] = n := by omega
    have hn : n < h.calls.length := by rw [← e2']; exact (found_ok h).lt _ (List.getElem_mem hi)
    have hiv : i < (viewL h).length := by rw [viewL_len]; exact hi
    have hv : (viewL h)[i] = viewC (found h) h.calls[n] := by
      unfold viewL
      simp [e2', hn]
    cases hd : h.calls[n].dead
    · rw [walkC_step hn hd] at e
      cases ht : walkC h.calls f h.calls[n].sender with
      | none => rw [ht] at e; cases e
      | some t =>
        rw [ht] at e
        obtain rfl : n :: t = l := Option.some.inj e
        rw [e1, walkC_step hiv (by rw [hv]; exact hd), hv]
        show Option.map _ (walkC (viewL h) f (numOf (found h) h.calls[n].sender)) = _
        rw [walk_view f _ _ ht fun h0 => ?_]
        · simp [e1]
        · have hs : h.calls[n].sender < (h.calls.length : Int) := by
            by_cases hq : h.calls[n].sender < (h.calls.length : Int)
            · exact hq
            · obtain ⟨q, hq'⟩ := Int.eq_ofNat_of_zero_le h0
              rw [hq', walkC_past (by omega)] at ht
              cases ht
          have := found_sender h n (by rw [← e2']; exact List.getElem_mem hi)
          unfold SndIn at this
          rw [show h.calls.getD n Cl.none = h.calls[n] by simp [hn]] at this
          exact this h0 hs
    · rw [walkC_dead hn hd] at e; cases e
theorem walk_seq {cs : List Cl} : ∀ (f : Nat) (a : Int) (l : List Nat), walkC cs f a = some l → (∀ h : 0 < l.length, (l[0] : Int) = a) ∧ (l = [] → a < 0) ∧ ∀ i, (hi : i < l.length) → ∃ hb : l[i] < cs.length, (∀ h2 : i + 1 < l.length, cs[l[i]].sender = (l[i + 1] : Int)) ∧ (i + 1 = l.length → cs[l[i]].sender < 0)
  | 0, a, l, e => by
    by_cases ha : a < 0
    · rw [walkC_neg ha] at e
      cases e
      exact ⟨fun h => absurd h (Nat.not_lt_zero _), fun _ => ha, fun i hi => absurd hi (Nat.not_lt_zero _)⟩
    · rw [walkC_zero (by omega)] at e; cases e
  | f + 1, a, l, e => by
    by_cases ha : a < 0
    · rw [walkC_neg ha] at e
      cases e
      exact ⟨fun h => absurd h (Nat.not_lt_zero _), fun _ => ha, fun i hi => absurd hi (Nat.not_lt_zero _)⟩
    obtain ⟨n, rfl⟩ := Int.eq_ofNat_of_zero_le (show 0 ≤ a by omega)
    by_cases hn : n < cs.length
    · cases hd : cs[n].dead
      · rw [walkC_step hn hd] at e
        cases ht : walkC cs f cs[n].sender with
        | none => rw [ht] at e; cases e
        | some t =>
          rw [ht] at e
          obtain rfl : n :: t = l := Option.some.inj e
          obtain ⟨s1, s2, s3⟩ := walk_seq f _ _ ht
          refine ⟨fun _ => rfl, fun q => absurd q (by simp), fun i hi => ?_⟩
          cases i with
          | zero =>
            refine ⟨hn, fun h2 => ?_, fun h2 => ?_⟩
            · have h3 : 0 < t.length := by simp at h2; omega
              exact (s1 h3).symm
            · exact s2 (List.length_eq_zero_iff.1 (by rw [List.length_cons] at h2; omega))
          | succ i =>
            have hi' : i < t.length := by simp at hi; omega
            obtain ⟨b1, b2, b3⟩ := s3 i hi'
            exact ⟨b1, fun h2 => b2 (by simp at h2; omega), fun h2 => b3 (by simp at h2; omega)⟩
      · rw [walkC_dead hn hd] at e; cases e
    · rw [walkC_past hn] at e; cases e
end Go.Proofs.YtfpodljalccpnaaGreatDoor
