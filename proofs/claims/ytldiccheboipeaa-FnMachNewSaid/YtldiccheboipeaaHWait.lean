/-
  The document's model of HeapOk, the end of it: l11Wait.
-/
import Derived.Test.YtldiccheboipeaaHChain
namespace Go.Proofs.Ytldiccheboipeaa
open Go.RowKit

theorem walkC_in {cs : List Cl} : ∀ (f : Nat) (a : Int) (l : List Nat), walkC cs f a = some l → ∀ k ∈ l, ∃ h : k < cs.length, cs[k].dead = false
  | 0, a, l, h, k, hk => by
    simp only [walkC] at h
    split at h
    · cases h; cases hk
    · cases h
  | f + 1, a, l, h, k, hk => by
    simp only [walkC] at h
    split at h
    · cases h; cases hk
    · split at h
      · rename_i hn ha
        split at h
        · cases h
        · rename_i hd
          obtain ⟨l', hl', rfl⟩ := Option.map_eq_some_iff.1 h
          rcases List.mem_cons.1 hk with rfl | hk
          · exact ⟨ha, by simpa using hd⟩
          · exact walkC_in f _ l' hl' k hk
      · cases h

theorem chain_in {cs : List Cl} {now : Int} {k : Nat} (h : k ∈ chainOf cs now) : ∃ h : k < cs.length, cs[k].dead = false := by
  unfold chainOf at h
  cases hw : walkC cs cs.length now with
  | none => rw [hw] at h; cases h
  | some l => rw [hw] at h; exact walkC_in _ _ _ hw k h

/-- those behind the first of a chain have room for a value -/
def roomP (cs : List Cl) (ch : List Nat) : Bool := (ch.drop 1).all fun k => decide ((cs.getD k Cl.none).stack.length < 6)

theorem roomP_no {cs : List Cl} {ch : List Nat} {i : Nat} (h1 : 1 ≤ i) (hi : i < ch.length) (hk : ch[i] < cs.length) (h : ¬ cs[ch[i]].stack.length < 6) : roomP cs ch = false := by
  unfold roomP
  rw [List.all_eq_false]
  refine ⟨ch[i], ?_, by simp [hk, h]⟩
  have : ch[i] = (ch.drop 1)[i - 1]'(by simp; omega) := by
    rw [List.getElem_drop]
    congr 1
    omega
  rw [this]
  exact List.getElem_mem _
theorem roomP_yes {cs : List Cl} {ch : List Nat} (hin : ∀ k ∈ ch, k < cs.length) (h : ∀ i, (hi : i < ch.length) → 1 ≤ i → ∀ hk : ch[i] < cs.length, cs[ch[i]].stack.length < 6) : roomP cs ch = true := by
  unfold roomP
  rw [List.all_eq_true]
  intro k hk
  obtain ⟨j, hj, rfl⟩ := List.getElem_of_mem hk
  have hj' : j + 1 < ch.length := by simp at hj; omega
  have e : (ch.drop 1)[j] = ch[j + 1] := by simp
  rw [e]
  have hk' := hin _ (List.getElem_mem hj')
  have := h (j + 1) hj' (by omega) hk'
  simp [hk', this]

set_option maxRecDepth 100000 in
set_option maxHeartbeats 4000000 in
theorem l11Wait_any (vc vs : Value) (h : Hp) (w : World) (hh : HeapAt w vc vs h) (hn : h.calls.length ≤ 900000) :
    Calls Try.prog 210 #[.agg (hpCells vc vs h)] w fun e w' => e = .returned (.bool (roomP h.calls (chainOf h.calls h.now))) ∧ Below w.heap.size w w' := by
  obtain ⟨ac, kc, hvc⟩ := hh.c.shape
  obtain ⟨aD, kD, hvs⟩ := hh.s.shape
  subst hvc hvs
  have hA := (Below.refl w.heap.size w).alloc (Nat.le_refl _) (.cells (hpCells (.slice ac h.calls.length kc) (.slice aD h.said.length kD) h) 39)
  have b0 : (w.alloc (.cells (hpCells (.slice ac h.calls.length kc) (.slice aD h.said.length kD) h) 39)).cell? ⟨w.heap.size, 0, none⟩ = some (.slice ac h.calls.length kc) := by simp [go_sem, hpCells]
  unfold hpCells at hA b0 ⊢
  go_enter Try.func210, Try.ntmps210
  go_wp2_with fail
  generalize w.alloc (.cells #[.slice ac h.calls.length kc, .int .i64 h.now, .int .i64 h.born, .slice aD h.said.length kD, .int .i64 h.code] 39) = W0 at *
  have zA := hA.size
  refine (l11Chain_any _ _ h _ (hh.below hA) hn).mono ?_
  rintro e w1 ⟨v, rfl, hrow, hb1⟩
  have hB1 : Below w.heap.size w w1 := hA.trans (hb1.mono zA)
  have c0 := cell_below hb1 b0
  have hin : Hid (∀ k ∈ chainOf h.calls h.now, k < h.calls.length) := fun k hk => (chain_in hk).1
  clear hA b0 hb1
  obtain ⟨ch, hch⟩ : ∃ ch, chainOf h.calls h.now = ch := ⟨_, rfl⟩
  rw [hch] at hrow hin
  have HCH : Hid (chainOf h.calls h.now = ch) := hch
  clear hch
  obtain ⟨av, kv, hv, hlv⟩ := hrow.slice
  rw [nums_len] at hv hlv
  subst hv
  unfold maxLen at hlv
  have z1 := hB1.size
  go_wp2_with fail
  go_loopg [4] ch.length (fun d i wr => ∃ k : Nat, 1 ≤ k ∧ k ≤ ch.length + 1 ∧ d = ch.length + 1 - k ∧ i = .int .i64 k ∧ Below w1.heap.size w1 wr ∧ ∀ j, (hj : j < ch.length) → 1 ≤ j → j < k → ∀ hk : ch[j] < h.calls.length, h.calls[ch[j]].stack.length < 6)
  case atStart => exact ⟨1, Nat.le_refl _, by omega, by omega, rfl, Below.refl _ _, fun j _ h1 h2 => absurd h2 (by omega)⟩
  case round =>
    obtain ⟨k, hk1, hk, rfl, rfl, hb, hall⟩ := hrel
    have H : Hid (∀ j, (hj : j < ch.length) → 1 ≤ j → j < k → ∀ hk : ch[j] < h.calls.length, h.calls[ch[j]].stack.length < 6) := hall
    clear hall
    by_cases hlt : k < ch.length
    · have hkz : (k : Int) < (ch.length : Int) := by omega
      have hik := hin.out _ (List.getElem_mem hlt)
      have hkn : k < (nums ch).length := by rw [nums_len]; exact hlt
      obtain ⟨g1, o1, q1, e1, _⟩ := hrow.form (by omega)
      rw [nums_len] at e1
      cases e1
      have rc := ((hrow.below hb).cell hkn).1
      have en : (nums ch)[k] = ((ch[k] : Nat) : Int) := by simp [nums]
      rw [en] at rc
      have cr := cell_below hb c0
      obtain ⟨acx, kcx, hx, _, hcl⟩ := hh.c
      cases hx
      obtain ⟨b, o, vt, vs, rfl, hc⟩ := hcl _ hik
      have hcr := (hc.below hB1).below hb
      have d3 := hcr.c3
      obtain ⟨a3, k3, h3⟩ := hcr.s.shape
      rw [h3] at d3
      have hikz : ((ch[k] : Nat) : Int) < (h.calls.length : Int) := by omega
      have HNO : Hid (¬ h.calls[ch[k]].stack.length < 6 → roomP h.calls ch = false) := fun hno => roomP_no hk1 hlt hik hno
      have HYES : Hid (h.calls[ch[k]].stack.length < 6 → ∀ j, (hj : j < ch.length) → 1 ≤ j → j < k + 1 → ∀ hk : ch[j] < h.calls.length, h.calls[ch[j]].stack.length < 6) := fun hy j hj hj1 hjk hk' => by
        by_cases e : j = k
        · subst e; exact hy
        · exact H.out j hj hj1 (by omega) hk'
      clear hcl hc hcr en h3
      generalize h.calls[ch[k]].stack.length = sl at *
      generalize ch[k] = ck at *
      by_cases h6 : sl < 6
      · have h6z : (sl : Int) < 6 := by omega
        go_wp2_with fail
        go_region
        all_goals
          go_wp2
          go_roundg (ch.length + 1 - (k + 1))
          case measure => omega
          case rel => exact ⟨k + 1, by omega, by omega, rfl, by go_num, hb.drew, HYES.out h6⟩
      · have h6z : (6 : Int) ≤ (sl : Int) := by omega
        go_wp2_with fail
        go_region
        all_goals
          go_wp2
          go_ret
          exact ⟨ret_bool (by rw [HCH.out]; exact (HNO.out h6).symm), hB1.trans (hb.drew.mono z1)⟩
    · have hkz : (ch.length : Int) ≤ (k : Int) := by omega
      go_wp2
      go_ret
      exact ⟨ret_bool (by rw [HCH.out]; exact (roomP_yes hin.out (fun i hi h1 hk' => H.out i hi h1 (by omega) hk')).symm), hB1.trans (hb.mono z1)⟩

end Go.Proofs.Ytldiccheboipeaa
