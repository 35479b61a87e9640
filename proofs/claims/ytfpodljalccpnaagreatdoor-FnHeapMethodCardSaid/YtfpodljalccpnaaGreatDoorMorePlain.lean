/-
  A method more, that nobody calls, changes nothing of what is done.
-/
import Derived.Test.YtfpodljalccpnaaGreatDoorStepT

namespace Go.Proofs.YtfpodljalccpnaaGreatDoor
open Go.RowKit
theorem getD_more {ms : Ms} {k : Nat} (hk : k < ms.length) (e d : Int × Int × List (Int × Int)) : (ms ++ [e]).getD k d = ms.getD k d := by
  rw [List.getD_eq_getElem?_getD, List.getD_eq_getElem?_getD, List.getElem?_append_left hk]
theorem opOk_more {nm no : Nat} {t k a : Int} (h : opOk nm no t k a = true) : opOk (nm + 1) no t k a = true := by
  by_cases hk : k = 9
  · subst hk
    have h' : inR a 0 ((nm : Int) - 1) = true := h
    show inR a 0 (((nm + 1 : Nat) : Int) - 1) = true
    rw [inR_true] at *
    omega
  · have e : opOk (nm + 1) no t k a = opOk nm no t k a := by
      unfold opOk
      simp only [hk, if_false]
    rw [e]
    exact h
theorem methOk_more {nm : Nat} {m : Int × Int × List (Int × Int)} (h : methOk nm m = true) : methOk (nm + 1) m = true := by
  unfold methOk at *
  simp only [Bool.and_eq_true] at *
  refine ⟨h.1, ?_⟩
  have h2 := h.2
  unfold opsOk at *
  rw [List.all_eq_true] at *
  exact fun op ho => opOk_more (h2 op ho)
theorem progOk_more {ms : Ms} (h : progOk ms = true) (hl : ms.length < 4) : progOk (ms ++ [(0, 0, [])]) = true := by
  unfold progOk at *
  simp only [Bool.and_eq_true, inR_true] at *
  obtain ⟨⟨h1, h2⟩, h3⟩ := h
  refine ⟨⟨?_, ?_⟩, ?_⟩
  · simp only [List.length_append, List.length_cons, List.length_nil]
    omega
  · rw [getD_more (by omega)]
    exact h2
  · rw [List.all_eq_true] at *
    intro m hm
    rw [List.length_append, List.length_cons, List.length_nil]
    rcases List.mem_append.1 hm with hm | hm
    · exact methOk_more (h3 m hm)
    · obtain rfl : m = (0, 0, []) := by simpa using hm
      rfl
theorem op_call {ms : Ms} (h : progOk ms = true) {m pc : Nat} (hk : ((ms.getD m (0, 0, [])).2.2.getD pc (0, 0)).1 = 9) : 0 ≤ ((ms.getD m (0, 0, [])).2.2.getD pc (0, 0)).2 ∧ ((ms.getD m (0, 0, [])).2.2.getD pc (0, 0)).2 < (ms.length : Int) := by
  unfold progOk at h
  simp only [Bool.and_eq_true] at h
  by_cases hm : m < ms.length
  · have ha := List.all_eq_true.1 h.2 _ (List.getElem_mem hm)
    rw [show ms.getD m (0, 0, []) = ms[m] by simp [hm]] at hk ⊢
    by_cases hp : pc < ms[m].2.2.length
    · rw [show ms[m].2.2.getD pc (0, 0) = ms[m].2.2[pc] by simp [hp]] at hk ⊢
      unfold methOk at ha
      simp only [Bool.and_eq_true] at ha
      have hb := List.all_eq_true.1 ha.2 _ (List.getElem_mem hp)
      rw [hk] at hb
      have hb' : inR ms[m].2.2[pc].2 0 ((ms.length : Int) - 1) = true := hb
      rw [inR_true] at hb'
      omega
    · rw [show ms[m].2.2.getD pc (0, 0) = (0, 0) by simp [Nat.le_of_not_lt hp]] at hk
      simp at hk
  · rw [show ms.getD m (0, 0, []) = (0, 0, []) by simp [Nat.le_of_not_lt hm]] at hk
    simp at hk
theorem takes_more {ms : Ms} {k a : Int} (e : Int × Int × List (Int × Int)) (h : k = 9 → 0 ≤ a ∧ a < (ms.length : Int)) : takesOf (ms ++ [e]) k a = takesOf ms k a := by
  unfold takesOf
  split
  · rename_i hk
    have ha := h hk
    rw [inR_true.2 ⟨ha.1, by rw [List.length_append, List.length_cons, List.length_nil]; omega⟩, inR_true.2 ⟨ha.1, by omega⟩, getD_more (by omega)]
  · rfl
theorem do_more {ms : Ms} (e : Int × Int × List (Int × Int)) (h : Hp) (k a : Int) (args : List (Int × Int)) (ha : k = 9 → 0 ≤ a ∧ a < (ms.length : Int)) : doH (ms ++ [e]) h k a args = doH ms h k a args := by
  unfold doH
  by_cases hk : k = 9
  · subst hk
    have := ha rfl
    simp only [callH]
    rw [getD_more (by omega)]
  · simp only [hk, if_false]
theorem step_more {ms : Ms} {h : Hp} (g : Good ms h) (hc : h.code = 0) (e : Int × Int × List (Int × Int)) : stepH (ms ++ [e]) h = stepH ms h := by
  have hn0 : 0 ≤ h.now := by
    by_cases h' : h.now < 0
    · have := g.head.fin.2 h'
      omega
    · omega
  have hnl := g.head.now.2
  have hjl : h.now.toNat < h.calls.length := by omega
  have hcl := g.cl _ hjl
  have hcur : curC h = h.calls[h.now.toNat] := by unfold curC; simp [hjl]
  have hml : (curC h).m.toNat < ms.length := by rw [hcur]; have := hcl.m; omega
  have hop : opNext (ms ++ [e]) (curC h) = opNext ms (curC h) := by unfold opNext; rw [getD_more hml]
  have h9 : (opNext ms (curC h)).1 = 9 → 0 ≤ (opNext ms (curC h)).2 ∧ (opNext ms (curC h)).2 < (ms.length : Int) := fun hk => op_call g.head.p hk
  unfold stepH
  simp only [hop, takes_more e h9, getD_more hml, do_more e _ _ _ _ h9]
theorem Good.more {ms : Ms} {h : Hp} (g : Good ms h) (hl : ms.length < 4) : Good (ms ++ [(0, 0, [])]) h := by
  have hlen : ((ms ++ [((0 : Int), (0 : Int), ([] : List (Int × Int)))]).length : Int) = (ms.length : Int) + 1 := by simp
  refine ⟨⟨progOk_more g.head.p hl, g.head.now, g.head.born, g.head.few, g.head.code, ?_, g.head.fin⟩, fun i hi => ?_, g.w⟩
  · have hs := g.head.said
    unfold valsOk at *
    rw [List.all_eq_true] at *
    intro v hv
    have := hs v hv
    rw [hlen]
    by_cases h2 : v.1 = 2
    · have e1 : ∀ n : Int, valOk n v.1 v.2 = inR v.2 0 (n - 1) := fun n => by
        unfold valOk
        simp [h2]
      rw [e1, inR_true] at *
      omega
    · have e1 : valOk ((ms.length : Int) + 1) v.1 v.2 = valOk (ms.length : Int) v.1 v.2 := by
        unfold valOk
        simp only [h2, if_false]
      rw [e1]
      exact this
  · have c := g.cl i hi
    have hm := c.m
    refine ⟨by rw [hlen]; omega, ?_, ?_, c.s, c.sd, c.vt, c.vs, c.dd⟩
    · rw [getD_more (by omega)]
      exact c.pc
    · rw [getD_more (by omega)]
      exact c.t
theorem run_more {ms : Ms} (e : Int × Int × List (Int × Int)) : ∀ (n : Nat) {h : Hp}, Good ms h → runH (ms ++ [e]) n h = runH ms n h
  | 0, _, _ => rfl
  | n + 1, h, g => by
    unfold runH
    split
    · rename_i hc
      rw [step_more g hc e]
      exact run_more e n (Good.run 1 h g |> fun q => by
        have e1 : runH ms 1 h = stepH ms h := by unfold runH; rw [if_pos hc]; rfl
        rw [e1] at q
        exact q)
    · rfl
end Go.Proofs.YtfpodljalccpnaaGreatDoor
