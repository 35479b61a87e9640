/-
  Plain facts of the heap that a program begins with: it is ok, one deep, and seen as it is.
-/
import Derived.Test.YtldiccheboipeaaHNew
import Derived.Test.YtldiccheboipeaaHImpl6
import Derived.Test.YtldiccheboipeaaVSpec2
namespace Go.Proofs.Ytldiccheboipeaa
open Go.RowKit

theorem newHp_yes {ms : List (Int × Int × List (Int × Int))} (h : progOk ms = true) : newHp ms = ⟨[⟨0, 0, List.replicate (temps0 ms) (0, 0), [], -1, false⟩], 0, 1, [], 0⟩ := if_pos h
theorem newHp_no {ms : List (Int × Int × List (Int × Int))} (h : progOk ms = false) : newHp ms = ⟨[], 0, 0, [], 0⟩ := if_neg (by simp [h])

theorem vals_zero (n : Int) (k : Nat) : valsOk n (List.replicate k (0, 0)) = true := by
  refine valsOk_yes fun i hi => ?_
  simp [valOk]

theorem comeV_zero (n : Nat) (ps : List Nat) : ∀ k : Nat, comeV n ps (List.replicate k (0, 0)) = ps
  | 0 => rfl
  | k + 1 => by
    rw [List.replicate_succ]
    exact comeV_zero n ps k

theorem newHp_ok {ms : List (Int × Int × List (Int × Int))} (h : progOk ms = true) : heapOk ms (newHp ms) = true := by
  obtain ⟨hl, h0, h4, ht, _⟩ := first_ok h
  have hg : ms.getD 0 (0, 0, []) = ms[0] := by simp [hl]
  rw [newHp_yes h]
  have hv := vals_zero 1 (temps0 ms)
  have hz : valsOk 1 [] = true := rfl
  have hz2 : valsOk (ms.length : Int) [] = true := rfl
  have hm : inR 0 0 ((ms.length : Int) - 1) = true := inR_true.2 ⟨by omega, by omega⟩
  have hpc : inR 0 0 (ms[0].2.2.length : Int) = true := inR_true.2 ⟨by omega, by omega⟩
  have hc : clOk ms 1 ⟨0, 0, List.replicate (temps0 ms) (0, 0), [], -1, false⟩ = true := by
    have a2 : inR (-1) (-1) 0 = true := by decide
    have hg2 : ms[0]? = some ms[0] := List.getElem?_eq_getElem hl
    simp [clOk, hg2, ht, hm, hpc, hv, hz, a2]
  have he : endOk ⟨[⟨0, 0, List.replicate (temps0 ms) (0, 0), [], -1, false⟩], 0, 1, [], 0⟩ = true := by
    simp [endOk, chainOf, walkC, liveN, roomP]
  have hd : headOk ms ⟨[⟨0, 0, List.replicate (temps0 ms) (0, 0), [], -1, false⟩], 0, 1, [], 0⟩ = true := by
    have a1 : inR 0 (-1) (1 - 1) = true := by decide
    have a2 : inR 1 1 30 = true := by decide
    have a3 : inR 0 0 3 = true := by decide
    simp [headOk, h, hz2, a2, a3]
    exact a1
  simp only [heapOk, hd, he, List.all_cons, List.all_nil, List.length_cons, List.length_nil, Nat.zero_add, hc, Bool.and_self]

theorem newHp_deep {ms : List (Int × Int × List (Int × Int))} (h : progOk ms = true) : deepOf (newHp ms).calls (newHp ms).now = 1 := by
  rw [newHp_yes h]
  simp [deepOf, deepC]

theorem newHp_found {ms : List (Int × Int × List (Int × Int))} (h : progOk ms = true) : found (newHp ms) = [0] := by
  rw [newHp_yes h]
  have h1 : comeP 1 [] 0 = [0] := by decide
  have h2 : comeP 1 [0] (-1) = [0] := by decide
  show foundF _ 1 0 (comeP 1 [] 0) = [0]
  rw [h1]
  simp only [foundF, List.length_cons, List.length_nil, Nat.zero_add, Nat.lt_add_one, dif_pos, List.getElem_cons_zero, List.getD_cons_zero]
  show comeV 1 (comeV 1 (comeP 1 [0] (-1)) _) [] = [0]
  rw [h2, comeV_zero, comeV_nil]

theorem newHp_view {ms : List (Int × Int × List (Int × Int))} (h : progOk ms = true) : viewL (newHp ms) = (newHp ms).calls := by
  unfold viewL
  rw [newHp_found h, newHp_yes h]
  have h1 : numOf [0] (-1) = -1 := by decide
  simp [viewC, h1, ren]

theorem newHp_short (ms : List (Int × Int × List (Int × Int))) : (newHp ms).short ∧ (newHp ms).calls.length ≤ 1 := by
  by_cases h : progOk ms = true
  · obtain ⟨hl, h0, h4, ht, h5⟩ := first_ok h
    rw [newHp_yes h]
    refine ⟨⟨by simp, fun i hi => ?_⟩, by simp⟩
    have : i = 0 := by simp at hi; omega
    subst this
    simp
    omega
  · rw [newHp_no (by simpa using h)]
    exact ⟨⟨by decide, fun i hi => absurd hi (by simp)⟩, by decide⟩

end Go.Proofs.Ytldiccheboipeaa
