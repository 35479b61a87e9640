/-
  Plain facts of the machine that a program begins with: it is ok, all that it tells of is there, and its calls as things of their own are the heap that the program begins with.
-/
import Derived.Test.YtldiccheboipeaaMOk6
import Derived.Test.YtldiccheboipeaaMTold
import Derived.Test.YtldiccheboipeaaNewFacts
namespace Go.Proofs.Ytldiccheboipeaa
open Go.RowKit

theorem ordTo_mem {n k : Nat} (hk : k < n) : (k : Int) ∈ ordTo n n := by
  unfold ordTo
  rw [List.mem_map]
  by_cases h : k = 0
  · exact ⟨n - 1, List.mem_range.2 (by omega), by rw [show n - 1 + 1 = n by omega, Nat.mod_self]; subst h; rfl⟩
  · exact ⟨k - 1, List.mem_range.2 (by omega), by rw [show k - 1 + 1 = k by omega, Nat.mod_eq_of_lt hk]⟩

theorem newPages_length (n t : Nat) : (newPages n t).length = n := by simp [newPages]
theorem newPages_at {n t i : Nat} (h : i < (newPages n t).length) : (newPages n t)[i] = ⟨-1, if i = 0 then [⟨0, 0, -1, List.replicate t (0, 0), []⟩] else []⟩ := by simp [newPages]
theorem newFrames_to (n t : Nat) : ∀ k, k ≤ n → framesTo (newPages n t) k = if k = 0 then 0 else 1
  | 0, _ => framesTo_zero _
  | k + 1, h => by
    rw [framesTo_succ (by rw [newPages_length]; omega), newFrames_to n t k (by omega), newPages_at]
    by_cases e : k = 0
    · subst e; rfl
    · simp [e]

theorem newMc_pg0 {n t : Nat} {c : Int} (hn : 1 ≤ n) : pgAt (newMc n t c) 0 = ⟨-1, [⟨0, 0, -1, List.replicate t (0, 0), []⟩]⟩ := by
  have := pgAt_at (m := newMc n t c) (k := 0) (by show 0 < (newPages n t).length; rw [newPages_length]; omega)
  rw [show ((0 : Nat) : Int) = 0 from rfl] at this
  rw [this]
  exact newPages_at (by rw [newPages_length]; omega)
theorem newMc_pgk {n t k : Nat} {c : Int} (hk : k < n) (h0 : k ≠ 0) : pgAt (newMc n t c) (k : Int) = ⟨-1, []⟩ := by
  rw [pgAt_at (show k < (newMc n t c).pages.length by show k < (newPages n t).length; rw [newPages_length]; omega)]
  show (newPages n t)[k]'_ = _
  rw [newPages_at]
  simp [h0]
theorem newMc_pg0things {n t : Nat} {c : Int} (hn : 1 ≤ n) : pgThings (newMc n t c) 0 1 = [⟨0, 0, List.replicate t (0, 0), [], -1, false⟩] := by
  have hp0 := newMc_pg0 (t := t) (c := c) hn
  unfold pgThings
  have hf0 : frAt (newMc n t c) 0 0 = ⟨0, 0, -1, List.replicate t (0, 0), []⟩ := by unfold frAt; rw [hp0]; rfl
  have hs0 : sndF (newMc n t c) 0 0 = -1 := by
    unfold sndF
    rw [show ((0 : Nat) : Int) = 0 from rfl, hp0]
    rfl
  simp only [List.range_one, List.map_cons, List.map_nil]
  rw [show ((0 : Nat) : Int) = 0 from rfl, hf0]
  unfold thingFr
  rw [hs0]
  simp [renW]
theorem newMc_frs {n t : Nat} {c : Int} : ∀ k, k ≤ n → frThings (newMc n t c) k = if k = 0 then [] else [⟨0, 0, List.replicate t (0, 0), [], -1, false⟩]
  | 0, _ => rfl
  | k + 1, h => by
    rw [frThings_succ, newMc_frs k (by omega)]
    by_cases e : k = 0
    · subst e
      rw [show ((0 : Nat) : Int) = 0 from rfl, newMc_pg0 (by omega)]
      show [] ++ pgThings (newMc n t c) 0 1 = _
      rw [newMc_pg0things (by omega)]
      rfl
    · rw [newMc_pgk (by omega) e]
      simp [e, pgThings]

theorem newMc_things {n t : Nat} {c : Int} (hn : 1 ≤ n) : thingsM (newMc n t c) = ⟨[⟨0, 0, List.replicate t (0, 0), [], -1, false⟩], 0, 0, [], 0⟩ := by
  unfold thingsM
  have hln : (newMc n t c).pages.length = n := newPages_length n t
  rw [hln, newMc_frs n (Nat.le_refl _), if_neg (by omega)]
  have hnow : plNow (newMc n t c) = 0 := by
    unfold plNow
    show (if inR 0 0 (((newMc n t c).pages.length : Int) - 1) = true ∧ (pgAt (newMc n t c) 0).frames.length ≠ 0 then plFr (newMc n t c) 0 (((pgAt (newMc n t c) 0).frames.length : Int) - 1) else -1) = 0
    rw [hln, newMc_pg0 hn, if_pos ⟨inR_true.2 ⟨Int.le_refl _, by omega⟩, by simp⟩]
    rfl
  rw [hnow]
  rfl

theorem valsTell_zero (n k : Nat) : ValsTell n (List.replicate k (0, 0)) := fun _ _ h => by simp at h
theorem valsTell_nil (n : Nat) : ValsTell n [] := fun _ hq => absurd hq (Nat.not_lt_zero _)

theorem newPages_frame {n t i k : Nat} (hi : i < (newPages n t).length) (hk : k < (newPages n t)[i].frames.length) : i = 0 ∧ k = 0 ∧ (newPages n t)[i].frames[k] = ⟨0, 0, -1, List.replicate t (0, 0), []⟩ := by
  have e := newPages_at hi
  generalize (newPages n t)[i] = P at *
  subst e
  by_cases h0 : i = 0
  · subst h0
    have : k = 0 := by simp at hk; omega
    subst this
    simp
  · simp [h0] at hk

theorem newMc_tells (n t : Nat) (c : Int) : Tells (newMc n t c) :=
  ⟨fun i k hi hk => by
    obtain ⟨_, _, e⟩ := newPages_frame (n := n) (t := t) hi hk
    show (((newPages n t)[i].frames[k].twin == -1 || _) = true) ∧ ValsTell _ (newPages n t)[i].frames[k].temps ∧ ValsTell _ (newPages n t)[i].frames[k].stack
    rw [e]
    exact ⟨rfl, valsTell_zero _ _, valsTell_nil _⟩,
  fun i hi => by
    have e := newPages_at (n := n) (t := t) hi
    show ((newPages n t)[i].base == -1 || _) = true
    rw [e]
    rfl,
  fun j hj => absurd hj (Nat.not_lt_zero _)⟩

theorem newMc_head {ms : List (Int × Int × List (Int × Int))} {n t : Nat} {c : Int} (h : progOk ms = true) (hr : roomsB (n : Int) c = true) : headM ms (newMc n t c) = true := by
  have hn := roomsB_true hr
  have hln : (newMc n t c).pages.length = n := newPages_length n t
  have ho : orderB (newMc n t c) = true := by
    unfold orderB
    rw [hln]
    simp only [Bool.and_eq_true, List.all_eq_true, List.mem_range, decide_eq_true_iff]
    exact ⟨ordTo_length n n, fun k hk => ordTo_mem hk⟩
  have hnw : nowB (newMc n t c) = true := by
    unfold nowB
    show ((0 : Int) == -1 || ((0 : Int) == (ordTo n n).getD ((ordTo n n).length - 1) 0 && decide (0 < (pgAt (newMc n t c) 0).frames.length))) = true
    rw [newMc_pg0 (by omega), ordTo_length]
    have : (ordTo n n).getD (n - 1) 0 = 0 := by
      unfold ordTo
      have h1 : n - 1 < n := by omega
      simp [List.getD_eq_getElem?_getD, h1]
      rw [show ((n - 1 : Nat) : Int) + 1 = (n : Int) by omega]
      exact Int.emod_self
    rw [this]
    simp
  have hcl : callsN (newMc n t c) = 1 := by
    unfold callsN
    show framesTo (newPages n t) (newPages n t).length + _ = _
    rw [newPages_length, newFrames_to n t n (Nat.le_refl _), if_neg (by omega)]
    rfl
  unfold headM
  rw [h, hln, show (newMc n t c).cells = c from rfl, hr, ho, hnw, hcl]
  have h1 : inR 1 1 30 = true := by decide
  have h2 : valsOk (ms.length : Int) [] = true := rfl
  show (true && (true && (true && (true && (inR 1 1 30 && (decide (((1 : Nat) : Int) ≤ 1) && (valsOk ms.length [] && (inR 0 0 3 && (((0 : Int) == 1) == ((0 : Int) == -1)))))))))) = true
  rw [h1, h2]
  decide

theorem newMc_page {ms : List (Int × Int × List (Int × Int))} {n : Nat} {c : Int} (h : progOk ms = true) (hr : roomsB (n : Int) c = true) (k : Nat) (hk : k < (newMc n (temps0 ms) c).pages.length) : pageB ms (newMc n (temps0 ms) c) k (newMc n (temps0 ms) c).pages[k] = true := by
  obtain ⟨hl, h0, h4, ht, _⟩ := first_ok h
  have hg : ms.getD 0 (0, 0, []) = ms[0] := by simp [hl]
  have hn := roomsB_true hr
  have e : (newMc n (temps0 ms) c).pages[k] = ⟨-1, if k = 0 then [⟨0, 0, -1, List.replicate (temps0 ms) (0, 0), []⟩] else []⟩ := newPages_at (n := n) (t := temps0 ms) hk
  rw [e]
  have hb : ∀ fs, baseB (newMc n (temps0 ms) c) ⟨-1, fs⟩ = true := fun fs => rfl
  by_cases hk0 : k = 0
  · subst hk0
    unfold pageB
    rw [if_pos rfl, hb]
    have hc : clOk ms 0 ⟨0, 0, List.replicate (temps0 ms) (0, 0), [], -1, false⟩ = true := by
      have a2 : inR (-1) (-1) (-1) = true := by decide
      have hg2 : ms[0]? = some ms[0] := List.getElem?_eq_getElem hl
      have hv := vals_zero 0 (temps0 ms)
      have hz : valsOk 0 [] = true := rfl
      have hm : inR 0 0 ((ms.length : Int) - 1) = true := inR_true.2 ⟨by omega, by omega⟩
      have hpc : inR 0 0 (ms[0].2.2.length : Int) = true := inR_true.2 ⟨by omega, by omega⟩
      simp [clOk, hg2, ht, hm, hpc, hv, hz, a2]
    have hf : frameB ms (newMc n (temps0 ms) c) 0 0 ⟨0, 0, -1, List.replicate (temps0 ms) (0, 0), []⟩ = true := by
      unfold frameB frCl
      show (clOk ms (0 : Nat) ⟨0, 0, List.replicate (temps0 ms) (0, 0), [], -1, false⟩ && _) = true
      rw [show clOk ms ((0 : Nat) : Nat) ⟨0, 0, List.replicate (temps0 ms) (0, 0), [], -1, false⟩ = true from hc]
      rfl
    have hcs : (cellsTo [(⟨0, 0, -1, List.replicate (temps0 ms) (0, 0), []⟩ : Fr)] 1 : Int) ≤ c := by
      simp [cellsTo]
      omega
    simp only [List.length_cons, List.length_nil, Nat.zero_add, List.range_one, List.all_cons, List.all_nil, List.getD_cons_zero, hf, Bool.and_true, Bool.true_and]
    show decide ((cellsTo [(⟨0, 0, -1, List.replicate (temps0 ms) (0, 0), []⟩ : Fr)] 1 : Int) ≤ c) = true
    exact decide_eq_true hcs
  · unfold pageB
    rw [if_neg hk0, hb]
    simp only [List.length_nil, List.range_zero, List.all_nil, Bool.and_true, Bool.true_and]
    show decide ((cellsTo [] 0 : Int) ≤ c) = true
    exact decide_eq_true (by show (0 : Int) ≤ c; omega)

theorem newMc_ok {ms : List (Int × Int × List (Int × Int))} {n : Nat} {c : Int} (h : progOk ms = true) (hr : roomsB (n : Int) c = true) : machB ms (newMc n (temps0 ms) c) = true := by
  rw [machB_end (newMc_head h hr) (fun k hk => newMc_page h hr k hk) fun k hk => absurd hk (Nat.not_lt_zero _)]
  rw [newMc_things (by have := roomsB_true hr; omega)]
  have h1 : deepOf [(⟨0, 0, List.replicate (temps0 ms) (0, 0), [], -1, false⟩ : Cl)] 0 = 1 := by simp [deepOf, deepC]
  have h2 : liveN [(⟨0, 0, List.replicate (temps0 ms) (0, 0), [], -1, false⟩ : Cl)] = 1 := by simp [liveN]
  have h3 : freeP [(⟨0, 0, List.replicate (temps0 ms) (0, 0), [], -1, false⟩ : Cl)] 0 := fun i hi hne => by
    have : i = 0 := by simp at hi; omega
    subst this
    exact absurd rfl hne
  unfold waitP
  rw [h1, h2]
  simp [h3]

theorem newMc_told {ms : List (Int × Int × List (Int × Int))} {n : Nat} {c : Int} (h : progOk ms = true) (hr : roomsB (n : Int) c = true) : Told (newMc n (temps0 ms) c) :=
  told_of h (fun k hk => newMc_page h hr k hk) fun _ hk => absurd hk (Nat.not_lt_zero _)

theorem newMc_view {ms : List (Int × Int × List (Int × Int))} {n : Nat} {c : Int} (h : progOk ms = true) (hn : 1 ≤ n) : viewL (thingsM (newMc n (temps0 ms) c)) = viewL (newHp ms) := by
  rw [newMc_things hn, newHp_yes h]
  rfl

theorem newMc_few (n t : Nat) (c : Int) : ∀ i, (hi : i < (newMc n t c).pages.length) → (newMc n t c).pages[i].frames.length ≤ 1 ∧ ∀ j, (hj : j < (newMc n t c).pages[i].frames.length) → (newMc n t c).pages[i].frames[j].temps.length ≤ t ∧ (newMc n t c).pages[i].frames[j].stack.length = 0 := by
  intro i hi
  have e : (newMc n t c).pages[i] = ⟨-1, if i = 0 then [⟨0, 0, -1, List.replicate t (0, 0), []⟩] else []⟩ := newPages_at (n := n) (t := t) hi
  generalize (newMc n t c).pages[i] = P at e ⊢
  subst e
  by_cases h0 : i = 0
  · subst h0
    refine ⟨by simp, fun j hj => ?_⟩
    have : j = 0 := by simp at hj; omega
    subst this
    exact ⟨by simp, rfl⟩
  · simp [h0]

end Go.Proofs.Ytldiccheboipeaa
