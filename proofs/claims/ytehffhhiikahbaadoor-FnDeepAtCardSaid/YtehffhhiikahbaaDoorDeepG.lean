/-
  The document's model of how many values there are: l2Deep and l2Next, walked; and what their answers are without memory.
-/
import Derived.Test.YtehffhhiikahbaaDoorDeepF
import Derived.Test.YtehffhhiikahbaaDoorSpecOk2
namespace Go.Proofs.YtehffhhiikahbaaDoor
open Go.RowKit

/-- how many values are behind, -1, if that cannot be -/
def deepP (ms : List (Int × Int × List (Int × Int))) (op : Int × Int) (d : Int) : Int := if d < (takesOf ms op.1 op.2).1 ∨ 6 < behind ms op d then -1 else behind ms op d

set_option maxRecDepth 100000 in
set_option maxHeartbeats 1000000 in
theorem l2Deep_any (vp : Value) (ms : List (Int × Int × List (Int × Int))) (k a d D : Int) (w : World) (hM : MethsAt w vp ms) (ht0 : 0 ≤ (takesOf ms k a).1) (ht2 : (takesOf ms k a).1 ≤ 2) (hl0 : 0 ≤ (takesOf ms k a).2) (hl1 : (takesOf ms k a).2 ≤ 1) (hd0 : -1 ≤ d) (hd6 : d ≤ 6) (HD : Hid (deepP ms (k, a) d = D)) :
    Calls Tryd.prog 36 #[.agg #[vp], .agg #[.int .i64 k, .int .i64 a], .int .i64 d] w fun e w' => e = .returned (.int .i64 D) ∧ Below w.heap.size w w' := by
  have hA : Below w.heap.size w ((w.alloc (.cells #[vp] 25)).alloc (.cells #[.int .i64 k, .int .i64 a] 27)) := ((Below.refl _ _).alloc (Nat.le_refl _) _).alloc (by simp) _
  have hbh : behind ms (k, a) d = d - (takesOf ms k a).1 + (takesOf ms k a).2 := rfl
  unfold deepP at HD
  dsimp only at HD
  obtain ⟨tl, Htl'⟩ : ∃ tl, takesOf ms k a = tl := ⟨_, rfl⟩
  have Htl : Hid (takesOf ms k a = tl) := Htl'
  rw [Htl'] at HD hbh ht0 ht2 hl0 hl1
  clear Htl'
  obtain ⟨t, l⟩ := tl
  generalize behind ms (k, a) d = b at *
  dsimp only at HD hbh ht0 ht2 hl0 hl1
  go_enter Tryd.func36, Tryd.ntmps36
  go_wp2_with fail
  generalize (w.alloc (.cells #[vp] 25)).alloc (.cells #[.int .i64 k, .int .i64 a] 27) = W0 at *
  refine (specTakes_any _ ms _ _ _ (hM.below hA)).mono ?_
  rintro e w1 ⟨rfl, hb1⟩
  have B1 : Below w.heap.size w w1 := hA.trans (hb1.mono hA.size)
  rw [Htl.out]
  clear hM hA hb1 Htl
  by_cases hlt : d < t
  · have HD' := HD.out
    rw [if_pos (.inl hlt)] at HD'
    subst HD'
    go_wp2
    go_ret
    exact ⟨rfl, B1⟩
  by_cases h6 : 6 < d - t + l
  · have HD' := HD.out
    rw [if_pos (.inr (by omega))] at HD'
    subst HD'
    go_wp2
    go_ret
    exact ⟨rfl, B1⟩
  · have HD' := HD.out
    rw [if_neg (by omega)] at HD'
    subst HD'
    subst hbh
    clear HD
    go_wp2
    go_ret
    exact ⟨rfl, B1⟩

/-- what may be next, in the model's order -/
def nextsS (op : Int × Int) (i : Int) : List Int := if op.1 = 10 then [] else if op.1 = 7 then [op.2] else if op.1 = 8 then [i + 1, op.2] else [i + 1]

theorem nextsS_mem (op : Int × Int) (i k : Int) : k ∈ nextsS op i ↔ k ∈ nexts op i := by
  unfold nextsS nexts
  repeat' split
  all_goals simp [or_comm]

theorem nextsS_len (op : Int × Int) (i : Int) : (nextsS op i).length ≤ 2 := by
  unfold nextsS
  repeat' split
  all_goals simp

/-- numbers just laid -/
theorem IntRow.laid (w : World) (xs : List Int) (t : TypeId) (h : xs.length ≤ 1000) : IntRow w.heap.size (w.alloc (.cells (xs.map fun x => Value.int .i64 x).toArray t)) (.slice (some ⟨w.heap.size, 0, none⟩) xs.length xs.length) xs := by
  have hblk := Go.Deep.blk_alloc_new w (.cells (xs.map fun x => Value.int .i64 x).toArray t)
  refine .inr ⟨w.heap.size, 0, xs.length, rfl, Nat.le_refl _, by simp, Nat.le_refl _, by unfold maxLen; omega, fun j hj => ⟨?_, ?_⟩, fun j hj => ?_⟩
  · rw [cell_of_row _ _ _ _ _ _ hblk]
    simp [hj]
  · unfold World.frozen?; rw [hblk]; simp
  · rw [cell_of_row _ _ _ _ _ _ hblk]
    simp [hj]

set_option maxRecDepth 100000 in
set_option maxHeartbeats 1000000 in
theorem l2Next_any (k a : Int) (pl : Nat) (hpl : pl ≤ 1000) (w : World) :
    Calls Tryd.prog 40 #[.agg #[.int .i64 k, .int .i64 a], .int .i64 pl] w fun e w' => Below w.heap.size w w' ∧ ∃ v, e = .returned v ∧ IntRow w.heap.size w' v (nextsS (k, a) pl) := by
  have hA : ∀ o1 o2, Below w.heap.size w ((w.alloc o1).alloc o2) := fun o1 o2 => ((Below.refl _ _).alloc (Nat.le_refl _) _).alloc (by simp) _
  have hL : ∀ (xs : List Int) o1, xs.length ≤ 1000 → IntRow w.heap.size ((w.alloc o1).alloc (.cells (xs.map fun x => Value.int .i64 x).toArray 3)) (.slice (some ⟨w.heap.size + 1, 0, none⟩) xs.length xs.length) xs := fun xs o1 hx => by
    have := IntRow.laid (w.alloc o1) xs 3 hx
    rw [World.size_alloc] at this
    exact this.mono (by omega)
  by_cases h10 : k = 10
  · subst h10
    go_enter Tryd.func40, Tryd.ntmps40
    go_wp2
    go_ret
    exact ⟨hA _ _, _, rfl, hL [] _ (by simp)⟩
  have e10 : (k == 10) = false := beq_eq_false_iff_ne.2 h10
  by_cases h7 : k = 7
  · subst h7
    go_enter Tryd.func40, Tryd.ntmps40
    go_wp2
    go_ret
    exact ⟨hA _ _, _, rfl, hL [a] _ (by simp)⟩
  have e7 : (k == 7) = false := beq_eq_false_iff_ne.2 h7
  by_cases h8 : k = 8
  · subst h8
    go_enter Tryd.func40, Tryd.ntmps40
    go_wp2
    go_ret
    exact ⟨hA _ _, _, rfl, hL [(pl : Int) + 1, a] _ (by simp)⟩
  have e8 : (k == 8) = false := beq_eq_false_iff_ne.2 h8
  rw [show nextsS (k, a) pl = [(pl : Int) + 1] by simp [nextsS, h10, h7, h8]]
  go_enter Tryd.func40, Tryd.ntmps40
  go_wp2
  go_ret
  exact ⟨hA _ _, _, rfl, hL [(pl : Int) + 1] _ (by simp)⟩

/-- of an ok program: what is next is not below 0 -/
theorem next_nonneg {ms : List (Int × Int × List (Int × Int))} (hp : progOk ms = true) {m : Nat} (h : m < ms.length) {pl : Nat} (hpl : pl < ms[m].2.2.length) : ∀ k ∈ nextsS (ms[m].2.2[pl].1, ms[m].2.2[pl].2) pl, 0 ≤ k := by
  have hall : ms.all (methOk ms.length) = true := by
    simp only [progOk, Bool.and_eq_true] at hp
    exact hp.2
  rw [List.all_eq_true] at hall
  have hm := hall ms[m] (List.getElem_mem h)
  simp only [methOk, Bool.and_eq_true] at hm
  have hops := hm.2
  simp only [opsOk, List.all_eq_true] at hops
  have hop := hops ms[m].2.2[pl] (List.getElem_mem hpl)
  intro k hk
  unfold nextsS at hk
  dsimp only at hk
  split at hk
  · simp at hk
  · split at hk
    · rename_i e
      rw [e, opOk_7, inR_true] at hop
      simp at hk
      omega
    · split at hk
      · rename_i e
        rw [e, opOk_8, inR_true] at hop
        simp at hk
        omega
      · simp at hk
        omega

end Go.Proofs.YtehffhhiikahbaaDoor
