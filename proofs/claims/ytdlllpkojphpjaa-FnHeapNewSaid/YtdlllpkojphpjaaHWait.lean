import Derived.Test.YtdlllpkojphpjaaHSpecOk
import Derived.Test.YtdlllpkojphpjaaInts

/-
  The calls that wait for one another: the chain, in plain words, and the document's model of it (l11Chain).
-/
namespace Go.Proofs.Ytdlllpkojphpjaa
open Go.RowKit

/-- the places from one on, by who called; none, if that has no end within so many, or one is none, or has returned -/
def walkC (cs : List Cl) : Nat → Int → Option (List Nat)
  | 0, a => if a < 0 then some [] else none
  | f + 1, a => if a < 0 then some [] else if h : a.toNat < cs.length then (if cs[a.toNat].dead then none else (walkC cs f cs[a.toNat].sender).map (a.toNat :: ·)) else none

def chainOf (cs : List Cl) (now : Int) : List Nat := (walkC cs cs.length now).getD []

theorem walkC_neg {cs : List Cl} {f : Nat} {a : Int} (h : a < 0) : walkC cs f a = some [] := by
  cases f <;> simp [walkC, h]
theorem walkC_zero {cs : List Cl} {a : Int} (h : 0 ≤ a) : walkC cs 0 a = none := by
  simp [walkC]; omega
theorem walkC_past {cs : List Cl} {f : Nat} {a : Nat} (h : ¬ a < cs.length) : walkC cs f (a : Int) = none := by
  cases f with
  | zero => exact walkC_zero (by omega)
  | succ f =>
    simp only [walkC]
    rw [if_neg (by omega), dif_neg (by simpa using h)]
theorem walkC_dead {cs : List Cl} {f : Nat} {a : Nat} (h : a < cs.length) (hd : cs[a].dead = true) : walkC cs f (a : Int) = none := by
  cases f with
  | zero => exact walkC_zero (by omega)
  | succ f =>
    simp only [walkC, Int.toNat_natCast]
    rw [if_neg (by omega), dif_pos h, if_pos hd]
theorem walkC_step {cs : List Cl} {f : Nat} {a : Nat} (h : a < cs.length) (hd : cs[a].dead = false) : walkC cs (f + 1) (a : Int) = (walkC cs f cs[a].sender).map (a :: ·) := by
  simp only [walkC, Int.toNat_natCast]
  rw [if_neg (by omega), dif_pos h, hd]
  rfl

/-- places as numbers -/
def nums (l : List Nat) : List Int := l.map fun (k : Nat) => (k : Int)

theorem nums_len (l : List Nat) : (nums l).length = l.length := by simp [nums]
theorem nums_snoc (l : List Nat) (k : Nat) : nums l ++ [(k : Int)] = nums (l ++ [k]) := by simp [nums]

theorem Try.infoInt2 : (Try.prog.info? 3).map (fun i => (i.zero, i.size, i.bytes)) = some (some (.int .i64 0), 1, 8) := by kernel_rfl

theorem int_made (w : World) : IntRow w.heap.size (w.alloc (.cells #[] 3)) (.slice (some ⟨w.heap.size, 0, none⟩) 0 0) [] :=
  .inr ⟨w.heap.size, 0, 0, rfl, Nat.le_refl _, by simp, Nat.le_refl _, Nat.zero_le _, fun i hi => absurd hi (Nat.not_lt_zero _), fun i hi => absurd hi (Nat.not_lt_zero _)⟩

end Go.Proofs.Ytdlllpkojphpjaa

/-
  The document's model of HeapOk, the end of it: l11Wait.
-/
namespace Go.Proofs.Ytdlllpkojphpjaa
open Go.RowKit

theorem walkC_in {cs : List Cl} : ∀ (f : Nat) (a : Int) (l : List Nat), walkC cs f a = some l → ∀ k ∈ l, ∃ h : k < cs.length, cs[k].dead = false
  | 0, a, l, h, k, hk => by
    simp only [walkC] at h
    split at h
    · cases h; cases hk
    · cases h
  | f + 1, a, l, h, k, hk => by
    simp only [walkC] at h
    split at h
    · cases h; cases hk
    · split at h
      · rename_i hn ha
        split at h
        · cases h
        · rename_i hd
          obtain ⟨l', hl', rfl⟩ := Option.map_eq_some_iff.1 h
          rcases List.mem_cons.1 hk with rfl | hk
          · exact ⟨ha, by simpa using hd⟩
          · exact walkC_in f _ l' hl' k hk
      · cases h

theorem chain_in {cs : List Cl} {now : Int} {k : Nat} (h : k ∈ chainOf cs now) : ∃ h : k < cs.length, cs[k].dead = false := by
  unfold chainOf at h
  cases hw : walkC cs cs.length now with
  | none => rw [hw] at h; cases h
  | some l => rw [hw] at h; exact walkC_in _ _ _ hw k h

/-- those behind the first of a chain have room for a value -/
def roomP (cs : List Cl) (ch : List Nat) : Bool := (ch.drop 1).all fun k => decide ((cs.getD k Cl.none).stack.length < 6)

theorem roomP_no {cs : List Cl} {ch : List Nat} {i : Nat} (h1 : 1 ≤ i) (hi : i < ch.length) (hk : ch[i] < cs.length) (h : ¬ cs[ch[i]].stack.length < 6) : roomP cs ch = false := by
  unfold roomP
  rw [List.all_eq_false]
  refine ⟨ch[i], ?_, by simp [hk, h]⟩
  have : ch[i] = (ch.drop 1)[i - 1]'(by simp; omega) := by
    rw [List.getElem_drop]
    congr 1
    omega
  rw [this]
  exact List.getElem_mem _
theorem roomP_yes {cs : List Cl} {ch : List Nat} (hin : ∀ k ∈ ch, k < cs.length) (h : ∀ i, (hi : i < ch.length) → 1 ≤ i → ∀ hk : ch[i] < cs.length, cs[ch[i]].stack.length < 6) : roomP cs ch = true := by
  unfold roomP
  rw [List.all_eq_true]
  intro k hk
  obtain ⟨j, hj, rfl⟩ := List.getElem_of_mem hk
  have hj' : j + 1 < ch.length := by simp at hj; omega
  have e : (ch.drop 1)[j] = ch[j + 1] := by simp
  rw [e]
  have hk' := hin _ (List.getElem_mem hj')
  have := h (j + 1) hj' (by omega) hk'
  simp [hk', this]

end Go.Proofs.Ytdlllpkojphpjaa
