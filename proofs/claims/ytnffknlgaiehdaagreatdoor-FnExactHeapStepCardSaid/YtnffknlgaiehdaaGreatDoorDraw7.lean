/-
  What draws: rows of operations, a bit more: what they look like, one of them written into; the answer of l71Method.
-/
import Derived.Test.YtnffknlgaiehdaaGreatDoorDraw4
import Derived.Deep.DeepCutAuto
import Derived.Deep.RegionLaw

namespace Go.Proofs.YtnffknlgaiehdaaGreatDoor
open Go.RowKit
end Go.Proofs.YtnffknlgaiehdaaGreatDoor

/-
  What draws: l71Method draws a method; its operations lie in a row of their own.
-/
namespace Go.Proofs.YtnffknlgaiehdaaGreatDoor
open Go.RowKit
theorem Fit.ok {nm : Nat} {t : Int} {o : Int × Int} (h : Fit nm t o) (no : Nat) : opOk nm no t o.1 o.2 = true := by
  obtain ⟨h7, h8, h⟩ := h
  have e : ¬ (o.1 = 7 ∨ o.1 = 8) := fun e => e.elim h7 h8
  unfold opOk at h ⊢
  rw [if_neg e] at h
  rw [if_neg e]
  exact h
def FitsBut (nm : Nat) (t z : Int) (L : List (Int × Int)) : Prop := ∀ i, (hi : i < L.length) → (L[i].1 = 8 ∧ (i : Int) = z) ∨ ((i : Int) ≠ z ∧ Fit nm t L[i])
def FitsTo (nm : Nat) (t : Int) (n : Nat) (L : List (Int × Int)) : Prop := ∀ o ∈ L, (o.1 = 8 ∧ 0 ≤ o.2 ∧ o.2 ≤ (n : Int)) ∨ Fit nm t o
theorem FitsBut.nil {nm : Nat} {t z : Int} : FitsBut nm t z [] := fun _ hi => absurd hi (Nat.not_lt_zero _)
theorem FitsBut.append {nm : Nat} {t z : Int} {L M : List (Int × Int)} (h : FitsBut nm t z L) (k : Fits nm t M) (hz : z < (L.length : Int)) : FitsBut nm t z (L ++ M) := fun i hi => by
  by_cases e : i < L.length
  · rw [List.getElem_append_left e]
    exact h i e
  · rw [List.getElem_append_right (by omega)]
    exact .inr ⟨by omega, k _ (List.getElem_mem _)⟩
theorem FitsBut.fits {nm : Nat} {t : Int} {L : List (Int × Int)} (h : FitsBut nm t (-1) L) : Fits nm t L := fun o e => by
  obtain ⟨i, hi, rfl⟩ := List.getElem_of_mem e
  rcases h i hi with ⟨_, e⟩ | e
  · omega
  · exact e.2
theorem FitsBut.skip {nm : Nat} {t : Int} {L : List (Int × Int)} {u : Int} (h : FitsBut nm t (-1) L) (h0 : 0 ≤ u) (h1 : u < t) : FitsBut nm t ((L.length : Int) + 1) (L ++ [(2, u), (8, 0)]) := fun i hi => by
  by_cases e : i < L.length
  · rw [List.getElem_append_left e]
    exact .inr ⟨by omega, h.fits _ (List.getElem_mem _)⟩
  · have hl : (L ++ [(2, u), (8, 0)]).length = L.length + 2 := by simp
    have h2 : i = L.length ∨ i = L.length + 1 := by omega
    rcases h2 with rfl | rfl
    · refine .inr ⟨by omega, ?_⟩
      rw [List.getElem_append_right (Nat.le_refl _)]
      simp only [Nat.sub_self, List.getElem_cons_zero]
      exact fit_temp h0 h1
    · refine .inl ⟨?_, by omega⟩
      rw [List.getElem_append_right (by omega)]
      simp
theorem FitsBut.to {nm : Nat} {t : Int} {L : List (Int × Int)} (h : FitsBut nm t (-1) L) : FitsTo nm t L.length L := fun o e => .inr (h.fits o e)
theorem FitsBut.set {nm : Nat} {t : Int} {L : List (Int × Int)} {z : Nat} (h : FitsBut nm t (z : Int) L) (hz : z < L.length) : FitsTo nm t (L.set z (L[z].1, (L.length : Int))).length (L.set z (L[z].1, (L.length : Int))) := fun o e => by
  obtain ⟨i, hi, rfl⟩ := List.getElem_of_mem e
  have hi' : i < L.length := by simpa using hi
  rw [List.getElem_set]
  split
  · next e =>
    rcases h z hz with ⟨h8, _⟩ | hf
    · exact .inl ⟨h8, by simp, by simp⟩
    · exact absurd rfl hf.1
  · next e =>
    rcases h i hi' with ⟨_, e2⟩ | hf
    · omega
    · exact .inr hf.2
end Go.Proofs.YtnffknlgaiehdaaGreatDoor

/-
  What draws: rows of numbers, rows of methods, and words for a program that is being drawn.
-/
namespace Go.Proofs.YtnffknlgaiehdaaGreatDoor
open Go.RowKit
def NumRow (B : Nat) (w : World) (v : Value) (xs : List Int) : Prop := w.ownsRow B 3 1 v xs.length (xs.map fun x => Value.int .i64 x)
theorem NumRow.one (w : World) (x : Int) : NumRow w.heap.size (w.alloc (.cells #[.int .i64 x] 3)) (.slice (some ⟨w.heap.size, 0, none⟩) 1 1) [x] :=
  ⟨rfl, .inr ⟨w.heap.size, 1, #[.int .i64 x], rfl, Nat.le_refl _, Go.Deep.blk_alloc_new _ _, Nat.le_refl _, by unfold maxLen; omega, rfl, rfl⟩⟩
theorem NumRow.mono {B B' : Nat} {w : World} {v : Value} {xs : List Int} (h : NumRow B w v xs) (hB : B' ≤ B) : NumRow B' w v xs := by
  obtain ⟨h1, h2⟩ := h
  refine ⟨h1, ?_⟩
  rcases h2 with h2 | ⟨g, cap, cur, hv, hg, r⟩
  · exact .inl h2
  · exact .inr ⟨g, cap, cur, hv, by omega, r⟩
theorem NumRow.lt {B : Nat} {w : World} {v : Value} {xs : List Int} (h : NumRow B w v xs) : ∀ k, v.ownBlock = some k → B ≤ k ∧ k < w.heap.size := World.ownsRow.lt h
theorem NumRow.kept {B : Nat} {w w' : World} {v : Value} {xs : List Int} {row : Option Nat} (h : NumRow B w v xs) (hg : w.grownBy w' row) (hne : ∀ g, row = some g → v.ownBlock ≠ some g) : NumRow B w' v xs :=
  World.ownsRow.kept h hg (by
    cases row with
    | none => cases hv : v.ownBlock with
      | none => exact .inl rfl
      | some g => exact .inr (by simp)
    | some g => exact .inr (hne g rfl))
theorem NumRow.cell {B : Nat} {w : World} {g n c : Nat} {xs : List Int} (h : NumRow B w (.slice (some ⟨g, 0, none⟩) n c) xs) (i : Nat) (hi : i < xs.length) : w.cell? ⟨g, i, none⟩ = some (.int .i64 xs[i]) := by
  have := World.ownsRow.cells h (g := g) rfl i (.int .i64 xs[i]) (by simp [hi])
  rwa [Addr.add_lit, Nat.zero_add] at this
def flat3 (ms : List (Int × Int × Value)) : List Value := ms.flatMap fun m => [.int .i64 m.1, .int .i64 m.2.1, m.2.2]
theorem flat3_at (a : List (Int × Int × Value)) : ∀ (i : Nat) (h : i < a.length), (flat3 a)[i * 3]? = some (.int .i64 a[i].1) ∧ (flat3 a)[i * 3 + 1]? = some (.int .i64 a[i].2.1) ∧ (flat3 a)[i * 3 + 2]? = some a[i].2.2 := by
  induction a with
  | nil => intro i h; exact absurd h (Nat.not_lt_zero _)
  | cons x l ih =>
    intro i h
    cases i with
    | zero => exact ⟨rfl, rfl, rfl⟩
    | succ i =>
      have := ih i (by simpa using h)
      rw [show (i + 1) * 3 = i * 3 + 3 by omega]
      exact this
def MRow (B : Nat) (w : World) (v : Value) (ms : List (Int × Int × Value)) : Prop := w.ownsRow B 93 3 v ms.length (flat3 ms)
theorem MRow.nil (B : Nat) (w : World) : MRow B w (.slice none 0 0) [] := World.ownsRow_nil _ _ _ _
theorem MRow.made (w : World) : MRow w.heap.size (w.alloc (.cells #[] 93)) (.slice (some ⟨w.heap.size, 0, none⟩) 0 0) [] :=
  ⟨rfl, .inr ⟨w.heap.size, 0, #[], rfl, Nat.le_refl _, Go.Deep.blk_alloc_new _ _, Nat.le_refl _, Nat.zero_le _, rfl, rfl⟩⟩
theorem MRow.mono {B B' : Nat} {w : World} {v : Value} {ms : List (Int × Int × Value)} (h : MRow B w v ms) (hB : B' ≤ B) : MRow B' w v ms := by
  obtain ⟨h1, h2⟩ := h
  refine ⟨h1, ?_⟩
  rcases h2 with h2 | ⟨g, cap, cur, hv, hg, r⟩
  · exact .inl h2
  · exact .inr ⟨g, cap, cur, hv, by omega, r⟩
theorem MRow.lt {B : Nat} {w : World} {v : Value} {ms : List (Int × Int × Value)} (h : MRow B w v ms) : ∀ k, v.ownBlock = some k → B ≤ k ∧ k < w.heap.size := World.ownsRow.lt h
theorem MRow.kept {B : Nat} {w w' : World} {v : Value} {ms : List (Int × Int × Value)} {row : Option Nat} (h : MRow B w v ms) (hg : w.grownBy w' row) (hne : ∀ g, row = some g → v.ownBlock ≠ some g) : MRow B w' v ms :=
  World.ownsRow.kept h hg (by
    cases row with
    | none => cases hv : v.ownBlock with
      | none => exact .inl rfl
      | some g => exact .inr (by simp)
    | some g => exact .inr (hne g rfl))
theorem MRow.shape {B : Nat} {w : World} {v : Value} {ms : List (Int × Int × Value)} (h : MRow B w v ms) : ∃ a c, v = .slice a ms.length c := by
  obtain ⟨_, h2⟩ := h
  rcases h2 with ⟨rfl, hn⟩ | ⟨g, cap, cur, rfl, _⟩
  · exact ⟨none, 0, by rw [hn]⟩
  · exact ⟨_, _, rfl⟩
theorem MRow.cell {B : Nat} {w : World} {g n c : Nat} {ms : List (Int × Int × Value)} (h : MRow B w (.slice (some ⟨g, 0, none⟩) n c) ms) (i : Nat) (hi : i < ms.length) :
    w.cell? ⟨g, i * 3, none⟩ = some (.int .i64 ms[i].1) ∧ w.cell? ⟨g, i * 3 + 1, none⟩ = some (.int .i64 ms[i].2.1) ∧ w.cell? ⟨g, i * 3 + 2, none⟩ = some ms[i].2.2 := by
  have h3 := flat3_at ms i hi
  have k0 := World.ownsRow.cells h (g := g) rfl _ _ h3.1
  have k1 := World.ownsRow.cells h (g := g) rfl _ _ h3.2.1
  have k2 := World.ownsRow.cells h (g := g) rfl _ _ h3.2.2
  rw [Addr.add_lit, Nat.zero_add] at k0 k1 k2
  exact ⟨k0, k1, k2⟩
abbrev MM := Int × Int × Value × List (Int × Int)
def plainOf (ms : List MM) : List (Int × Int × List (Int × Int)) := ms.map fun m => (m.1, m.2.1, m.2.2.2)
end Go.Proofs.YtnffknlgaiehdaaGreatDoor

/-
  What draws: l71Prog draws a program; its methods, and their operations, lie in rows of their own.
-/
namespace Go.Proofs.YtnffknlgaiehdaaGreatDoor
open Go.RowKit
end Go.Proofs.YtnffknlgaiehdaaGreatDoor
