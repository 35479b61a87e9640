/-
  DeepMost, the document's model and the program, walked: both answer the greatest number of the table, or -1.
-/
import Derived.Test.YtehffhhiikahbaaDoorDeepI
import Derived.Lib.MinMax
namespace Go.Proofs.YtehffhhiikahbaaDoor
open Go.RowKit

/-- the greatest number of a list -/
def IsMax (f : List Int) (n : Int) : Prop := (∀ i : Nat, i < f.length → gt f i ≤ n) ∧ ∃ i : Nat, i < f.length ∧ gt f i = n

theorem IsMax.one {f : List Int} {n n' : Int} (h : IsMax f n) (h' : IsMax f n') : n = n' := by
  obtain ⟨i, hi, e⟩ := h.2
  obtain ⟨j, hj, e'⟩ := h'.2
  have := h'.1 i hi
  have := h.1 j hj
  omega

/-- the answer of DeepMost -/
def MostRes (ms : List (Int × Int × List (Int × Int))) (m n : Int) : Prop := (∃ f, DeepRes ms m true f ∧ IsMax f n) ∨ (DeepRes ms m false [] ∧ n = -1)

theorem MostRes.one {ms : List (Int × Int × List (Int × Int))} {m n n' : Int} (h : MostRes ms m n) (h' : MostRes ms m n') : n = n' := by
  rcases h with ⟨f, hr, hm⟩ | ⟨hr, rfl⟩
  · rcases h' with ⟨f', hr', hm'⟩ | ⟨hr', rfl⟩
    · obtain rfl := (hr.one hr').2
      exact hm.one hm'
    · have := (hr.one hr').1; cases this
  · rcases h' with ⟨f', hr', _⟩ | ⟨_, rfl⟩
    · have := (hr.one hr').1; cases this
    · rfl

theorem res_nil {ms : List (Int × Int × List (Int × Int))} {m : Int} {f : List Int} (h : DeepRes ms m false f) : DeepRes ms m false [] := by
  rcases h with ⟨e, _⟩ | ⟨_, _, hn⟩
  · cases e
  · exact .inr ⟨rfl, rfl, hn⟩

theorem res_right {ms : List (Int × Int × List (Int × Int))} {m : Int} {f : List Int} (h : DeepRes ms m true f) : Right ms m f ∧ ∀ i : Nat, i < f.length → -1 ≤ gt f i ∧ gt f i ≤ 6 := by
  rcases h with ⟨_, h, hb, _⟩ | ⟨e, _⟩
  · exact ⟨h, hb⟩
  · cases e

/-- what is behind an operation is not more than what is ahead of one -/
theorem behind_att {ms : List (Int × Int × List (Int × Int))} {ops : List (Int × Int)} {f : List Int} (h : Closed ms ops f) {i : Nat} (hi : i < ops.length) (h0 : 0 ≤ gt f i) :
    -1 ≤ deepP ms (opAt ops i) (gt f i) ∧ deepP ms (opAt ops i) (gt f i) ≤ 6 ∧ (deepP ms (opAt ops i) (gt f i) ≤ gt f i ∨ ∃ j : Nat, j < ops.length ∧ gt f j = deepP ms (opAt ops i) (gt f i)) := by
  obtain ⟨d1, d2, d3⟩ := h.each i hi h0
  have hl := leaves_nonneg ms (opAt ops i).1 (opAt ops i).2
  have e : deepP ms (opAt ops i) (gt f i) = behind ms (opAt ops i) (gt f i) := by
    unfold deepP
    rw [if_neg (by omega)]
  rw [e]
  refine ⟨by unfold behind; omega, d2, ?_⟩
  by_cases h10 : (opAt ops i).1 = 10
  · left
    have ht : takesOf ms (opAt ops i).1 (opAt ops i).2 = (1, 0) := by rw [h10]; rfl
    unfold behind
    rw [ht]
    omega
  · right
    have hn : ∃ k, k ∈ nexts (opAt ops i) i := by
      unfold nexts
      rw [if_neg h10]
      split
      · exact ⟨_, List.mem_cons_self ..⟩
      · split
        · exact ⟨_, List.mem_cons_self ..⟩
        · exact ⟨_, List.mem_cons_self ..⟩
    obtain ⟨k, hk⟩ := hn
    obtain ⟨k0, kl, ke⟩ := d3 k hk
    obtain ⟨k', rfl⟩ := Int.eq_ofNat_of_zero_le k0
    exact ⟨k', by omega, ke⟩

set_option maxRecDepth 100000 in
set_option maxHeartbeats 1000000 in
theorem max_any (B : Nat) (v : Value) (xs : List Int) (w : World) (h : IntRow B w v xs) (hp : 0 < xs.length) :
    Calls Tryd.prog 35 #[v] w fun e w' => w' = w ∧ ∃ n : Int, e = .returned (.int .i64 n) ∧ IsMax xs n := by
  obtain ⟨g, off, cap, rfl, _, _⟩ := h.form hp
  obtain ⟨_, _, _, hlm⟩ := h.slice
  have c0 := (h.cell (i := 0) hp).1
  rw [Nat.add_zero] at c0
  have hpz : (0 : Int) < (xs.length : Int) := by omega
  have hp1 : ¬ ((xs.length : Int) < 1) := by omega
  unfold maxLen at hlm
  go_enter Tryd.func35, Tryd.ntmps35
  go_wp2
  go_loopg [3, 4] (xs.length - 1) (fun g m i wr => ∃ (k : Nat) (M : Int), 1 ≤ k ∧ k ≤ xs.length ∧ g = xs.length - k ∧ i = .int .i64 k ∧ m = .int .i64 M ∧ wr = w ∧ (∀ j : Nat, j < k → gt xs j ≤ M) ∧ ∃ j : Nat, j < xs.length ∧ gt xs j = M)
  case atStart => exact ⟨1, xs[0], Nat.le_refl _, hp, rfl, rfl, rfl, rfl, fun j hj => by obtain rfl : j = 0 := (by omega); rw [gt_nat xs 0 hp]; exact Int.le_refl _, 0, hp, gt_nat xs 0 hp⟩
  case round =>
    obtain ⟨k, M, hk1, hk, rfl, rfl, rfl, rfl, hle, hatt⟩ := hrel
    have HL : Hid (∀ j : Nat, j < k → gt xs j ≤ M) := hle
    have HA : Hid (∃ j : Nat, j < xs.length ∧ gt xs j = M) := hatt
    clear hle hatt
    by_cases hlt : k < xs.length
    · have hkz : (k : Int) < (xs.length : Int) := by omega
      have ck := (h.cell hlt).1
      have hgk := gt_nat xs k hlt
      have HM : Hid ((∀ j : Nat, j < k + 1 → gt xs j ≤ max M xs[k]) ∧ ∃ j : Nat, j < xs.length ∧ gt xs j = max M xs[k]) := by
        refine ⟨fun j hj => ?_, ?_⟩
        · by_cases e : j = k
          · subst e; rw [hgk]; omega
          · have := HL.out j (by omega); omega
        · by_cases e : M ≤ xs[k]
          · exact ⟨k, hlt, by rw [hgk]; omega⟩
          · obtain ⟨j, hj, e'⟩ := HA.out; exact ⟨j, hj, by omega⟩
      clear HL HA hgk
      go_wp2
      go_roundg (xs.length - (k + 1))
      case measure => omega
      case rel => exact ⟨k + 1, max M xs[k], by omega, by omega, rfl, by go_num, by first | rfl | (congr 1; simp only [Int.max_def]; split <;> omega), rfl, HM.out.1, HM.out.2⟩
    · obtain rfl : k = xs.length := by omega
      go_wp2
      go_ret
      exact ⟨rfl, M, rfl, HL.out, HA.out⟩

set_option maxRecDepth 100000 in
set_option maxHeartbeats 1000000 in
theorem implDeepMost_any (v : Value) (ms : List (Int × Int × List (Int × Int))) (m : Int) (w : World) (h : MethsAt w v ms) (ht : TabAt w) :
    Calls Tryd.prog 16 #[.agg #[v], .int .i64 m] w fun e w' => Below w.heap.size w w' ∧ ∃ n : Int, e = .returned (.int .i64 n) ∧ MostRes ms m n := by
  obtain ⟨a, cap, rfl, hl, _⟩ := id h
  have hA : Below w.heap.size w (w.alloc (.cells #[.slice a ms.length cap] 25)) := (Below.refl _ _).alloc (Nat.le_refl _) _
  go_enter Tryd.func16, Tryd.ntmps16
  go_wp2_with fail
  generalize w.alloc (.cells #[.slice a ms.length cap] 25) = W0 at *
  refine (implDeepAt_any _ ms _ _ (h.below hA) (ht.below hA)).mono ?_
  rintro e w1 ⟨hb1, v1, r1, rfl, f1, hres, hrow⟩
  have B1 : Below w.heap.size w w1 := hA.trans (hb1.mono hA.size)
  clear hA hb1
  cases r1
  · have HR : Hid (MostRes ms m (-1)) := .inr ⟨res_nil hres, rfl⟩
    clear hres
    go_wp2
    go_ret
    exact ⟨B1, _, rfl, HR.out⟩
  · have HR : Hid (DeepRes ms m true f1) := hres
    have hpos : 0 < f1.length := by have := (res_right hres).1.2.2; rw [this.len]; exact this.pos
    clear hres
    go_wp2_with fail
    refine (max_any _ _ f1 _ hrow hpos).mono ?_
    rintro e w2 ⟨hw, n, rfl, hmax⟩
    obtain rfl := hw.symm
    have HM : Hid (MostRes ms m n) := .inl ⟨f1, HR.out, hmax⟩
    clear hmax HR
    go_wp2
    go_ret
    exact ⟨B1, n, rfl, HM.out⟩

end Go.Proofs.YtehffhhiikahbaaDoor
