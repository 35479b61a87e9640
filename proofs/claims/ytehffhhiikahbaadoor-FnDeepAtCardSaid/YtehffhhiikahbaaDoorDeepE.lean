/-
  How many values there are, without memory: one goes on from an operation that is come to.
-/
import Derived.Test.YtehffhhiikahbaaDoorDeepB
namespace Go.Proofs.YtehffhhiikahbaaDoor
open Go.RowKit

theorem leaves_nonneg (ms : List (Int × Int × List (Int × Int))) (k a : Int) : 0 ≤ (takesOf ms k a).2 ∧ (takesOf ms k a).2 ≤ 1 := by
  unfold takesOf lv
  split
  · split <;> simp
  · simp only; split <;> omega

theorem done_of {ms : List (Int × Int × List (Int × Int))} {ops : List (Int × Int)} {ah ah' : List Int} {pl : Nat} (h1 : (takesOf ms (opAt ops pl).1 (opAt ops pl).2).1 ≤ gt ah pl) (h2 : behind ms (opAt ops pl) (gt ah pl) ≤ 6) (he : gt ah' pl = gt ah pl)
    (hn : ∀ k ∈ nexts (opAt ops pl) pl, 0 ≤ k ∧ k < ops.length ∧ gt ah' k = behind ms (opAt ops pl) (gt ah pl)) : Done ms ops ah' pl := by
  unfold Done
  rw [he]
  exact ⟨h1, h2, hn⟩

/-- how a step goes on -/
theorem go_step {ms : List (Int × Int × List (Int × Int))} {ops : List (Int × Int)} {ah q : List Int} {pl : Nat} (h : Inv ms ops (fun _ => False) ah ((pl : Int) :: q)) :
    ((goP ms (opAt ops pl) ah q pl).1 = false → ∀ g, ¬ Closed ms ops g) ∧
    ((goP ms (opAt ops pl) ah q pl).1 = true → Inv ms ops (fun _ => False) (goP ms (opAt ops pl) ah q pl).2.1 (goP ms (opAt ops pl) ah q pl).2.2 ∧ todo (goP ms (opAt ops pl) ah q pl).2.1 (goP ms (opAt ops pl) ah q pl).2.2 = todo ah q) := by
  obtain ⟨j, hj, hpl, h0⟩ := h.queue pl (List.mem_cons_self ..)
  obtain rfl : pl = j := by omega
  have hp := h.pop
  have hlv := leaves_nonneg ms (opAt ops pl).1 (opAt ops pl).2
  have hcl : ∀ g, Closed ms ops g → (takesOf ms (opAt ops pl).1 (opAt ops pl).2).1 ≤ gt ah pl ∧ behind ms (opAt ops pl) (gt ah pl) ≤ 6 := fun g hg => by
    have e := h.sound g hg pl hpl h0
    have := hg.each pl hpl (by omega)
    unfold Done at this
    rw [e] at this
    exact ⟨this.1, this.2.1⟩
  unfold goP
  by_cases hc : gt ah pl < (takesOf ms (opAt ops pl).1 (opAt ops pl).2).1 ∨ 6 < behind ms (opAt ops pl) (gt ah pl)
  · rw [if_pos hc]
    refine ⟨fun _ g hg => ?_, fun e => by cases e⟩
    have := hcl g hg
    omega
  rw [if_neg hc]
  have h1 : (takesOf ms (opAt ops pl).1 (opAt ops pl).2).1 ≤ gt ah pl := by omega
  have h2 : behind ms (opAt ops pl) (gt ah pl) ≤ 6 := by omega
  have h3 : 0 ≤ behind ms (opAt ops pl) (gt ah pl) := by unfold behind; omega
  clear hc hcl
  by_cases h10 : (opAt ops pl).1 = 10
  · rw [if_pos h10]
    refine ⟨fun e => (by cases e), fun _ => ⟨hp.push (done_of h1 h2 rfl fun k hk => ?_), rfl⟩⟩
    simp [nexts, h10] at hk
  rw [if_neg h10]
  by_cases h7 : (opAt ops pl).1 = 7
  · rw [if_pos h7]
    have hn : ∀ k, k ∈ nexts (opAt ops pl) pl ↔ k = (opAt ops pl).2 := fun k => by simp [nexts, h7]
    obtain ⟨s1, s2⟩ := come_step hp hpl h0 (opAt ops pl).2 ((hn _).2 rfl) h3 h2
    refine ⟨s1, fun e => ?_⟩
    obtain ⟨i1, i2, i3, i4, i5, i6⟩ := s2 e
    refine ⟨i1.push (done_of h1 h2 (i3 pl h0) fun k hk => ?_), i2⟩
    rw [(hn k).1 hk]
    exact ⟨i4, i5, i6⟩
  rw [if_neg h7]
  by_cases h8 : (opAt ops pl).1 = 8
  · rw [if_pos h8]
    have hn : ∀ k, k ∈ nexts (opAt ops pl) pl ↔ k = (opAt ops pl).2 ∨ k = (pl : Int) + 1 := fun k => by simp [nexts, h8]
    obtain ⟨s1, s2⟩ := come_step hp hpl h0 (opAt ops pl).2 ((hn _).2 (.inl rfl)) h3 h2
    by_cases hr : (comeP ah q (opAt ops pl).2 (behind ms (opAt ops pl) (gt ah pl))).1 = true
    · rw [if_pos hr]
      obtain ⟨i1, i2, i3, i4, i5, i6⟩ := s2 hr
      have e0 := i3 pl h0
      obtain ⟨t1, t2⟩ := come_step i1 hpl (by omega) ((pl : Int) + 1) ((hn _).2 (.inr rfl)) (by rw [e0]; exact h3) (by rw [e0]; exact h2)
      rw [e0] at t1 t2
      refine ⟨t1, fun e => ?_⟩
      obtain ⟨j1, j2, j3, j4, j5, j6⟩ := t2 e
      refine ⟨j1.push (done_of h1 h2 ((j3 pl (by omega)).trans e0) fun k hk => ?_), j2.trans i2⟩
      rcases (hn k).1 hk with rfl | rfl
      · have hk' : (((opAt ops pl).2.toNat : Nat) : Int) = (opAt ops pl).2 := Int.toNat_of_nonneg i4
        have hj := j3 (opAt ops pl).2.toNat (by rw [hk', i6]; exact h3)
        rw [hk'] at hj
        exact ⟨i4, i5, hj.trans i6⟩
      · exact ⟨j4, j5, j6⟩
    · rw [if_neg hr]
      exact ⟨fun _ => s1 (by simpa using hr), fun e => by cases e⟩
  rw [if_neg h8]
  have hn : ∀ k, k ∈ nexts (opAt ops pl) pl ↔ k = (pl : Int) + 1 := fun k => by simp [nexts, h10, h7, h8]
  obtain ⟨s1, s2⟩ := come_step hp hpl h0 ((pl : Int) + 1) ((hn _).2 rfl) h3 h2
  refine ⟨s1, fun e => ?_⟩
  obtain ⟨i1, i2, i3, i4, i5, i6⟩ := s2 e
  refine ⟨i1.push (done_of h1 h2 (i3 pl h0) fun k hk => ?_), i2⟩
  rw [(hn k).1 hk]
  exact ⟨i4, i5, i6⟩

/-- nothing is left to go on from -/
theorem Inv.closed {ms : List (Int × Int × List (Int × Int))} {ops : List (Int × Int)} {ah : List Int} (h : Inv ms ops (fun _ => False) ah []) : Closed ms ops ah :=
  ⟨h.len, h.pos, h.zero, fun i hi h0 => h.done i hi h0 (by simp) (fun h => h)⟩

theorem opsOf_nat {ms : List (Int × Int × List (Int × Int))} {m : Nat} (h : m < ms.length) : opsOf ms m = ms[m].2.2 := by simp [opsOf, h]

theorem DeepRes.yes {ms : List (Int × Int × List (Int × Int))} {m : Int} {ah : List Int} (hp : progOk ms = true) (hm : inR m 0 ((ms.length : Int) - 1) = true) (h : Inv ms (opsOf ms m) (fun _ => False) ah []) : DeepRes ms m true ah :=
  .inl ⟨rfl, ⟨hp, hm, h.closed⟩, fun i hi => h.bnd i (by rw [← h.len]; exact hi), fun g hg i hi h0 => h.sound g hg.2.2 i (by rw [← h.len]; exact hi) h0⟩
theorem DeepRes.no {ms : List (Int × Int × List (Int × Int))} {m : Int} (h : ∀ g, ¬ Closed ms (opsOf ms m) g) : DeepRes ms m false [] := .inr ⟨rfl, rfl, fun g hg => h g hg.2.2⟩

/-- of an ok program: how much is taken -/
theorem takes_ok {ms : List (Int × Int × List (Int × Int))} (hp : progOk ms = true) (k a : Int) : 0 ≤ (takesOf ms k a).1 ∧ (takesOf ms k a).1 ≤ 2 := by
  unfold takesOf tk
  split
  · split
    · rename_i h
      have hr := inR_true.1 h
      have hl : a.toNat < ms.length := by omega
      have hall : ms.all (methOk ms.length) = true := by
        simp only [progOk, Bool.and_eq_true] at hp
        exact hp.2
      rw [List.all_eq_true] at hall
      have := hall ms[a.toNat] (List.getElem_mem hl)
      simp only [methOk, Bool.and_eq_true, inR_true] at this
      simp [hl]
      omega
    · simp
  · simp only
    split
    · omega
    · split <;> omega

theorem len_ok {ms : List (Int × Int × List (Int × Int))} (hp : progOk ms = true) {m : Nat} (h : m < ms.length) : ms[m].2.2.length ≤ 14 := by
  have hall : ms.all (methOk ms.length) = true := by
    simp only [progOk, Bool.and_eq_true] at hp
    exact hp.2
  rw [List.all_eq_true] at hall
  have := hall ms[m] (List.getElem_mem h)
  simp only [methOk, Bool.and_eq_true] at this
  have h3 := this.1.2
  simpa using h3

end Go.Proofs.YtehffhhiikahbaaDoor
