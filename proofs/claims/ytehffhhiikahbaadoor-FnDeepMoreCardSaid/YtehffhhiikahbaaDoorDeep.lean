/-
  How many values there are, without memory: what a right table is (Closed), that there is just one that is come to (DeepRes), and what one step of looking for it keeps (Inv, come_step).
-/
import Derived.Test.YtehffhhiikahbaaDoorTakes2
namespace Go.Proofs.YtehffhhiikahbaaDoor
open Go.RowKit

/-- the number at a place; -1, if there is none -/
def gt (f : List Int) (k : Int) : Int := f.getD k.toNat (-1)

theorem gt_nat (f : List Int) (k : Nat) (h : k < f.length) : gt f k = f[k] := by simp [gt, h]
theorem gt_set (f : List Int) (k : Nat) (h : k < f.length) (v : Int) (j : Nat) : gt (f.set k v) j = if j = k then v else gt f j := by
  by_cases e : j = k
  · subst e; simp [gt, h]
  · rw [if_neg e]
    simp [gt, Ne.symm e]

def opAt (ops : List (Int × Int)) (k : Int) : Int × Int := ops.getD k.toNat (0, 0)

theorem opAt_nat (ops : List (Int × Int)) (k : Nat) (h : k < ops.length) : opAt ops k = ops[k] := by simp [opAt, h]

/-- what may be next behind an operation -/
def nexts (op : Int × Int) (i : Int) : List Int := if op.1 = 10 then [] else if op.1 = 7 then [op.2] else if op.1 = 8 then [op.2, i + 1] else [i + 1]

/-- how many values are behind an operation, if there are so many ahead -/
def behind (ms : List (Int × Int × List (Int × Int))) (op : Int × Int) (d : Int) : Int := d - (takesOf ms op.1 op.2).1 + (takesOf ms op.1 op.2).2

/-- an operation fits the table -/
def Done (ms : List (Int × Int × List (Int × Int))) (ops : List (Int × Int)) (f : List Int) (i : Nat) : Prop :=
  (takesOf ms (opAt ops i).1 (opAt ops i).2).1 ≤ gt f i ∧ behind ms (opAt ops i) (gt f i) ≤ 6 ∧ ∀ k ∈ nexts (opAt ops i) i, 0 ≤ k ∧ k < ops.length ∧ gt f k = behind ms (opAt ops i) (gt f i)

/-- a right table -/
structure Closed (ms : List (Int × Int × List (Int × Int))) (ops : List (Int × Int)) (f : List Int) : Prop where
  len : f.length = ops.length
  pos : 0 < ops.length
  zero : gt f 0 = 0
  each : ∀ i : Nat, i < ops.length → 0 ≤ gt f i → Done ms ops f i

/-- the operations of a method -/
def opsOf (ms : List (Int × Int × List (Int × Int))) (m : Int) : List (Int × Int) := (ms.getD m.toNat (0, 0, [])).2.2

/-- of a method of an ok program: a right table -/
def Right (ms : List (Int × Int × List (Int × Int))) (m : Int) (f : List Int) : Prop := progOk ms = true ∧ inR m 0 ((ms.length : Int) - 1) = true ∧ Closed ms (opsOf ms m) f

/-- the answer of DeepAt -/
def DeepRes (ms : List (Int × Int × List (Int × Int))) (m : Int) (r : Bool) (f : List Int) : Prop :=
  (r = true ∧ Right ms m f ∧ (∀ i : Nat, i < f.length → -1 ≤ gt f i ∧ gt f i ≤ 6) ∧ ∀ g, Right ms m g → ∀ i : Nat, i < f.length → 0 ≤ gt f i → gt g i = gt f i) ∨ (r = false ∧ f = [] ∧ ∀ g, ¬ Right ms m g)

theorem DeepRes.one {ms : List (Int × Int × List (Int × Int))} {m : Int} {r r' : Bool} {f f' : List Int} (h : DeepRes ms m r f) (h' : DeepRes ms m r' f') : r = r' ∧ f = f' := by
  rcases h with ⟨rfl, hR, hb, hm⟩ | ⟨rfl, rfl, hn⟩
  · rcases h' with ⟨rfl, hR', hb', hm'⟩ | ⟨rfl, rfl, hn'⟩
    · refine ⟨rfl, ?_⟩
      have hl : f.length = f'.length := hR.2.2.len.trans hR'.2.2.len.symm
      refine List.ext_getElem hl fun i hi hi' => ?_
      rw [← gt_nat f i hi, ← gt_nat f' i hi']
      have h1 := hb i hi
      have h2 := hb' i hi'
      by_cases p : 0 ≤ gt f i
      · exact (hm f' hR' i hi p).symm
      · by_cases q : 0 ≤ gt f' i
        · have := hm' f hR i hi' q; omega
        · omega
    · exact absurd hR (hn' f)
  · rcases h' with ⟨rfl, hR', _⟩ | ⟨rfl, rfl, _⟩
    · exact absurd hR' (hn f')
    · exact ⟨rfl, rfl⟩

/-- looking: the table as far as it is known, those that are come to, but not gone on from; X: one that is gone on from just now -/
structure Inv (ms : List (Int × Int × List (Int × Int))) (ops : List (Int × Int)) (X : Nat → Prop) (ah q : List Int) : Prop where
  len : ah.length = ops.length
  pos : 0 < ops.length
  bnd : ∀ i : Nat, i < ops.length → -1 ≤ gt ah i ∧ gt ah i ≤ 6
  zero : gt ah 0 = 0
  sound : ∀ g, Closed ms ops g → ∀ i : Nat, i < ops.length → 0 ≤ gt ah i → gt g i = gt ah i
  queue : ∀ k ∈ q, ∃ j : Nat, k = j ∧ j < ops.length ∧ 0 ≤ gt ah j
  done : ∀ i : Nat, i < ops.length → 0 ≤ gt ah i → (i : Int) ∉ q → ¬ X i → Done ms ops ah i

/-- how much there is to do -/
def todo (ah q : List Int) : Nat := ah.count (-1) + q.length

theorem Inv.start (ms : List (Int × Int × List (Int × Int))) (ops : List (Int × Int)) (h : 0 < ops.length) : Inv ms ops (fun _ => False) ((List.replicate ops.length (-1)).set 0 0) [0] := by
  have hl : (0 : Nat) < (List.replicate ops.length (-1 : Int)).length := by simpa using h
  have hg : ∀ j : Nat, gt ((List.replicate ops.length (-1)).set 0 0) j = if j = 0 then 0 else -1 := fun j => by
    rw [gt_set _ 0 hl 0 j]
    by_cases e : j = 0
    · rw [if_pos e, if_pos e]
    · rw [if_neg e, if_neg e]
      by_cases hj : j < ops.length
      · simp [gt, hj]
      · simp [gt, hj]
  refine ⟨by simp, h, fun i hi => ?_, hg 0, fun g hc i hi h0 => ?_, fun k hk => ?_, fun i hi h0 hq _ => ?_⟩
  · rw [hg]; split <;> omega
  · rw [hg] at h0 ⊢
    split at h0
    · rename_i e; subst e; rw [if_pos rfl]; exact hc.zero
    · omega
  · simp at hk; subst hk; exact ⟨0, rfl, h, by rw [hg]; simp⟩
  · rw [hg] at h0
    split at h0
    · rename_i e; subst e; simp at hq
    · omega

theorem Inv.pop {ms : List (Int × Int × List (Int × Int))} {ops : List (Int × Int)} {ah q : List Int} {k : Nat} (h : Inv ms ops (fun _ => False) ah ((k : Int) :: q)) : Inv ms ops (fun i => i = k) ah q :=
  ⟨h.len, h.pos, h.bnd, h.zero, h.sound, fun j hj => h.queue j (List.mem_cons_of_mem _ hj), fun i hi h0 hq hX => h.done i hi h0 (by simp; exact ⟨fun e => hX (by omega), hq⟩) (fun h => h)⟩

theorem Inv.push {ms : List (Int × Int × List (Int × Int))} {ops : List (Int × Int)} {ah q : List Int} {k : Nat} (h : Inv ms ops (fun i => i = k) ah q) (hd : Done ms ops ah k) : Inv ms ops (fun _ => False) ah q :=
  ⟨h.len, h.pos, h.bnd, h.zero, h.sound, h.queue, fun i hi h0 hq _ => by
    by_cases e : i = k
    · subst e; exact hd
    · exact h.done i hi h0 hq e⟩

/-- one comes to k, with v values -/
def comeP (ah q : List Int) (k v : Int) : Bool × List Int × List Int :=
  if inR k 0 ((ah.length : Int) - 1) = true then (if gt ah k = -1 then (true, ah.set k.toNat v, q ++ [k]) else (gt ah k == v, ah, q)) else (false, ah, q)

theorem count_set (l : List Int) (k : Nat) (h : k < l.length) (v : Int) (h1 : l[k] = -1) (h2 : v ≠ -1) : (l.set k v).count (-1) + 1 = l.count (-1) := by
  rw [List.count_set h]
  have : 0 < l.count (-1) := List.count_pos_iff.2 (h1 ▸ List.getElem_mem h)
  simp [h1, h2]
  omega

/-- what it keeps, if k is next behind 'at' -/
theorem come_step {ms : List (Int × Int × List (Int × Int))} {ops : List (Int × Int)} {ah q : List Int} {pl : Nat} (h : Inv ms ops (fun i => i = pl) ah q) (hpl : pl < ops.length) (h0 : 0 ≤ gt ah pl)
    (k : Int) (hk : k ∈ nexts (opAt ops pl) pl) (hv0 : 0 ≤ behind ms (opAt ops pl) (gt ah pl)) (hv6 : behind ms (opAt ops pl) (gt ah pl) ≤ 6) :
    ((comeP ah q k (behind ms (opAt ops pl) (gt ah pl))).1 = false → ∀ g, ¬ Closed ms ops g) ∧
    ((comeP ah q k (behind ms (opAt ops pl) (gt ah pl))).1 = true → Inv ms ops (fun i => i = pl) (comeP ah q k (behind ms (opAt ops pl) (gt ah pl))).2.1 (comeP ah q k (behind ms (opAt ops pl) (gt ah pl))).2.2 ∧
      todo (comeP ah q k (behind ms (opAt ops pl) (gt ah pl))).2.1 (comeP ah q k (behind ms (opAt ops pl) (gt ah pl))).2.2 = todo ah q ∧
      (∀ i : Nat, 0 ≤ gt ah i → gt (comeP ah q k (behind ms (opAt ops pl) (gt ah pl))).2.1 i = gt ah i) ∧ 0 ≤ k ∧ k < ops.length ∧ gt (comeP ah q k (behind ms (opAt ops pl) (gt ah pl))).2.1 k = behind ms (opAt ops pl) (gt ah pl)) := by
  have hcl : ∀ g, Closed ms ops g → 0 ≤ k ∧ k < ops.length ∧ gt g k = behind ms (opAt ops pl) (gt ah pl) := fun g hg => by
    have e := h.sound g hg pl hpl h0
    have := (hg.each pl hpl (by omega)).2.2 k hk
    rwa [e] at this
  generalize behind ms (opAt ops pl) (gt ah pl) = v at *
  unfold comeP
  by_cases hr : inR k 0 ((ah.length : Int) - 1) = true
  · rw [if_pos hr]
    have hr' := inR_true.1 hr
    rw [h.len] at hr'
    obtain ⟨n, rfl⟩ := Int.eq_ofNat_of_zero_le hr'.1
    have hn : n < ops.length := by omega
    have hna : n < ah.length := by rw [h.len]; exact hn
    by_cases hm : gt ah n = -1
    · rw [if_pos hm]
      have hne : pl ≠ n := fun e => by subst e; omega
      have hs : ∀ j : Nat, gt (ah.set n v) j = if j = n then v else gt ah j := gt_set ah n hna v
      refine ⟨(fun e => by cases e), fun _ => ⟨⟨by simp [h.len], h.pos, fun i hi => ?_, ?_, fun g hg i hi hi0 => ?_, fun j hj => ?_, fun i hi hi0 hiq hX => ?_⟩, ?_, fun i hi => ?_, by omega, by omega, ?_⟩⟩
      · show -1 ≤ gt (ah.set n v) i ∧ gt (ah.set n v) i ≤ 6
        rw [hs]; split
        · omega
        · exact h.bnd i hi
      · show gt (ah.set n v) ((0 : Nat) : Int) = 0
        have := h.zero
        rw [hs, if_neg (fun e => by subst e; simp at hm; omega)]; exact this
      · show gt g i = gt (ah.set n v) i
        have hi0' : 0 ≤ gt (ah.set n v) i := hi0
        rw [hs] at hi0' ⊢
        split
        · rename_i e; subst e; exact (hcl g hg).2.2
        · rename_i e; rw [if_neg e] at hi0'; exact h.sound g hg i hi hi0'
      · simp at hj
        show ∃ j' : Nat, j = j' ∧ j' < ops.length ∧ 0 ≤ gt (ah.set n v) j'
        rcases hj with hj | rfl
        · obtain ⟨j', e, hj', hj0⟩ := h.queue j hj
          refine ⟨j', e, hj', ?_⟩
          rw [hs]; split
          · exact hv0
          · exact hj0
        · exact ⟨n, rfl, hn, by rw [hs, if_pos rfl]; exact hv0⟩
      · have hi0' : 0 ≤ gt (ah.set n v) i := hi0
        simp at hiq
        have hin : i ≠ n := fun e => hiq.2 (by omega)
        rw [hs, if_neg hin] at hi0'
        obtain ⟨d1, d2, d3⟩ := h.done i hi hi0' hiq.1 hX
        show Done ms ops (ah.set n v) i
        refine ⟨by rw [hs, if_neg hin]; exact d1, by rw [hs, if_neg hin]; exact d2, fun j hj => ?_⟩
        obtain ⟨e1, e2, e3⟩ := d3 j hj
        obtain ⟨j', rfl⟩ := Int.eq_ofNat_of_zero_le e1
        refine ⟨e1, e2, ?_⟩
        rw [hs, hs, if_neg hin]
        by_cases ej : j' = n
        · subst ej
          exfalso
          have ht : 0 ≤ (takesOf ms (opAt ops i).1 (opAt ops i).2).2 := by
            unfold takesOf lv
            split
            · split <;> simp
            · simp only; split <;> omega
          unfold behind at e3
          omega
        · rw [if_neg ej]; exact e3
      · show todo (ah.set n v) (q ++ [(n : Int)]) = todo ah q
        have hc := count_set ah n hna v (by rw [← gt_nat ah n hna]; exact hm) (by omega)
        simp only [todo, List.length_append, List.length_singleton]
        omega
      · show gt (ah.set n v) i = gt ah i
        rw [hs, if_neg (fun e => by subst e; omega)]
      · show gt (ah.set n v) n = v
        rw [hs, if_pos rfl]
    · rw [if_neg hm]
      have hb := h.bnd n hn
      refine ⟨fun e g hg => ?_, fun e => ⟨h, rfl, fun _ _ => rfl, by omega, by omega, ?_⟩⟩
      · have e' : (gt ah n == v) = false := e
        rw [beq_eq_false_iff_ne] at e'
        have := h.sound g hg n hn (by omega)
        exact e' (by rw [← this]; exact (hcl g hg).2.2)
      · have e' : (gt ah n == v) = true := e
        exact beq_iff_eq.1 e'
  · rw [if_neg hr]
    refine ⟨fun _ g hg => hr (inR_true.2 ?_), fun e => by cases e⟩
    have := hcl g hg
    rw [h.len]
    omega

end Go.Proofs.YtehffhhiikahbaaDoor
