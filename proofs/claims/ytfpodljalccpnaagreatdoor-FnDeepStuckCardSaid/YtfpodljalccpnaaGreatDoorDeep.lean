/-
  OpTakes, the document's model and the program: both answer the plain function takesOf; they write to nothing that was there. The program reads its table opForms: where that table lies as its text lays it.
-/
import Derived.Test.YtfpodljalccpnaaGreatDoorSpecOk
import Derived.Deep.RegionHeld3
import Derived.BigQuiet
import Derived.Deep.QuietTactic

namespace Go.Proofs.YtfpodljalccpnaaGreatDoor
open Go.RowKit
def tk (k : Int) : Int := if k = 3 ∨ k = 4 ∨ k = 8 ∨ k = 10 ∨ k = 16 ∨ k = 12 ∨ k = 13 ∨ k = 17 ∨ k = 18 then 1 else if k = 5 ∨ k = 6 ∨ k = 14 ∨ k = 15 then 2 else 0
def lv (k : Int) : Int := if k = 1 ∨ k = 2 ∨ k = 5 ∨ k = 6 ∨ k = 9 ∨ k = 11 ∨ k = 12 ∨ k = 13 ∨ k = 15 ∨ k = 17 ∨ k = 18 then 1 else 0
def takesOf (ms : List (Int × Int × List (Int × Int))) (k a : Int) : Int × Int :=
  if k = 9 then (if inR a 0 ((ms.length : Int) - 1) then ((ms.getD a.toNat (0, 0, [])).1, 1) else (0, 0)) else (tk k, lv k)
theorem tk_none {k : Int} (h : ¬ (1 ≤ k ∧ k ≤ 18)) : tk k = 0 := by
  unfold tk
  have h1 : ¬ (k = 3 ∨ k = 4 ∨ k = 8 ∨ k = 10 ∨ k = 16 ∨ k = 12 ∨ k = 13 ∨ k = 17 ∨ k = 18) := by omega
  have h2 : ¬ (k = 5 ∨ k = 6 ∨ k = 14 ∨ k = 15) := by omega
  rw [if_neg h1, if_neg h2]
theorem lv_none {k : Int} (h : ¬ (1 ≤ k ∧ k ≤ 18)) : lv k = 0 := by
  unfold lv
  have h1 : ¬ (k = 1 ∨ k = 2 ∨ k = 5 ∨ k = 6 ∨ k = 9 ∨ k = 11 ∨ k = 12 ∨ k = 13 ∨ k = 15 ∨ k = 17 ∨ k = 18) := by omega
  rw [if_neg h1]
theorem takesOf_call {ms : List (Int × Int × List (Int × Int))} {a : Nat} (h : a < ms.length) : takesOf ms 9 a = (ms[a].1, 1) := by
  simp only [takesOf, if_true]
  rw [inR_true.2 (by omega)]
  simp [h]
theorem takesOf_no {ms : List (Int × Int × List (Int × Int))} {a : Int} (h : inR a 0 ((ms.length : Int) - 1) = false) : takesOf ms 9 a = (0, 0) := by
  simp [takesOf, h]
def TabAt (w : World) : Prop := ∀ k : Nat, k < 19 → (∃ s, w.cell? ⟨0, k * 3, none⟩ = some (.string s)) ∧ w.cell? ⟨0, k * 3 + 1, none⟩ = some (.int .i64 (tk k)) ∧ w.cell? ⟨0, k * 3 + 2, none⟩ = some (.int .i64 (lv k))
theorem TabAt.below {w w' : World} (h : TabAt w) (hb : Below w.heap.size w w') : TabAt w' := fun k hk => by
  obtain ⟨⟨s, h0⟩, h1, h2⟩ := h k hk
  exact ⟨⟨s, cell_below hb h0⟩, cell_below hb h1, cell_below hb h2⟩
theorem below_drewN2 {B : Nat} {a w : World} (h : Below B a w) : ∀ n, Below B a (w.drewN n)
  | 0 => h
  | n + 1 => by
    have := below_drewN2 h n
    exact ⟨this.os, this.tape, this.output, this.size, this.block⟩
theorem kinds_of {k : Int} (h1 : 1 ≤ k) (h2 : k ≤ 18) (h9 : ¬ k = 9) : k = 1 ∨ k = 2 ∨ k = 3 ∨ k = 4 ∨ k = 5 ∨ k = 6 ∨ k = 7 ∨ k = 8 ∨ k = 10 ∨ k = 11 ∨ k = 12 ∨ k = 13 ∨ k = 14 ∨ k = 15 ∨ k = 16 ∨ k = 17 ∨ k = 18 := by omega
set_option maxHeartbeats 4000000 in
theorem specTakes_any (v : Value) (ms : List (Int × Int × List (Int × Int))) (k a : Int) (w : World) (h : MethsAt w v ms) :
    Calls Tryz.prog 91 #[.agg #[v], .agg #[.int .i64 k, .int .i64 a]] w fun e w' => e = .returned (.tuple #[.int .i64 (takesOf ms k a).1, .int .i64 (takesOf ms k a).2]) ∧ Below w.heap.size w w' := by
  obtain ⟨ad, cap, rfl, hl, hc⟩ := h
  have hB : ∀ o1 o2, Below w.heap.size w ((w.alloc o1).alloc o2) := fun o1 o2 => ((Below.refl _ _).alloc (Nat.le_refl _) _).alloc (by simp) _
  unfold maxLen at hl
  by_cases h9 : k = 9
  · subst h9
    cases hin : inR a 0 ((ms.length : Int) - 1)
    · rw [takesOf_no hin]
      go_enter Tryz.func91, Tryz.ntmps91
      go_wp2_with (go_at_call 49; refine (l6In_any _ _ _ _).mono ?_; rintro e w' ⟨rfl, rfl⟩)
      go_ret2
      exact ⟨rfl, hB _ _⟩
    · have hr := inR_true.1 hin
      obtain ⟨n, rfl⟩ := Int.eq_ofNat_of_zero_le hr.1
      have hn : n < ms.length := by omega
      rw [takesOf_call hn]
      obtain ⟨b, o, vo, rfl, c0, c1, c2, c3⟩ := hc n hn
      have e0 : ∀ o1 o2, ((w.alloc o1).alloc o2).cell? ⟨b, o + n * 3, none⟩ = some (.int .i64 ms[n].1) := fun o1 o2 => cell_below (hB o1 o2) c0
      have hnz : (n : Int) < ms.length := by omega
      clear c0 c1 c2 c3 hc hr
      go_enter Tryz.func91, Tryz.ntmps91
      go_wp2_with (go_at_call 49; refine (l6In_any _ _ _ _).mono ?_; rintro e w' ⟨rfl, rfl⟩)
      go_ret2
      exact ⟨rfl, hB _ _⟩
  by_cases hk : 1 ≤ k ∧ k ≤ 18
  · have hT : takesOf ms k a = (tk k, lv k) := by simp [takesOf, h9]
    rw [hT]
    clear hc hT
    rcases kinds_of hk.1 hk.2 h9 with rfl | rfl | rfl | rfl | rfl | rfl | rfl | rfl | rfl | rfl | rfl | rfl | rfl | rfl | rfl | rfl | rfl
    all_goals
      clear hk h9
      go_enter Tryz.func91, Tryz.ntmps91
      go_wp2
      go_ret2
      exact ⟨rfl, hB _ _⟩
  · have hT : takesOf ms k a = (0, 0) := by
      simp only [takesOf, h9, if_false, tk_none hk, lv_none hk]
    rw [hT]
    clear hc hT
    have e1 : (k == 1) = false := beq_eq_false_iff_ne.2 (by omega)
    have e2 : (k == 2) = false := beq_eq_false_iff_ne.2 (by omega)
    have e3 : (k == 3) = false := beq_eq_false_iff_ne.2 (by omega)
    have e4 : (k == 4) = false := beq_eq_false_iff_ne.2 (by omega)
    have e5 : (k == 5) = false := beq_eq_false_iff_ne.2 (by omega)
    have e6 : (k == 6) = false := beq_eq_false_iff_ne.2 (by omega)
    have e7 : (k == 7) = false := beq_eq_false_iff_ne.2 (by omega)
    have e8 : (k == 8) = false := beq_eq_false_iff_ne.2 (by omega)
    have e9 : (k == 9) = false := beq_eq_false_iff_ne.2 (by omega)
    have e10 : (k == 10) = false := beq_eq_false_iff_ne.2 (by omega)
    have e11 : (k == 11) = false := beq_eq_false_iff_ne.2 (by omega)
    have e12 : (k == 12) = false := beq_eq_false_iff_ne.2 (by omega)
    have e13 : (k == 13) = false := beq_eq_false_iff_ne.2 (by omega)
    have e14 : (k == 14) = false := beq_eq_false_iff_ne.2 (by omega)
    have e15 : (k == 15) = false := beq_eq_false_iff_ne.2 (by omega)
    have e16 : (k == 16) = false := beq_eq_false_iff_ne.2 (by omega)
    have e17 : (k == 17) = false := beq_eq_false_iff_ne.2 (by omega)
    have e18 : (k == 18) = false := beq_eq_false_iff_ne.2 (by omega)
    clear hk h9
    go_enter Tryz.func91, Tryz.ntmps91
    go_wp2
    go_ret2
    exact ⟨rfl, hB _ _⟩
set_option maxHeartbeats 4000000 in
theorem implTakes_any (v : Value) (ms : List (Int × Int × List (Int × Int))) (k a : Int) (w : World) (h : MethsAt w v ms) (ht : TabAt w) :
    Calls Tryz.prog 96 #[.agg #[v], .agg #[.int .i64 k, .int .i64 a]] w fun e w' => e = .returned (.tuple #[.int .i64 (takesOf ms k a).1, .int .i64 (takesOf ms k a).2]) ∧ Below w.heap.size w w' := by
  obtain ⟨ad, cap, rfl, hl, hc⟩ := h
  have hB : ∀ o1 o2, Below w.heap.size w ((w.alloc o1).alloc o2) := fun o1 o2 => ((Below.refl _ _).alloc (Nat.le_refl _) _).alloc (by simp) _
  have hB3 : ∀ o1 o2 o3, Below w.heap.size w (((w.alloc o1).alloc o2).alloc o3) := fun o1 o2 o3 => (hB o1 o2).alloc (by simp; omega) _
  unfold maxLen at hl
  cases hk : inR k 1 18
  · have hk' := inR_false.1 hk
    have hT : takesOf ms k a = (0, 0) := by
      have h9 : ¬ k = 9 := by omega
      simp only [takesOf, h9, if_false, tk_none hk', lv_none hk']
    rw [hT]
    clear hc hT ht
    go_enter Tryz.func96, Tryz.ntmps96
    go_wp2_with (go_at_call 98; refine (isKind_any _ _).mono ?_; rintro e w' ⟨rfl, rfl⟩)
    go_ret2
    exact ⟨rfl, hB _ _⟩
  have hr := inR_true.1 hk
  obtain ⟨n, rfl⟩ := Int.eq_ofNat_of_zero_le (show 0 ≤ k by omega)
  obtain ⟨⟨s, t0⟩, t1, t2⟩ := ht n (by omega)
  have T0 : ∀ o1 o2, ((w.alloc o1).alloc o2).cell? ⟨0, n * 3, none⟩ = some (.string s) := fun o1 o2 => cell_below (hB o1 o2) t0
  have T1 : ∀ o1 o2, ((w.alloc o1).alloc o2).cell? ⟨0, n * 3 + 1, none⟩ = some (.int .i64 (tk n)) := fun o1 o2 => cell_below (hB o1 o2) t1
  have T2 : ∀ o1 o2, ((w.alloc o1).alloc o2).cell? ⟨0, n * 3 + 2, none⟩ = some (.int .i64 (lv n)) := fun o1 o2 => cell_below (hB o1 o2) t2
  have hn19 : (n : Int) < 19 := by omega
  clear t0 t1 t2 ht hr
  cases h9 : ((n : Int) == 9)
  · have hT : takesOf ms n a = (tk n, lv n) := by
      rw [beq_eq_false_iff_ne] at h9
      simp only [takesOf, h9, if_false]
    have h9' : ((n : Int) != 9) = true := by simp only [bne, h9]; rfl
    rw [hT]
    clear hc hT
    go_enter Tryz.func96, Tryz.ntmps96
    go_wp2_with (go_at_call 98; refine (isKind_any _ _).mono ?_; rintro e w' ⟨rfl, rfl⟩)
    go_quiet (fail)
    go_wp2
    go_ret2
    exact ⟨rfl, below_drewN2 (hB3 _ _ _) _⟩
  obtain rfl : n = 9 := by rw [beq_iff_eq] at h9; omega
  cases hin : inR a 0 ((ms.length : Int) - 1)
  · rw [show takesOf ms ((9 : Nat) : Int) a = (0, 0) from takesOf_no hin]
    go_enter Tryz.func96, Tryz.ntmps96
    go_wp2_with (first | (go_at_call 98; refine (isKind_any _ _).mono ?_; rintro e w' ⟨rfl, rfl⟩) | (go_at_call 64; refine (isPlace_any _ _ _).mono ?_; rintro e w' ⟨rfl, rfl⟩))
    go_ret2
    exact ⟨rfl, hB3 _ _ _⟩
  · have hra := inR_true.1 hin
    obtain ⟨m, rfl⟩ := Int.eq_ofNat_of_zero_le hra.1
    have hm : m < ms.length := by omega
    rw [show takesOf ms ((9 : Nat) : Int) m = (ms[m].1, 1) from takesOf_call hm]
    obtain ⟨b, o, vo, rfl, c0, c1, c2, c3⟩ := hc m hm
    have e0 : ∀ o1 o2 o3, (((w.alloc o1).alloc o2).alloc o3).cell? ⟨b, o + m * 3, none⟩ = some (.int .i64 ms[m].1) := fun o1 o2 o3 => cell_below (hB3 o1 o2 o3) c0
    have hmz : (m : Int) < ms.length := by omega
    clear c0 c1 c2 c3 hc hra
    go_enter Tryz.func96, Tryz.ntmps96
    go_wp2_with (first | (go_at_call 98; refine (isKind_any _ _).mono ?_; rintro e w' ⟨rfl, rfl⟩) | (go_at_call 64; refine (isPlace_any _ _ _).mono ?_; rintro e w' ⟨rfl, rfl⟩))
    go_quiet (fail)
    go_wp2
    go_ret2
    exact ⟨rfl, below_drewN2 (hB3 _ _ _) _⟩
end Go.Proofs.YtfpodljalccpnaaGreatDoor

/-
  How many values there are, without memory: what a right table is (Closed), that there is just one that is come to (DeepRes), and what one step of looking for it keeps (Inv, come_step).
-/
namespace Go.Proofs.YtfpodljalccpnaaGreatDoor
open Go.RowKit
def gt (f : List Int) (k : Int) : Int := f.getD k.toNat (-1)
theorem gt_nat (f : List Int) (k : Nat) (h : k < f.length) : gt f k = f[k] := by simp [gt, h]
theorem gt_set (f : List Int) (k : Nat) (h : k < f.length) (v : Int) (j : Nat) : gt (f.set k v) j = if j = k then v else gt f j := by
  by_cases e : j = k
  · subst e; simp [gt, h]
  · rw [if_neg e]
    simp [gt, Ne.symm e]
def opAt (ops : List (Int × Int)) (k : Int) : Int × Int := ops.getD k.toNat (0, 0)
theorem opAt_nat (ops : List (Int × Int)) (k : Nat) (h : k < ops.length) : opAt ops k = ops[k] := by simp [opAt, h]
def nexts (op : Int × Int) (i : Int) : List Int := if op.1 = 10 then [] else if op.1 = 7 then [op.2] else if op.1 = 8 then [op.2, i + 1] else [i + 1]
def behind (ms : List (Int × Int × List (Int × Int))) (op : Int × Int) (d : Int) : Int := d - (takesOf ms op.1 op.2).1 + (takesOf ms op.1 op.2).2
def Done (ms : List (Int × Int × List (Int × Int))) (ops : List (Int × Int)) (f : List Int) (i : Nat) : Prop :=
  (takesOf ms (opAt ops i).1 (opAt ops i).2).1 ≤ gt f i ∧ behind ms (opAt ops i) (gt f i) ≤ 6 ∧ ∀ k ∈ nexts (opAt ops i) i, 0 ≤ k ∧ k < ops.length ∧ gt f k = behind ms (opAt ops i) (gt f i)
structure Closed (ms : List (Int × Int × List (Int × Int))) (ops : List (Int × Int)) (f : List Int) : Prop where
  len : f.length = ops.length
  pos : 0 < ops.length
  zero : gt f 0 = 0
  each : ∀ i : Nat, i < ops.length → 0 ≤ gt f i → Done ms ops f i
def opsOf (ms : List (Int × Int × List (Int × Int))) (m : Int) : List (Int × Int) := (ms.getD m.toNat (0, 0, [])).2.2
def Right (ms : List (Int × Int × List (Int × Int))) (m : Int) (f : List Int) : Prop := progOk ms = true ∧ inR m 0 ((ms.length : Int) - 1) = true ∧ Closed ms (opsOf ms m) f
def DeepRes (ms : List (Int × Int × List (Int × Int))) (m : Int) (r : Bool) (f : List Int) : Prop :=
  (r = true ∧ Right ms m f ∧ (∀ i : Nat, i < f.length → -1 ≤ gt f i ∧ gt f i ≤ 6) ∧ ∀ g, Right ms m g → ∀ i : Nat, i < f.length → 0 ≤ gt f i → gt g i = gt f i) ∨ (r = false ∧ f = [] ∧ ∀ g, ¬ Right ms m g)
theorem DeepRes.one {ms : List (Int × Int × List (Int × Int))} {m : Int} {r r' : Bool} {f f' : List Int} (h : DeepRes ms m r f) (h' : DeepRes ms m r' f') : r = r' ∧ f = f' := by
  rcases h with ⟨rfl, hR, hb, hm⟩ | ⟨rfl, rfl, hn⟩
  · rcases h' with ⟨rfl, hR', hb', hm'⟩ | ⟨rfl, rfl, hn'⟩
    · refine ⟨rfl, ?_⟩
      have hl : f.length = f'.length := hR.2.2.len.trans hR'.2.2.len.symm
      refine List.ext_getElem hl fun i hi hi' => ?_
      rw [← gt_nat f i hi, ← gt_nat f' i hi']
      have h1 := hb i hi
      have h2 := hb' i hi'
      by_cases p : 0 ≤ gt f i
      · exact (hm f' hR' i hi p).symm
      · by_cases q : 0 ≤ gt f' i
        · have := hm' f hR i hi' q; omega
        · omega
    · exact absurd hR (hn' f)
  · rcases h' with ⟨rfl, hR', _⟩ | ⟨rfl, rfl, _⟩
    · exact absurd hR' (hn f')
    · exact ⟨rfl, rfl⟩
structure Inv (ms : List (Int × Int × List (Int × Int))) (ops : List (Int × Int)) (X : Nat → Prop) (ah q : List Int) : Prop where
  len : ah.length = ops.length
  pos : 0 < ops.length
  bnd : ∀ i : Nat, i < ops.length → -1 ≤ gt ah i ∧ gt ah i ≤ 6
  zero : gt ah 0 = 0
  sound : ∀ g, Closed ms ops g → ∀ i : Nat, i < ops.length → 0 ≤ gt ah i → gt g i = gt ah i
  queue : ∀ k ∈ q, ∃ j : Nat, k = j ∧ j < ops.length ∧ 0 ≤ gt ah j
  done : ∀ i : Nat, i < ops.length → 0 ≤ gt ah i → (i : Int) ∉ q → ¬ X i → Done ms ops ah i
def todo (ah q : List Int) : Nat := ah.count (-1) + q.length
theorem Inv.start (ms : List (Int × Int × List (Int × Int))) (ops : List (Int × Int)) (h : 0 < ops.length) : Inv ms ops (fun _ => False) ((List.replicate ops.length (-1)).set 0 0) [0] := by
  have hl : (0 : Nat) < (List.replicate ops.length (-1 : Int)).length := by simpa using h
  have hg : ∀ j : Nat, gt ((List.replicate ops.length (-1)).set 0 0) j = if j = 0 then 0 else -1 := fun j => by
    rw [gt_set _ 0 hl 0 j]
    by_cases e : j = 0
    · rw [if_pos e, if_pos e]
    · rw [if_neg e, if_neg e]
      by_cases hj : j < ops.length
      · simp [gt, hj]
      · simp [gt, hj]
  refine ⟨by simp, h, fun i hi => ?_, hg 0, fun g hc i hi h0 => ?_, fun k hk => ?_, fun i hi h0 hq _ => ?_⟩
  · rw [hg]; split <;> omega
  · rw [hg] at h0 ⊢
    split at h0
    · rename_i e; subst e; rw [if_pos rfl]; exact hc.zero
    · omega
  · simp at hk; subst hk; exact ⟨0, rfl, h, by rw [hg]; simp⟩
  · rw [hg] at h0
    split at h0
    · rename_i e; subst e; simp at hq
    · omega
theorem Inv.pop {ms : List (Int × Int × List (Int × Int))} {ops : List (Int × Int)} {ah q : List Int} {k : Nat} (h : Inv ms ops (fun _ => False) ah ((k : Int) :: q)) : Inv ms ops (fun i => i = k) ah q :=
  ⟨h.len, h.pos, h.bnd, h.zero, h.sound, fun j hj => h.queue j (List.mem_cons_of_mem _ hj), fun i hi h0 hq hX => h.done i hi h0 (by simp; exact ⟨fun e => hX (by omega), hq⟩) (fun h => h)⟩
theorem Inv.push {ms : List (Int × Int × List (Int × Int))} {ops : List (Int × Int)} {ah q : List Int} {k : Nat} (h : Inv ms ops (fun i => i = k) ah q) (hd : Done ms ops ah k) : Inv ms ops (fun _ => False) ah q :=
  ⟨h.len, h.pos, h.bnd, h.zero, h.sound, h.queue, fun i hi h0 hq _ => by
    by_cases e : i = k
    · subst e; exact hd
    · exact h.done i hi h0 hq e⟩
def dd_comeP (ah q : List Int) (k v : Int) : Bool × List Int × List Int :=
  if inR k 0 ((ah.length : Int) - 1) = true then (if gt ah k = -1 then (true, ah.set k.toNat v, q ++ [k]) else (gt ah k == v, ah, q)) else (false, ah, q)
theorem count_set (l : List Int) (k : Nat) (h : k < l.length) (v : Int) (h1 : l[k] = -1) (h2 : v ≠ -1) : (l.set k v).count (-1) + 1 = l.count (-1) := by
  rw [List.count_set h]
  have : 0 < l.count (-1) := List.count_pos_iff.2 (h1 ▸ List.getElem_mem h)
  simp [h1, h2]
  omega
theorem come_step {ms : List (Int × Int × List (Int × Int))} {ops : List (Int × Int)} {ah q : List Int} {pl : Nat} (h : Inv ms ops (fun i => i = pl) ah q) (hpl : pl < ops.length) (h0 : 0 ≤ gt ah pl)
    (k : Int) (hk : k ∈ nexts (opAt ops pl) pl) (hv0 : 0 ≤ behind ms (opAt ops pl) (gt ah pl)) (hv6 : behind ms (opAt ops pl) (gt ah pl) ≤ 6) :
    ((dd_comeP ah q k (behind ms (opAt ops pl) (gt ah pl))).1 = false → ∀ g, ¬ Closed ms ops g) ∧
    ((dd_comeP ah q k (behind ms (opAt ops pl) (gt ah pl))).1 = true → Inv ms ops (fun i => i = pl) (dd_comeP ah q k (behind ms (opAt ops pl) (gt ah pl))).2.1 (dd_comeP ah q k (behind ms (opAt ops pl) (gt ah pl))).2.2 ∧
      todo (dd_comeP ah q k (behind ms (opAt ops pl) (gt ah pl))).2.1 (dd_comeP ah q k (behind ms (opAt ops pl) (gt ah pl))).2.2 = todo ah q ∧
      (∀ i : Nat, 0 ≤ gt ah i → gt (dd_comeP ah q k (behind ms (opAt ops pl) (gt ah pl))).2.1 i = gt ah i) ∧ 0 ≤ k ∧ k < ops.length ∧ gt (dd_comeP ah q k (behind ms (opAt ops pl) (gt ah pl))).2.1 k = behind ms (opAt ops pl) (gt ah pl)) := by
  have hcl : ∀ g, Closed ms ops g → 0 ≤ k ∧ k < ops.length ∧ gt g k = behind ms (opAt ops pl) (gt ah pl) := fun g hg => by
    have e := h.sound g hg pl hpl h0
    have := (hg.each pl hpl (by omega)).2.2 k hk
    rwa [e] at this
  generalize behind ms (opAt ops pl) (gt ah pl) = v at *
  unfold dd_comeP
  by_cases hr : inR k 0 ((ah.length : Int) - 1) = true
  · rw [if_pos hr]
    have hr' := inR_true.1 hr
    rw [h.len] at hr'
    obtain ⟨n, rfl⟩ := Int.eq_ofNat_of_zero_le hr'.1
    have hn : n < ops.length := by omega
    have hna : n < ah.length := by rw [h.len]; exact hn
    by_cases hm : gt ah n = -1
    · rw [if_pos hm]
      have hne : pl ≠ n := fun e => by subst e; omega
      have hs : ∀ j : Nat, gt (ah.set n v) j = if j = n then v else gt ah j := gt_set ah n hna v
      refine ⟨(fun e => by cases e), fun _ => ⟨⟨by simp [h.len], h.pos, fun i hi => ?_, ?_, fun g hg i hi hi0 => ?_, fun j hj => ?_, fun i hi hi0 hiq hX => ?_⟩, ?_, fun i hi => ?_, by omega, by omega, ?_⟩⟩
      · show -1 ≤ gt (ah.set n v) i ∧ gt (ah.set n v) i ≤ 6
        rw [hs]; split
        · omega
        · exact h.bnd i hi
      · show gt (ah.set n v) ((0 : Nat) : Int) = 0
        have := h.zero
        rw [hs, if_neg (fun e => by subst e; simp at hm; omega)]; exact this
      · show gt g i = gt (ah.set n v) i
        have hi0' : 0 ≤ gt (ah.set n v) i := hi0
        rw [hs] at hi0' ⊢
        split
        · rename_i e; subst e; exact (hcl g hg).2.2
        · rename_i e; rw [if_neg e] at hi0'; exact h.sound g hg i hi hi0'
      · simp at hj
        show ∃ j' : Nat, j = j' ∧ j' < ops.length ∧ 0 ≤ gt (ah.set n v) j'
        rcases hj with hj | rfl
        · obtain ⟨j', e, hj', hj0⟩ := h.queue j hj
          refine ⟨j', e, hj', ?_⟩
          rw [hs]; split
          · exact hv0
          · exact hj0
        · exact ⟨n, rfl, hn, by rw [hs, if_pos rfl]; exact hv0⟩
      · have hi0' : 0 ≤ gt (ah.set n v) i := hi0
        simp at hiq
        have hin : i ≠ n := fun e => hiq.2 (by omega)
        rw [hs, if_neg hin] at hi0'
        obtain ⟨d1, d2, d3⟩ := h.done i hi hi0' hiq.1 hX
        show Done ms ops (ah.set n v) i
        refine ⟨by rw [hs, if_neg hin]; exact d1, by rw [hs, if_neg hin]; exact d2, fun j hj => ?_⟩
        obtain ⟨e1, e2, e3⟩ := d3 j hj
        obtain ⟨j', rfl⟩ := Int.eq_ofNat_of_zero_le e1
        refine ⟨e1, e2, ?_⟩
        rw [hs, hs, if_neg hin]
        by_cases ej : j' = n
        · subst ej
          exfalso
          have ht : 0 ≤ (takesOf ms (opAt ops i).1 (opAt ops i).2).2 := by
            unfold takesOf lv
            split
            · split <;> simp
            · simp only; split <;> omega
          unfold behind at e3
          omega
        · rw [if_neg ej]; exact e3
      · show todo (ah.set n v) (q ++ [(n : Int)]) = todo ah q
        have hc := count_set ah n hna v (by rw [← gt_nat ah n hna]; exact hm) (by omega)
        simp only [todo, List.length_append, List.length_singleton]
        omega
      · show gt (ah.set n v) i = gt ah i
        rw [hs, if_neg (fun e => by subst e; omega)]
      · show gt (ah.set n v) n = v
        rw [hs, if_pos rfl]
    · rw [if_neg hm]
      have hb := h.bnd n hn
      refine ⟨fun e g hg => ?_, fun e => ⟨h, rfl, fun _ _ => rfl, by omega, by omega, ?_⟩⟩
      · have e' : (gt ah n == v) = false := e
        rw [beq_eq_false_iff_ne] at e'
        have := h.sound g hg n hn (by omega)
        exact e' (by rw [← this]; exact (hcl g hg).2.2)
      · have e' : (gt ah n == v) = true := e
        exact beq_iff_eq.1 e'
  · rw [if_neg hr]
    refine ⟨fun _ g hg => hr (inR_true.2 ?_), fun e => by cases e⟩
    have := hcl g hg
    rw [h.len]
    omega
end Go.Proofs.YtfpodljalccpnaaGreatDoor
