/-
  The program's walk over a method, its first step: (*deepWalk).come.
-/
import Derived.Test.YtehffhhiikahbaaDoorDeep
import Derived.Test.YtehffhhiikahbaaDoorInts
namespace Go.Proofs.YtehffhhiikahbaaDoor
open Go.RowKit

theorem Tryd.infoInt : (Tryd.prog.info? 3).map (fun i => (i.zero, i.size, i.bytes)) = some (some (.int .i64 0), 1, 8) := by kernel_rfl

/-- a walk at block bw: the table, and the queue -/
structure Walk (B bw : Nat) (w : World) (va vq : Value) (ah q : List Int) : Prop where
  a : w.cell? ⟨bw, 0, none⟩ = some va
  c : w.cell? ⟨bw, 1, none⟩ = some vq
  f : w.frozen? ⟨bw, 1, none⟩ = false
  ra : IntRow B w va ah
  rq : IntRow B w vq q
  apart : ∀ g, va.ownBlock = some g → vq.ownBlock ≠ some g
  na : va.ownBlock ≠ some bw
  nq : vq.ownBlock ≠ some bw
  hB : B ≤ bw

theorem Walk.lt {B bw : Nat} {w : World} {va vq : Value} {ah q : List Int} (h : Walk B bw w va vq ah q) : bw < w.heap.size := World.block_lt_of_cell? _ _ h.a

theorem cell_grown {w w' : World} {row : Option Nat} (hg : w.grownBy w' row) {a : Addr} {v : Value} (h : w.cell? a = some v) (hne : row ≠ some a.block) : w'.cell? a = some v := hg.cell h (fun e => hne e.symm)
theorem frozen_grown {w w' : World} {row : Option Nat} (hg : w.grownBy w' row) {a : Addr} (hlt : a.block < w.heap.size) (hne : row ≠ some a.block) : w'.frozen? a = w.frozen? a := World.frozen?_of_block (hg.block a.block hlt (fun e => hne e.symm))

theorem IntRow.grown {B : Nat} {w w' : World} {v : Value} {xs : List Int} {row : Option Nat} (h : IntRow B w v xs) (hg : w.grownBy w' row) (hne : ∀ g, v.ownBlock = some g → row ≠ some g) : IntRow B w' v xs :=
  h.kept hg.size fun g e => hg.block g (h.lt g e).2 (fun q => hne g e q.symm)

theorem below_grow2 {B : Nat} {w0 w w' : World} {row : Option Nat} (h : Below B w0 w) (hg : w.grownBy w' row) (hB : B ≤ w0.heap.size) (hr : ∀ g, row = some g → B ≤ g) : Below B w0 w' :=
  h.trans ⟨hg.os, hg.tape, hg.output, hg.size, fun k hk => hg.block k (by have := h.size; omega) (fun e => by have := hr k e.symm; omega)⟩

theorem below_set {B : Nat} {w0 w : World} (h : Below B w0 w) (g o : Nat) (v : Value) (hg : B ≤ g) : Below B w0 (w.setCell ⟨g, o, none⟩ v) :=
  h.trans ⟨rfl, rfl, rfl, by simp [World.setCell], fun k hk => Below.heap_setCell _ _ _ _ (fun e => by have : k = g := e; omega)⟩

theorem come_out {ah q : List Int} {k v : Int} (h : inR k 0 ((ah.length : Int) - 1) = false) : comeP ah q k v = (false, ah, q) := by simp [comeP, h]
theorem come_new {ah q : List Int} {n : Nat} {v : Int} (h : n < ah.length) (h1 : ah[n] = -1) : comeP ah q n v = (true, ah.set n v, q ++ [(n : Int)]) := by
  unfold comeP
  rw [if_pos (inR_true.2 (by omega)), if_pos (by rw [gt_nat _ _ h]; exact h1)]
  simp
theorem come_old {ah q : List Int} {n : Nat} {v : Int} (h : n < ah.length) (h1 : ah[n] ≠ -1) : comeP ah q n v = (ah[n] == v, ah, q) := by
  unfold comeP
  rw [if_pos (inR_true.2 (by omega)), if_neg (by rw [gt_nat _ _ h]; exact h1), gt_nat _ _ h]

set_option maxRecDepth 100000 in
set_option maxHeartbeats 1000000 in
theorem come_any (B bw : Nat) (va vq : Value) (ah q : List Int) (k v : Int) (w : World) (h : Walk B bw w va vq ah q) (hl : ah.length ≤ 14) (hq : q.length ≤ 100) :
    Calls Tryd.prog 33 #[.pointer (some ⟨bw, 0, none⟩), .int .i64 k, .int .i64 v] w fun e w' => e = .returned (.bool (comeP ah q k v).1) ∧ Below B w w' ∧ ∃ vq', Walk B bw w' va vq' (comeP ah q k v).2.1 (comeP ah q k v).2.2 := by
  obtain ⟨aa, ca, hva, hlm⟩ := h.ra.slice
  have ha := h.a
  have hbw := h.lt
  have hBw := h.hB
  rw [hva] at ha
  cases hr : inR k 0 ((ah.length : Int) - 1)
  · rw [come_out hr]
    go_enter Tryd.func33, Tryd.ntmps33
    go_wp2_with (go_at_call 27; refine (isPlace_any _ _ _).mono ?_; rintro e w' ⟨rfl, hw⟩; obtain rfl := hw.symm)
    go_ret
    exact ⟨rfl, Below.refl _ _, vq, h⟩
  have hr' := inR_true.1 hr
  obtain ⟨n, rfl⟩ := Int.eq_ofNat_of_zero_le hr'.1
  have hn : n < ah.length := by omega
  have hnz : (n : Int) < ah.length := by omega
  obtain ⟨ga, oa, ca', hva', hga, hgal⟩ := h.ra.form (by omega)
  have hra := h.ra
  rw [hva'] at hra
  obtain ⟨hcn, hfn⟩ := hra.cell hn
  have hne : ga ≠ bw := fun e => h.na (by rw [hva', e]; rfl)
  obtain ⟨rfl, rfl⟩ : aa = some ⟨ga, oa, none⟩ ∧ ca = ca' := by rw [hva] at hva'; injection hva' with e1 _ e2; exact ⟨e1, e2⟩
  clear hva'
  subst hva
  by_cases h1 : ah[n] = -1
  · rw [come_new hn h1]
    rw [h1] at hcn
    have hset := hra.set n hn v
    have hrq := h.rq.set_other (p := ⟨ga, oa + n, none⟩) (.int .i64 v) (h.apart ga rfl)
    have hq0 := h.c
    have hf0 := h.f
    have hap := h.apart ga rfl
    have hnq := h.nq
    have hcb0 : (w.setCell ⟨ga, oa + n, none⟩ (.int .i64 v)).cell? ⟨bw, 0, none⟩ = some (.slice (some ⟨ga, oa, none⟩) ah.length ca) := by rw [World.cell?_setCell_far _ _ _ _ (by exact hne)]; exact ha
    have hcb1 : (w.setCell ⟨ga, oa + n, none⟩ (.int .i64 v)).cell? ⟨bw, 1, none⟩ = some vq := by rw [World.cell?_setCell_far _ _ _ _ (by exact hne)]; exact hq0
    have hfb : (w.setCell ⟨ga, oa + n, none⟩ (.int .i64 v)).frozen? ⟨bw, 1, none⟩ = false := by rw [World.frozen?_setCell]; exact hf0
    have hnew := World.cell?_setCell_same w ⟨ga, oa + n, none⟩ (.int .i64 v) hcn
    have hb1 := below_set (Below.refl B w) ga (oa + n) (.int .i64 v) hga
    have hs1 : (w.setCell ⟨ga, oa + n, none⟩ (.int .i64 v)).heap.size = w.heap.size := by simp [World.setCell]
    obtain ⟨i0, hi, hz0, hz1, hz2⟩ := info_parts Tryd.infoInt
    clear h hra hq0 hf0
    go_enter Tryd.func33, Tryd.ntmps33
    go_wp2_with (first | (go_at_call 27; refine (isPlace_any _ _ _).mono ?_; rintro e w' ⟨rfl, hw⟩; obtain rfl := hw.symm) | (at_builtin; (refine append_int Tryd.underlying38 hi hz0 hz1 hz2 _ (by rfl) _ _ (by rfl) vq q (by rfl) hrq (n : Int) w.heap.size _ hs1 (by rfl) (by omega) (by omega) ?_); intro g off cap w2 h2 hg2 hat hlt2; have c0 := cell_grown hg2 hcb0 hnq; have c1 := cell_grown hg2 hcb1 hnq; have f1 := (frozen_grown hg2 (a := ⟨bw, 1, none⟩) (by rw [hs1]; exact hbw) hnq).trans hfb; have cn := cell_grown hg2 hnew hap; have c0' : ∀ u, (w2.setCell ⟨bw, 1, none⟩ u).cell? ⟨bw, 0, none⟩ = some (.slice (some ⟨ga, oa, none⟩) ah.length ca) := (fun u => by rw [World.cell?_setCell_other _ _ _ _ (fun e => by have := congrArg Addr.off e; simp at this)]; exact c0); have cn' : ∀ u, (w2.setCell ⟨bw, 1, none⟩ u).cell? ⟨ga, oa + n, none⟩ = some (.int .i64 v) := (fun u => by rw [World.cell?_setCell_far _ _ _ _ (by exact Ne.symm hne)]; exact cn)))
    go_ret
    have hga2 : g ≠ ga := fun e => by
      rcases hat with hat | hat
      · exact hap (by rw [hat, e])
      · omega
    have hgb2 : g ≠ bw := fun e => by
      rcases hat with hat | hat
      · exact hnq (by rw [hat, e])
      · omega
    refine ⟨rfl, ?_, _, ⟨c0' _, World.cell?_setCell_same _ _ _ c1, by rw [World.frozen?_setCell]; exact f1, ?_, ?_, ?_, ?_, ?_, hBw⟩⟩
    · exact below_set (below_grow2 hb1 hg2 (by omega) (fun g' e => (hrq.lt g' e).1)) bw 1 _ hBw
    · exact (hset.grown hg2 (fun g' e q => by cases e; exact hap q)).set_other _ (by simp [Value.ownBlock]; exact hne)
    · exact h2.set_other _ (by simp [Value.ownBlock]; exact hgb2)
    · intro g' e q; cases e; simp [Value.ownBlock] at q; exact hga2 q
    · simp [Value.ownBlock]; exact hne
    · simp [Value.ownBlock]; exact hgb2
  · rw [come_old hn h1]
    have h1' : (ah[n] == -1) = false := beq_eq_false_iff_ne.2 h1
    go_enter Tryd.func33, Tryd.ntmps33
    go_wp2_with (go_at_call 27; refine (isPlace_any _ _ _).mono ?_; rintro e w' ⟨rfl, hw⟩; obtain rfl := hw.symm)
    go_ret
    exact ⟨rfl, Below.refl _ _, vq, h⟩

end Go.Proofs.YtehffhhiikahbaaDoor
