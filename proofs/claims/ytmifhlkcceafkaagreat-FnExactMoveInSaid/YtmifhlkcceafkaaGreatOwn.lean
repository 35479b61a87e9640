/-
  Rows of values, and heaps, in memory of their own: no two of their lists share a block. Read, written, carried to later worlds. Nothing of the translation is used here.
-/
import Derived.Test.YtmifhlkcceafkaaGreatHPlain
import Derived.Test.YtmifhlkcceafkaaGreatInts

namespace Go.Proofs.YtmifhlkcceafkaaGreat
open Go.RowKit
def PairRow (B : Nat) (w : World) (v : Value) (ops : List (Int × Int)) : Prop :=
  (v = .slice none 0 0 ∧ ops = []) ∨
  ∃ (g off cap : Nat), v = .slice (some ⟨g, off, none⟩) ops.length cap ∧ B ≤ g ∧ g < w.heap.size ∧ ops.length ≤ cap ∧ cap ≤ maxLen ∧
    (∀ i, i < cap * 2 → (w.cell? ⟨g, off + i, none⟩).isSome = true ∧ w.frozen? ⟨g, off + i, none⟩ = false) ∧
    ∀ i, (h : i < ops.length) → w.cell? ⟨g, off + i * 2, none⟩ = some (.int .i64 ops[i].1) ∧ w.cell? ⟨g, off + i * 2 + 1, none⟩ = some (.int .i64 ops[i].2)
theorem PairRow.nil (B : Nat) (w : World) : PairRow B w (.slice none 0 0) [] := .inl ⟨rfl, rfl⟩
theorem PairRow.form {B : Nat} {w : World} {v : Value} {xs : List (Int × Int)} (h : PairRow B w v xs) (hx : 0 < xs.length) : ∃ g off cap, v = .slice (some ⟨g, off, none⟩) xs.length cap ∧ B ≤ g ∧ g < w.heap.size := by
  rcases h with ⟨_, rfl⟩ | ⟨g, off, cap, hv, hB, hg, _⟩
  · simp at hx
  · exact ⟨g, off, cap, hv, hB, hg⟩
theorem PairRow.slice {B : Nat} {w : World} {v : Value} {xs : List (Int × Int)} (h : PairRow B w v xs) : ∃ a cap, v = .slice a xs.length cap ∧ xs.length ≤ maxLen := by
  rcases h with ⟨rfl, rfl⟩ | ⟨g, off, cap, hv, hB, hg, hl, hc, _⟩
  · exact ⟨none, 0, rfl, by simp⟩
  · exact ⟨_, cap, hv, by omega⟩
theorem PairRow.at {B : Nat} {w : World} {v : Value} {xs : List (Int × Int)} (h : PairRow B w v xs) : OpsAt w v xs := by
  rcases h with ⟨rfl, rfl⟩ | ⟨g, off, cap, rfl, hB, hg, hl, hc, hsp, hx⟩
  · exact ⟨none, 0, rfl, Nat.zero_le _, fun i hi => absurd hi (Nat.not_lt_zero _)⟩
  · exact ⟨_, cap, rfl, by omega, fun i hi => ⟨g, off, rfl, (hx i hi).1, (hx i hi).2⟩⟩
theorem PairRow.mono {B B' : Nat} {w : World} {v : Value} {xs : List (Int × Int)} (h : PairRow B w v xs) (hB : B' ≤ B) : PairRow B' w v xs := by
  rcases h with h | ⟨g, off, cap, hv, hg, r⟩
  · exact .inl h
  · exact .inr ⟨g, off, cap, hv, by omega, r⟩
theorem PairRow.lt {B : Nat} {w : World} {v : Value} {xs : List (Int × Int)} (h : PairRow B w v xs) : ∀ k, v.ownBlock = some k → B ≤ k ∧ k < w.heap.size := by
  intro k hk
  rcases h with ⟨rfl, _⟩ | ⟨g, off, cap, rfl, hB, hg, _⟩
  · simp [Value.ownBlock] at hk
  · simp [Value.ownBlock] at hk
    omega
theorem PairRow.kept {B : Nat} {w w' : World} {v : Value} {xs : List (Int × Int)} (h : PairRow B w v xs) (hsz : w.heap.size ≤ w'.heap.size) (hb : ∀ g, v.ownBlock = some g → w'.heap[g]? = w.heap[g]?) : PairRow B w' v xs := by
  rcases h with h | ⟨g, off, cap, rfl, hB, hg, hl, hc, hsp, hx⟩
  · exact .inl h
  · have hbk := hb g rfl
    refine .inr ⟨g, off, cap, rfl, hB, by omega, hl, hc, fun i hi => ?_, fun i hi => ?_⟩
    · rw [World.cell?_of_block (a := ⟨g, off + i, none⟩) hbk, World.frozen?_of_block (a := ⟨g, off + i, none⟩) hbk]; exact hsp i hi
    · rw [World.cell?_of_block (a := ⟨g, off + i * 2, none⟩) hbk, World.cell?_of_block (a := ⟨g, off + i * 2 + 1, none⟩) hbk]; exact hx i hi
theorem PairRow.below {B : Nat} {w w' : World} {v : Value} {xs : List (Int × Int)} (h : PairRow B w v xs) (hb : Below w.heap.size w w') : PairRow B w' v xs :=
  h.kept hb.size fun g hg => hb.block g (h.lt g hg).2
theorem PairRow.set_other {B : Nat} {w : World} {v : Value} {xs : List (Int × Int)} (h : PairRow B w v xs) {p : Addr} (u : Value) (hp : v.ownBlock ≠ some p.block) : PairRow B (w.setCell p u) v xs :=
  h.kept (by simp [World.setCell]) fun g hg => Below.heap_setCell _ _ _ _ (fun e => hp (by rw [hg, e]))
theorem PairRow.cell {B : Nat} {w : World} {g off n cap : Nat} {xs : List (Int × Int)} (h : PairRow B w (.slice (some ⟨g, off, none⟩) n cap) xs) {i : Nat} (hi : i < xs.length) :
    (w.cell? ⟨g, off + i * 2, none⟩ = some (.int .i64 xs[i].1) ∧ w.cell? ⟨g, off + i * 2 + 1, none⟩ = some (.int .i64 xs[i].2)) ∧ w.frozen? ⟨g, off + i * 2, none⟩ = false ∧ w.frozen? ⟨g, off + i * 2 + 1, none⟩ = false := by
  rcases h with ⟨h, _⟩ | ⟨g', off', cap', hv, _, _, hl, _, hsp, hx⟩
  · cases h
  · cases hv
    refine ⟨hx i hi, (hsp (i * 2) (by omega)).2, ?_⟩
    have := (hsp (i * 2 + 1) (by omega)).2
    rwa [← Nat.add_assoc] at this
theorem PairRow.set {B : Nat} {w : World} {g off n cap : Nat} {xs : List (Int × Int)} (h : PairRow B w (.slice (some ⟨g, off, none⟩) n cap) xs) (i : Nat) (hi : i < xs.length) (x y : Int) :
    PairRow B ((w.setCell ⟨g, off + i * 2, none⟩ (.int .i64 x)).setCell ⟨g, off + i * 2 + 1, none⟩ (.int .i64 y)) (.slice (some ⟨g, off, none⟩) n cap) (xs.set i (x, y)) := by
  obtain ⟨⟨hc, hd⟩, _⟩ := h.cell hi
  rcases h with ⟨h, _⟩ | ⟨g', off', cap', hv, hB, hg, hl, hm, hsp, hx⟩
  · cases h
  · cases hv
    have hd' : (w.setCell ⟨g, off + i * 2, none⟩ (.int .i64 x)).cell? ⟨g, off + i * 2 + 1, none⟩ = some (.int .i64 xs[i].2) := by
      rw [World.cell?_setCell_other _ _ _ _ (fun q => by have := congrArg Addr.off q; simp at this)]; exact hd
    refine .inr ⟨g, off, cap, by simp, hB, by simp [World.setCell]; exact hg, by simpa using hl, hm, fun j hj => ?_, fun j hj => ?_⟩
    · rw [World.frozen?_setCell, World.frozen?_setCell]
      refine ⟨?_, (hsp j hj).2⟩
      by_cases e : j = i * 2 + 1
      · subst e; rw [show off + (i * 2 + 1) = off + i * 2 + 1 by omega, World.cell?_setCell_same _ _ _ hd']; rfl
      · rw [World.cell?_setCell_other _ _ _ _ (fun q => by have := congrArg Addr.off q; simp at this; omega)]
        by_cases e2 : j = i * 2
        · subst e2; rw [World.cell?_setCell_same _ _ _ hc]; rfl
        · rw [World.cell?_setCell_other _ _ _ _ (fun q => by have := congrArg Addr.off q; simp at this; omega)]; exact (hsp j hj).1
    · rw [List.length_set] at hj
      by_cases e : j = i
      · subst e
        refine ⟨?_, ?_⟩
        · rw [World.cell?_setCell_other _ _ _ _ (fun q => by have := congrArg Addr.off q; simp at this), World.cell?_setCell_same _ _ _ hc]; simp
        · rw [World.cell?_setCell_same _ _ _ hd']; simp
      · have h1 : ∀ u v : Value, ((w.setCell ⟨g, off + i * 2, none⟩ u).setCell ⟨g, off + i * 2 + 1, none⟩ v).cell? ⟨g, off + j * 2, none⟩ = w.cell? ⟨g, off + j * 2, none⟩ := fun u v => by
          rw [World.cell?_setCell_other _ _ _ _ (fun q => by have := congrArg Addr.off q; simp at this; omega), World.cell?_setCell_other _ _ _ _ (fun q => by have := congrArg Addr.off q; simp at this; omega)]
        have h2 : ∀ u v : Value, ((w.setCell ⟨g, off + i * 2, none⟩ u).setCell ⟨g, off + i * 2 + 1, none⟩ v).cell? ⟨g, off + j * 2 + 1, none⟩ = w.cell? ⟨g, off + j * 2 + 1, none⟩ := fun u v => by
          rw [World.cell?_setCell_other _ _ _ _ (fun q => by have := congrArg Addr.off q; simp at this; omega), World.cell?_setCell_other _ _ _ _ (fun q => by have := congrArg Addr.off q; simp at this; omega)]
        rw [h1, h2, List.getElem_set_ne (Ne.symm e)]
        exact hx j hj
structure Wr (T : Nat → Prop) (w w' : World) : Prop where
  os : w'.os = w.os
  tape : w'.tape = w.tape
  output : w'.output = w.output
  size : w.heap.size ≤ w'.heap.size
  block : ∀ k, k < w.heap.size → ¬ T k → w'.heap[k]? = w.heap[k]?
  fr : ∀ p : Addr, p.block < w.heap.size → w'.frozen? p = w.frozen? p
theorem Wr.refl (T : Nat → Prop) (w : World) : Wr T w w := ⟨rfl, rfl, rfl, Nat.le_refl _, fun _ _ _ => rfl, fun _ _ => rfl⟩
theorem Wr.set {T : Nat → Prop} {w w' : World} (h : Wr T w w') {p : Addr} (hp : T p.block) (u : Value) : Wr T w (w'.setCell p u) :=
  ⟨h.os, h.tape, h.output, by simp [World.setCell]; exact h.size, fun k hk hT => (Below.heap_setCell _ _ _ _ (fun e => hT (by rw [e]; exact hp))).trans (h.block k hk hT), fun q hq => by rw [World.frozen?_setCell]; exact h.fr q hq⟩
theorem Wr.trans {T : Nat → Prop} {a b c : World} (h : Wr T a b) (k : Wr T b c) : Wr T a c :=
  ⟨k.os.trans h.os, k.tape.trans h.tape, k.output.trans h.output, Nat.le_trans h.size k.size, fun q hq hT => (k.block q (Nat.lt_of_lt_of_le hq h.size) hT).trans (h.block q hq hT), fun p hp => (k.fr p (Nat.lt_of_lt_of_le hp h.size)).trans (h.fr p hp)⟩
theorem Wr.mono {T T' : Nat → Prop} {a b : World} (h : Wr T a b) (hT : ∀ k, T k → T' k) : Wr T' a b :=
  ⟨h.os, h.tape, h.output, h.size, fun q hq hn => h.block q hq (fun t => hn (hT q t)), h.fr⟩
theorem Wr.of_below {T : Nat → Prop} {a b : World} (h : Below a.heap.size a b) : Wr T a b :=
  ⟨h.os, h.tape, h.output, h.size, fun q hq _ => h.block q hq, fun p hp => World.frozen?_of_block (a := p) (h.block _ hp)⟩
theorem Wr.cell {T : Nat → Prop} {a b : World} (h : Wr T a b) {p : Addr} {v : Value} (hc : a.cell? p = some v) (hp : ¬ T p.block) : b.cell? p = some v := by
  rw [World.cell?_of_block (a := p) (h.block _ (World.block_lt_of_cell? _ _ hc) hp)]; exact hc
theorem Wr.pair {T : Nat → Prop} {B : Nat} {a b : World} {v : Value} {xs : List (Int × Int)} (h : Wr T a b) (hr : PairRow B a v xs) (hT : ∀ g, v.ownBlock = some g → ¬ T g) : PairRow B b v xs :=
  hr.kept h.size fun g hg => h.block g (hr.lt g hg).2 (hT g hg)
theorem Wr.below {T : Nat → Prop} {B : Nat} {w0 a b : World} (h : Wr T a b) (hb : Below B w0 a) (h0 : B ≤ w0.heap.size) (hT : ∀ k, T k → B ≤ k) : Below B w0 b :=
  ⟨h.os.trans hb.os, h.tape.trans hb.tape, h.output.trans hb.output, Nat.le_trans hb.size h.size, fun k hk => (h.block k (by have := hb.size; omega) (fun t => by have := hT k t; omega)).trans (hb.block k hk)⟩
def lst (V : Nat → Value × Value) (q : Nat) : Value := if q % 2 = 0 then (V (q / 2)).1 else (V (q / 2)).2
theorem lst_0 (V : Nat → Value × Value) (i : Nat) : lst V (i * 2) = (V i).1 := by
  unfold lst
  rw [if_pos (by omega), show i * 2 / 2 = i by omega]
theorem lst_1 (V : Nat → Value × Value) (i : Nat) : lst V (i * 2 + 1) = (V i).2 := by
  unfold lst
  rw [if_neg (by omega), show (i * 2 + 1) / 2 = i by omega]
structure OwnCalls (B : Nat) (w : World) (v : Value) (cs : List Cl) (V : Nat → Value × Value) : Prop where
  row : (v = .slice none 0 0 ∧ cs = []) ∨ ∃ (g off cap : Nat), v = .slice (some ⟨g, off, none⟩) cs.length cap ∧ B ≤ g ∧ g < w.heap.size ∧ cs.length ≤ cap ∧ cap ≤ maxLen ∧
    (∀ i, i < cap * 6 → (w.cell? ⟨g, off + i, none⟩).isSome = true ∧ w.frozen? ⟨g, off + i, none⟩ = false) ∧
    ∀ i, (h : i < cs.length) → w.cell? ⟨g, off + i * 6, none⟩ = some (.int .i64 cs[i].m) ∧ w.cell? ⟨g, off + i * 6 + 1, none⟩ = some (.int .i64 cs[i].pc) ∧ w.cell? ⟨g, off + i * 6 + 2, none⟩ = some (V i).1 ∧
      w.cell? ⟨g, off + i * 6 + 3, none⟩ = some (V i).2 ∧ w.cell? ⟨g, off + i * 6 + 4, none⟩ = some (.int .i64 cs[i].sender) ∧ w.cell? ⟨g, off + i * 6 + 5, none⟩ = some (.bool cs[i].dead)
  lists : ∀ i, (h : i < cs.length) → PairRow B w (V i).1 cs[i].temps ∧ PairRow B w (V i).2 cs[i].stack
  apart : ∀ q, q < cs.length * 2 → ∀ g, (lst V q).ownBlock = some g → v.ownBlock ≠ some g ∧ ∀ q', q' < cs.length * 2 → q' ≠ q → (lst V q').ownBlock ≠ some g
def CallBlocks (v : Value) (n : Nat) (V : Nat → Value × Value) (g : Nat) : Prop := v.ownBlock = some g ∨ ∃ q, q < n * 2 ∧ (lst V q).ownBlock = some g
theorem OwnCalls.shape {B : Nat} {w : World} {v : Value} {cs : List Cl} {V : Nat → Value × Value} (h : OwnCalls B w v cs V) : ∃ a cap, v = .slice a cs.length cap ∧ cs.length ≤ maxLen := by
  rcases h.row with ⟨rfl, rfl⟩ | ⟨g, off, cap, hv, hB, hg, hl, hc, _⟩
  · exact ⟨none, 0, rfl, by simp⟩
  · exact ⟨_, cap, hv, by omega⟩
theorem OwnCalls.form {B : Nat} {w : World} {v : Value} {cs : List Cl} {V : Nat → Value × Value} (h : OwnCalls B w v cs V) (hx : 0 < cs.length) : ∃ g off cap, v = .slice (some ⟨g, off, none⟩) cs.length cap ∧ B ≤ g ∧ g < w.heap.size := by
  rcases h.row with ⟨_, rfl⟩ | ⟨g, off, cap, hv, hB, hg, _⟩
  · simp at hx
  · exact ⟨g, off, cap, hv, hB, hg⟩
theorem OwnCalls.at {B : Nat} {w : World} {v : Value} {cs : List Cl} {V : Nat → Value × Value} (h : OwnCalls B w v cs V) : CallsAt w v cs := by
  rcases h.row with ⟨rfl, rfl⟩ | ⟨g, off, cap, rfl, hB, hg, hl, hc, hsp, hx⟩
  · exact CallsAt.nil w
  · refine ⟨_, cap, rfl, by omega, fun i hi => ?_⟩
    obtain ⟨c0, c1, c2, c3, c4, c5⟩ := hx i hi
    exact ⟨g, off, _, _, rfl, c0, c1, c2, c3, c4, c5, (h.lists i hi).1.at, (h.lists i hi).2.at⟩
theorem OwnCalls.lt {B : Nat} {w : World} {v : Value} {cs : List Cl} {V : Nat → Value × Value} (h : OwnCalls B w v cs V) {g : Nat} (hg : CallBlocks v cs.length V g) : B ≤ g ∧ g < w.heap.size := by
  rcases hg with hg | ⟨q, hq, hg⟩
  · rcases h.row with ⟨rfl, _⟩ | ⟨g', off, cap, rfl, hB, hg', _⟩
    · simp [Value.ownBlock] at hg
    · simp [Value.ownBlock] at hg
      omega
  · have hi : q / 2 < cs.length := by omega
    rcases Nat.mod_two_eq_zero_or_one q with hm | hm
    · rw [show q = q / 2 * 2 by omega, lst_0] at hg
      exact (h.lists _ hi).1.lt g hg
    · rw [show q = q / 2 * 2 + 1 by omega, lst_1] at hg
      exact (h.lists _ hi).2.lt g hg
theorem OwnCalls.kept {B : Nat} {w w' : World} {v : Value} {cs : List Cl} {V : Nat → Value × Value} (h : OwnCalls B w v cs V) (hsz : w.heap.size ≤ w'.heap.size) (hb : ∀ g, CallBlocks v cs.length V g → w'.heap[g]? = w.heap[g]?) : OwnCalls B w' v cs V := by
  refine ⟨?_, fun i hi => ?_, h.apart⟩
  · rcases h.row with hn | ⟨g, off, cap, rfl, hB, hg, hl, hc, hsp, hx⟩
    · exact .inl hn
    · have hbk := hb g (.inl rfl)
      have hc' : ∀ o, w'.cell? ⟨g, o, none⟩ = w.cell? ⟨g, o, none⟩ := fun o => World.cell?_of_block (a := ⟨g, o, none⟩) hbk
      have hf' : ∀ o, w'.frozen? ⟨g, o, none⟩ = w.frozen? ⟨g, o, none⟩ := fun o => World.frozen?_of_block (a := ⟨g, o, none⟩) hbk
      refine .inr ⟨g, off, cap, rfl, hB, by omega, hl, hc, fun i hi => ?_, fun i hi => ?_⟩
      · rw [hc', hf']; exact hsp i hi
      · rw [hc', hc', hc', hc', hc', hc']; exact hx i hi
  · refine ⟨(h.lists i hi).1.kept hsz fun g hg => hb g (.inr ⟨i * 2, by omega, by rw [lst_0]; exact hg⟩), (h.lists i hi).2.kept hsz fun g hg => hb g (.inr ⟨i * 2 + 1, by omega, by rw [lst_1]; exact hg⟩)⟩
theorem OwnCalls.below {B : Nat} {w w' : World} {v : Value} {cs : List Cl} {V : Nat → Value × Value} (h : OwnCalls B w v cs V) (hb : Below w.heap.size w w') : OwnCalls B w' v cs V :=
  h.kept hb.size fun _ hg => hb.block _ (h.lt hg).2
theorem OwnCalls.step {B : Nat} {w w' : World} {g off cap n : Nat} {cs : List Cl} {V : Nat → Value × Value} (h : OwnCalls B w (.slice (some ⟨g, off, none⟩) n cap) cs V) {j : Nat} (hj : j < cs.length) (c : Cl)
    (hlt : c.temps.length = cs[j].temps.length) (hls : c.stack.length = cs[j].stack.length)
    (hsz : w.heap.size ≤ w'.heap.size) (hfr : ∀ p : Addr, p.block < w.heap.size → w'.frozen? p = w.frozen? p)
    (hrow : ∀ o, (o < off + j * 6 ∨ off + j * 6 + 6 ≤ o) → w'.cell? ⟨g, o, none⟩ = w.cell? ⟨g, o, none⟩)
    (hbl : ∀ k, k < w.heap.size → k ≠ g → (V j).1.ownBlock ≠ some k → (V j).2.ownBlock ≠ some k → w'.heap[k]? = w.heap[k]?)
    (c0 : w'.cell? ⟨g, off + j * 6, none⟩ = some (.int .i64 c.m)) (c1 : w'.cell? ⟨g, off + j * 6 + 1, none⟩ = some (.int .i64 c.pc)) (c2 : w'.cell? ⟨g, off + j * 6 + 2, none⟩ = some (V j).1)
    (c3 : w'.cell? ⟨g, off + j * 6 + 3, none⟩ = some (V j).2) (c4 : w'.cell? ⟨g, off + j * 6 + 4, none⟩ = some (.int .i64 c.sender)) (c5 : w'.cell? ⟨g, off + j * 6 + 5, none⟩ = some (.bool c.dead))
    (ht : PairRow B w' (V j).1 c.temps) (hs : PairRow B w' (V j).2 c.stack) : OwnCalls B w' (.slice (some ⟨g, off, none⟩) n cap) (cs.set j c) V := by
  refine ⟨?_, fun i hi => ?_, ?_⟩
  · rcases h.row with ⟨h0, _⟩ | ⟨g', off', cap', hv, hB, hg, hl, hc, hsp, hx⟩
    · cases h0
    · cases hv
      refine .inr ⟨g, off, cap, by simp, hB, by omega, by simpa using hl, hc, fun i hi => ?_, fun i hi => ?_⟩
      · rw [hfr _ hg]
        refine ⟨?_, (hsp i hi).2⟩
        by_cases e : i < j * 6 ∨ j * 6 + 6 ≤ i
        · rw [hrow (off + i) (by omega)]; exact (hsp i hi).1
        · have h6 : off + i = off + j * 6 ∨ off + i = off + j * 6 + 1 ∨ off + i = off + j * 6 + 2 ∨ off + i = off + j * 6 + 3 ∨ off + i = off + j * 6 + 4 ∨ off + i = off + j * 6 + 5 := by omega
          rcases h6 with e | e | e | e | e | e <;> rw [e]
          · rw [c0]; rfl
          · rw [c1]; rfl
          · rw [c2]; rfl
          · rw [c3]; rfl
          · rw [c4]; rfl
          · rw [c5]; rfl
      · rw [List.length_set] at hi
        by_cases e : i = j
        · subst e
          rw [List.getElem_set_self]
          exact ⟨c0, c1, c2, c3, c4, c5⟩
        · rw [List.getElem_set_ne (Ne.symm e), hrow _ (by omega), hrow _ (by omega), hrow _ (by omega), hrow _ (by omega), hrow _ (by omega), hrow _ (by omega)]
          exact hx i hi
  · rw [List.length_set] at hi
    by_cases e : i = j
    · subst e
      rw [List.getElem_set_self]
      exact ⟨ht, hs⟩
    · rw [List.getElem_set_ne (Ne.symm e)]
      obtain ⟨p1, p2⟩ := h.lists i hi
      refine ⟨p1.kept hsz fun k hk => ?_, p2.kept hsz fun k hk => ?_⟩
      · obtain ⟨a1, a2⟩ := h.apart (i * 2) (by omega) k (by rw [lst_0]; exact hk)
        have b1 := a2 (j * 2) (by omega) (by omega)
        have b2 := a2 (j * 2 + 1) (by omega) (by omega)
        rw [lst_0] at b1
        rw [lst_1] at b2
        exact hbl k (p1.lt k hk).2 (fun e => a1 (by rw [e]; rfl)) b1 b2
      · obtain ⟨a1, a2⟩ := h.apart (i * 2 + 1) (by omega) k (by rw [lst_1]; exact hk)
        have b1 := a2 (j * 2) (by omega) (by omega)
        have b2 := a2 (j * 2 + 1) (by omega) (by omega)
        rw [lst_0] at b1
        rw [lst_1] at b2
        exact hbl k (p2.lt k hk).2 (fun e => a1 (by rw [e]; rfl)) b1 b2
  · rw [List.length_set]; exact h.apart
structure OwnHeap (B : Nat) (w : World) (vc vs : Value) (h : Hp) (V : Nat → Value × Value) : Prop where
  c : OwnCalls B w vc h.calls V
  s : PairRow B w vs h.said
  apart : ∀ g, vs.ownBlock = some g → ¬ CallBlocks vc h.calls.length V g
def HeapBlocks (vc vs : Value) (n : Nat) (V : Nat → Value × Value) (g : Nat) : Prop := vs.ownBlock = some g ∨ CallBlocks vc n V g
theorem OwnHeap.at {B : Nat} {w : World} {vc vs : Value} {h : Hp} {V : Nat → Value × Value} (k : OwnHeap B w vc vs h V) : HeapAt w vc vs h := ⟨k.c.at, k.s.at⟩
theorem OwnHeap.lt {B : Nat} {w : World} {vc vs : Value} {h : Hp} {V : Nat → Value × Value} (k : OwnHeap B w vc vs h V) {g : Nat} (hg : HeapBlocks vc vs h.calls.length V g) : B ≤ g ∧ g < w.heap.size := by
  rcases hg with hg | hg
  · exact k.s.lt g hg
  · exact k.c.lt hg
theorem OwnHeap.kept {B : Nat} {w w' : World} {vc vs : Value} {h : Hp} {V : Nat → Value × Value} (k : OwnHeap B w vc vs h V) (hsz : w.heap.size ≤ w'.heap.size) (hb : ∀ g, HeapBlocks vc vs h.calls.length V g → w'.heap[g]? = w.heap[g]?) : OwnHeap B w' vc vs h V :=
  ⟨k.c.kept hsz fun g hg => hb g (.inr hg), k.s.kept hsz fun g hg => hb g (.inl hg), k.apart⟩
theorem OwnHeap.below {B : Nat} {w w' : World} {vc vs : Value} {h : Hp} {V : Nat → Value × Value} (k : OwnHeap B w vc vs h V) (hb : Below w.heap.size w w') : OwnHeap B w' vc vs h V :=
  k.kept hb.size fun _ hg => hb.block _ (k.lt hg).2
end Go.Proofs.YtmifhlkcceafkaaGreat
