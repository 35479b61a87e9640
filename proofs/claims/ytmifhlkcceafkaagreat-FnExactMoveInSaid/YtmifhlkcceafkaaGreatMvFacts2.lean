/-
  The model's machine that a heap is moved to, in memory: its twins in a row, each with lists of its own.
-/
import Derived.Test.YtmifhlkcceafkaaGreatMIn2
import Derived.Test.YtmifhlkcceafkaaGreatMNewS
import Derived.Test.YtmifhlkcceafkaaGreatVImpl2
import Derived.Test.YtmifhlkcceafkaaGreatMThing5
import Derived.Test.YtmifhlkcceafkaaGreatTrimPlain

namespace Go.Proofs.YtmifhlkcceafkaaGreat
open Go.RowKit
def clA (h : Hp) (i : Nat) : Cl := h.calls.getD i Cl.none
theorem clA_at {h : Hp} {i : Nat} (hi : i < h.calls.length) : clA h i = h.calls[i] := by simp [clA, hi]
def TwS (D C S : Nat) (w : World) (v : Value) (h : Hp) (k : Nat) : Prop :=
  ∃ VT VS : Nat → Value, CRow D 8 w v k ((List.range k).flatMap (twRow h VT VS)) ∧ (∀ g, v.ownBlock = some g → g < C ∨ S ≤ g) ∧
    ∀ i, i < k → PairRow S w (VT i) (clA h i).temps ∧ PairRow S w (VS i) (clA h i).stack ∧ (∀ g, (VT i).ownBlock = some g → v.ownBlock ≠ some g) ∧ ∀ g, (VS i).ownBlock = some g → v.ownBlock ≠ some g
theorem TwS.kept {D C S k : Nat} {w w' : World} {v : Value} {h : Hp} (t : TwS D C S w v h k) (hDS : D ≤ S) (hs : w.heap.size ≤ w'.heap.size) (hb : ∀ g, D ≤ g → (g < C ∨ S ≤ g) → g < w.heap.size → w'.heap[g]? = w.heap[g]?) : TwS D C S w' v h k := by
  obtain ⟨VT, VS, h1, h2, h3⟩ := t
  refine ⟨VT, VS, h1.kept hs fun g e => hb g (h1.lt g e).1 (h2 g e) (h1.lt g e).2, h2, fun i hi => ?_⟩
  obtain ⟨a, b, c, d⟩ := h3 i hi
  exact ⟨a.kept hs fun g e => hb g (Nat.le_trans hDS (a.lt g e).1) (.inr (a.lt g e).1) (a.lt g e).2, b.kept hs fun g e => hb g (Nat.le_trans hDS (b.lt g e).1) (.inr (b.lt g e).1) (b.lt g e).2, c, d⟩
theorem TwS.below {D C S k : Nat} {w w' : World} {v : Value} {h : Hp} (t : TwS D C S w v h k) (hDS : D ≤ S) (hb : Below w.heap.size w w') : TwS D C S w' v h k := t.kept hDS hb.size fun g _ _ h2 => hb.block g h2
theorem TwS.lt {D C S k : Nat} {w : World} {v : Value} {h : Hp} (t : TwS D C S w v h k) : ∀ g, v.ownBlock = some g → D ≤ g ∧ g < w.heap.size ∧ (g < C ∨ S ≤ g) := by
  obtain ⟨VT, VS, h1, h2, _⟩ := t
  exact fun g e => ⟨(h1.lt g e).1, (h1.lt g e).2, h2 g e⟩
theorem TwS.slice {D C S k : Nat} {w : World} {v : Value} {h : Hp} (t : TwS D C S w v h k) : ∃ a c, v = .slice a k c := by
  obtain ⟨VT, VS, h1, _⟩ := t
  obtain ⟨a, c, e, _⟩ := h1.slice
  exact ⟨a, c, e⟩
theorem TwS.nil {D C S gT : Nat} {w : World} {h : Hp} (h1 : D ≤ gT) (h2 : gT < w.heap.size) (h3 : gT < C) : TwS D C S w (.slice (some ⟨gT, 0, none⟩) 0 0) h 0 :=
  ⟨fun _ => undef, fun _ => undef, ⟨rfl, .inr ⟨gT, 0, 0, rfl, h1, h2, Nat.le_refl _, by unfold maxLen; omega, fun i hi => absurd hi (by omega), fun i hi => absurd hi (Nat.not_lt_zero _)⟩⟩, fun g e => by injection e with e; subst e; exact .inl h3, fun i hi => absurd hi (Nat.not_lt_zero _)⟩
theorem TwS.append {D C S B2 k : Nat} {w : World} {v ut us : Value} {h : Hp} (t : TwS D C S w v h k) (hk : k < h.calls.length) (hu : PairRow B2 w ut h.calls[k].temps) (hs : PairRow B2 w us h.calls[k].stack) (hS2 : S ≤ B2) (hDS : D ≤ S) (hv : ∀ g, v.ownBlock = some g → g < B2)
    (hut : ut.oneCell' = true) (hus : us.oneCell' = true) (H : Nat) (hx : ∀ j x, ([.int .i64 (-1), .int .i64 0, .int .i64 h.calls[k].m, .int .i64 h.calls[k].pc, ut, us, .int .i64 h.calls[k].sender, .bool h.calls[k].dead] : List Value)[j]? = some x → w.cell? ⟨H, j, none⟩ = some x) (hSw : S ≤ w.heap.size) (hkf : k ≤ 2900000) :
    ∃ a' c' w', (Builtin.append_ #[33, 33] 33 #[v, .slice (some ⟨H, 0, none⟩) 1 1]).run Tryz.prog w = .ok (.slice a' (k + 1) c') w' ∧ TwS D C S w' (.slice a' (k + 1) c') h (k + 1) ∧ w.grownBy w' v.ownBlock := by
  obtain ⟨i0, hii, hz0, hz1, hz2⟩ := info_parts Tryz.infoTwinI
  obtain ⟨VT, VS, h1, ho, hV⟩ := t
  have hgd : h.calls.getD k Cl.none = h.calls[k] := by simp [hk]
  obtain ⟨v', w', hrun, hrow, hg, hor⟩ := run_append_el (P := Tryz.prog) (t := 33) (ty := 33) Tryz.underlying33 hii hz0 hz1 rfl (by omega) h1 [.int .i64 (-1), .int .i64 0, .int .i64 h.calls[k].m, .int .i64 h.calls[k].pc, ut, us, .int .i64 h.calls[k].sender, .bool h.calls[k].dead] rfl
    (by intro x hx; simp at hx; rcases hx with rfl | rfl | rfl | rfl | rfl | rfl | rfl | rfl; all_goals first | rfl | exact hut | exact hus) H 1 hx hkf (Nat.le_trans hDS hSw)
  obtain ⟨a', c', hv', _⟩ := hrow.slice
  subst hv'
  have hnew : ∀ i, i < k → ∀ g, ((VT i).ownBlock = some g ∨ (VS i).ownBlock = some g) → (Value.slice a' (k + 1) c').ownBlock ≠ some g := fun i hi g e e2 => by
    obtain ⟨p1, p2, p3, p4⟩ := hV i hi
    rcases hor with h9 | h9
    · rw [h9] at e2
      rcases e with e | e
      · exact p3 g e e2
      · exact p4 g e e2
    · rw [h9] at e2
      injection e2 with e2
      rcases e with e | e
      · have := (p1.lt g e).2; omega
      · have := (p2.lt g e).2; omega
  have hnew2 : ∀ g, (ut.ownBlock = some g ∨ us.ownBlock = some g) → (Value.slice a' (k + 1) c').ownBlock ≠ some g := fun g e e2 => by
    rcases hor with h9 | h9
    · rw [h9] at e2
      have := hv g e2
      rcases e with e | e
      · have := (hu.lt g e).1; omega
      · have := (hs.lt g e).1; omega
    · rw [h9] at e2
      injection e2 with e2
      rcases e with e | e
      · have := (hu.lt g e).2; omega
      · have := (hs.lt g e).2; omega
  refine ⟨a', c', w', hrun, ⟨fun q => if q = k then ut else VT q, fun q => if q = k then us else VS q, ?_, fun g e => ?_, fun q hq => ?_⟩, hg⟩
  · rw [flat_snoc]
    have e1 : twRow h (fun q => if q = k then ut else VT q) (fun q => if q = k then us else VS q) k = [.int .i64 (-1), .int .i64 0, .int .i64 h.calls[k].m, .int .i64 h.calls[k].pc, ut, us, .int .i64 h.calls[k].sender, .bool h.calls[k].dead] := by
      unfold twRow
      rw [hgd]
      simp only [if_true]
    rw [e1, flat_congr (g := twRow h VT VS) k fun i hi => by unfold twRow; simp only [if_neg (show ¬ i = k by omega)]]
    exact hrow
  · rcases hor with h9 | h9
    · rw [h9] at e; exact ho g e
    · rw [h9] at e; injection e with e; exact .inr (by omega)
  · by_cases e : q = k
    · subst e
      rw [clA_at hk]
      simp only [if_true]
      exact ⟨(hu.mono hS2).kept hg.size fun g e => hg.block g (hu.lt g e).2 fun e2 => by have := hv g e2.symm; have := (hu.lt g e).1; omega, (hs.mono hS2).kept hg.size fun g e => hg.block g (hs.lt g e).2 fun e2 => by have := hv g e2.symm; have := (hs.lt g e).1; omega, fun g e => hnew2 g (.inl e), fun g e => hnew2 g (.inr e)⟩
    · simp only [if_neg e]
      obtain ⟨p1, p2, p3, p4⟩ := hV q (by omega)
      exact ⟨p1.kept hg.size fun g e => hg.block g (p1.lt g e).2 fun e2 => p3 g e e2.symm, p2.kept hg.size fun g e => hg.block g (p2.lt g e).2 fun e2 => p4 g e e2.symm, fun g e => hnew q (by omega) g (.inl e), fun g e => hnew q (by omega) g (.inr e)⟩
theorem TwS.at {D C S : Nat} {w : World} {v : Value} {h : Hp} (t : TwS D C S w v h h.calls.length) : TwinsAt w v (h.calls.map twC) := by
  obtain ⟨VT, VS, h1, _, h3⟩ := t
  refine twRow_twins h1 fun i hi => ?_
  obtain ⟨a, b, _⟩ := h3 i hi
  rw [clA_at hi] at a b
  exact ⟨a.at, b.at⟩
end Go.Proofs.YtmifhlkcceafkaaGreat

/-
  Plain facts of the machine that a heap is moved to: it is ok, all that it tells of is there, and its calls as things of their own are the heap's, by other numbers. Nothing of the translation is used here.
-/
namespace Go.Proofs.YtmifhlkcceafkaaGreat
open Go.RowKit
end Go.Proofs.YtmifhlkcceafkaaGreat

/-
  More plain facts of the machine that a heap is moved to.
-/
namespace Go.Proofs.YtmifhlkcceafkaaGreat
open Go.RowKit
def mvRun (h : Hp) (n : Nat) (c : Int) (j : Nat) (x : Cl) : Mc :=
  ⟨c, ⟨x.sender, [⟨x.m, x.pc, (j : Int), x.temps, x.stack⟩]⟩ :: List.replicate n pgE, ordTo (n + 1) (n + 1), 0, (h.calls.map twC).set j twGone, h.born, h.said, h.code⟩
def mvEnd (h : Hp) (n : Nat) (c : Int) : Mc := ⟨c, List.replicate n pgE, ordTo n n, -1, h.calls.map twC, h.born, h.said, h.code⟩
theorem mvIn_run {h : Hp} {n : Nat} {c : Int} {j : Nat} (hj : j < h.calls.length) (hn : h.now = (j : Int)) : mvIn h (n + 1) c = mvRun h n c j h.calls[j] := by
  have e : h.calls.getD j Cl.none = h.calls[j] := by simp [hj]
  unfold mvIn
  rw [if_neg (by rw [hn]; omega), hn, Int.toNat_natCast, e, List.replicate_succ, List.set_cons_zero]
  rfl
theorem mvIn_end {h : Hp} {n : Nat} {c : Int} (hn : h.now = -1) : mvIn h n c = mvEnd h n c := by
  unfold mvIn
  rw [if_pos hn]
  rfl
section
variable {ms : Ms} {h : Hp} {n : Nat} {c : Int} {j : Nat}
theorem run_twins (hj : j < h.calls.length) {i : Nat} (hi : i < h.calls.length) : ((h.calls.map twC).set j twGone)[i]? = some (if i = j then twGone else twC h.calls[i]) := by
  by_cases e : i = j
  · subst e
    rw [if_pos rfl, List.getElem?_set_self (by simpa using hi)]
  · rw [if_neg e, List.getElem?_set_ne (Ne.symm e), List.getElem?_map, List.getElem?_eq_getElem hi]
    rfl
end
end Go.Proofs.YtmifhlkcceafkaaGreat

/-
  The machine that a heap is moved to is ok, what it tells of is there, and the same is seen of it.
-/
namespace Go.Proofs.YtmifhlkcceafkaaGreat
open Go.RowKit
section
variable {ms : Ms} {h : Hp} {n : Nat} {c : Int} {j : Nat}
/-! ### both -/
theorem good_now {ms : Ms} {h : Hp} (g : Good ms h) : h.now = -1 ∨ ∃ j : Nat, h.now = (j : Int) ∧ ∃ hj : j < h.calls.length, h.calls[j].dead = false := by
  by_cases e : h.now = -1
  · exact .inl e
  · right
    have := g.head.now
    obtain ⟨j, hj⟩ := Int.eq_ofNat_of_zero_le (show 0 ≤ h.now by omega)
    obtain ⟨l, hw⟩ := g.w
    rw [hj] at hw
    obtain ⟨hl, _, _, hd, _⟩ := hw.head
    exact ⟨j, hj, hl, hd⟩
end
end Go.Proofs.YtmifhlkcceafkaaGreat
