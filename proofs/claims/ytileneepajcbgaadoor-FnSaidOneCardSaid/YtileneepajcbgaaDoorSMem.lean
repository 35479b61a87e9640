/-
  A heap at work, in memory of its own: what is written to it. Nothing of the translation is used here but the number of its type.
-/
import Derived.Test.YtileneepajcbgaaDoorCallRow

namespace Go.Proofs.YtileneepajcbgaaDoor
open Go.RowKit
def putV (V : Nat → Value × Value) (j : Nat) (x : Value × Value) : Nat → Value × Value := fun i => if i = j then x else V i
theorem putV_same (V : Nat → Value × Value) (j : Nat) (x : Value × Value) : putV V j x j = x := if_pos rfl
theorem putV_other (V : Nat → Value × Value) {j i : Nat} (x : Value × Value) (h : i ≠ j) : putV V j x i = V i := if_neg h
theorem lst_put (V : Nat → Value × Value) (j : Nat) (x : Value × Value) (q : Nat) : lst (putV V j x) q = if q / 2 = j then (if q % 2 = 0 then x.1 else x.2) else lst V q := by
  unfold lst putV
  by_cases e : q / 2 = j
  · simp [e]
  · simp [e]
theorem OwnCalls.put {B : Nat} {w w' : World} {g off cap n : Nat} {cs : List Cl} {V : Nat → Value × Value} (h : OwnCalls B w (.slice (some ⟨g, off, none⟩) n cap) cs V) {j : Nat} (hj : j < cs.length) (c : Cl) (vt vs : Value)
    (hsz : w.heap.size ≤ w'.heap.size) (hfr : ∀ o, w'.frozen? ⟨g, o, none⟩ = w.frozen? ⟨g, o, none⟩)
    (hrow : ∀ o, (o < off + j * 6 ∨ off + j * 6 + 6 ≤ o) → w'.cell? ⟨g, o, none⟩ = w.cell? ⟨g, o, none⟩)
    (hbl : ∀ k, k < w.heap.size → k ≠ g → (V j).1.ownBlock ≠ some k → (V j).2.ownBlock ≠ some k → w'.heap[k]? = w.heap[k]?)
    (c0 : w'.cell? ⟨g, off + j * 6, none⟩ = some (.int .i64 c.m)) (c1 : w'.cell? ⟨g, off + j * 6 + 1, none⟩ = some (.int .i64 c.pc)) (c2 : w'.cell? ⟨g, off + j * 6 + 2, none⟩ = some vt)
    (c3 : w'.cell? ⟨g, off + j * 6 + 3, none⟩ = some vs) (c4 : w'.cell? ⟨g, off + j * 6 + 4, none⟩ = some (.int .i64 c.sender)) (c5 : w'.cell? ⟨g, off + j * 6 + 5, none⟩ = some (.bool c.dead))
    (ht : PairRow B w' vt c.temps) (hs : PairRow B w' vs c.stack)
    (nt : ∀ q, vt.ownBlock = some q → (V j).1.ownBlock = some q ∨ (V j).2.ownBlock = some q ∨ w.heap.size ≤ q) (ns : ∀ q, vs.ownBlock = some q → (V j).1.ownBlock = some q ∨ (V j).2.ownBlock = some q ∨ w.heap.size ≤ q)
    (ts : ∀ q, vt.ownBlock = some q → vs.ownBlock ≠ some q) : OwnCalls B w' (.slice (some ⟨g, off, none⟩) n cap) (cs.set j c) (putV V j (vt, vs)) := by
  have hgl : g < w.heap.size := (h.lt (g := g) (.inl rfl)).2
  have key : ∀ q, q < cs.length * 2 → q / 2 ≠ j → ∀ k, (lst V q).ownBlock = some k → k < w.heap.size ∧ k ≠ g ∧ (V j).1.ownBlock ≠ some k ∧ (V j).2.ownBlock ≠ some k := fun q hq hqj k hk => by
    obtain ⟨a1, a2⟩ := h.apart q hq k hk
    have b1 := a2 (j * 2) (by omega) (by omega)
    have b2 := a2 (j * 2 + 1) (by omega) (by omega)
    rw [lst_0] at b1
    rw [lst_1] at b2
    exact ⟨(h.lt (g := k) (.inr ⟨q, hq, hk⟩)).2, fun e => a1 (by rw [e]; rfl), b1, b2⟩
  have own : ∀ q, (V j).1.ownBlock = some q ∨ (V j).2.ownBlock = some q ∨ w.heap.size ≤ q → q ≠ g := fun q hq => by
    rcases hq with e | e | e
    · intro eg
      exact (h.apart (j * 2) (by omega) q (by rw [lst_0]; exact e)).1 (by rw [eg]; rfl)
    · intro eg
      exact (h.apart (j * 2 + 1) (by omega) q (by rw [lst_1]; exact e)).1 (by rw [eg]; rfl)
    · omega
  have newb : ∀ q, q / 2 = j → ∀ k, (lst (putV V j (vt, vs)) q).ownBlock = some k → (V j).1.ownBlock = some k ∨ (V j).2.ownBlock = some k ∨ w.heap.size ≤ k := fun q hq k hk => by
    rw [lst_put, if_pos hq] at hk
    by_cases e : q % 2 = 0
    · rw [if_pos e] at hk; exact nt k hk
    · rw [if_neg e] at hk; exact ns k hk
  refine ⟨?_, fun i hi => ?_, fun q hq k hk => ?_⟩
  · rcases h.row with ⟨h0, _⟩ | ⟨g', off', cap', hv, hB, hg, hl, hc, hsp, hx⟩
    · cases h0
    · cases hv
      refine .inr ⟨g, off, cap, by simp, hB, by omega, by simpa using hl, hc, fun i hi => ?_, fun i hi => ?_⟩
      · rw [hfr]
        refine ⟨?_, (hsp i hi).2⟩
        by_cases e : i < j * 6 ∨ j * 6 + 6 ≤ i
        · rw [hrow (off + i) (by omega)]; exact (hsp i hi).1
        · have h6 : off + i = off + j * 6 ∨ off + i = off + j * 6 + 1 ∨ off + i = off + j * 6 + 2 ∨ off + i = off + j * 6 + 3 ∨ off + i = off + j * 6 + 4 ∨ off + i = off + j * 6 + 5 := by omega
          rcases h6 with e | e | e | e | e | e <;> rw [e]
          · rw [c0]; rfl
          · rw [c1]; rfl
          · rw [c2]; rfl
          · rw [c3]; rfl
          · rw [c4]; rfl
          · rw [c5]; rfl
      · rw [List.length_set] at hi
        by_cases e : i = j
        · subst e
          rw [List.getElem_set_self, putV_same]
          exact ⟨c0, c1, c2, c3, c4, c5⟩
        · rw [List.getElem_set_ne (Ne.symm e), putV_other _ _ e, hrow _ (by omega), hrow _ (by omega), hrow _ (by omega), hrow _ (by omega), hrow _ (by omega), hrow _ (by omega)]
          exact hx i hi
  · rw [List.length_set] at hi
    by_cases e : i = j
    · subst e
      rw [List.getElem_set_self, putV_same]
      exact ⟨ht, hs⟩
    · rw [List.getElem_set_ne (Ne.symm e), putV_other _ _ e]
      obtain ⟨p1, p2⟩ := h.lists i hi
      refine ⟨p1.kept hsz fun k hk => ?_, p2.kept hsz fun k hk => ?_⟩
      · obtain ⟨a1, a2, a3, a4⟩ := key (i * 2) (by omega) (by omega) k (by rw [lst_0]; exact hk)
        exact hbl k a1 a2 a3 a4
      · obtain ⟨a1, a2, a3, a4⟩ := key (i * 2 + 1) (by omega) (by omega) k (by rw [lst_1]; exact hk)
        exact hbl k a1 a2 a3 a4
  · rw [List.length_set] at hq
    by_cases e : q / 2 = j
    · have hn := newb q e k hk
      refine ⟨fun e2 => own k hn (by have e3 : g = k := Option.some.inj e2; exact e3.symm), fun q' hq' hne hk' => ?_⟩
      rw [List.length_set] at hq'
      by_cases e' : q' / 2 = j
      · rw [lst_put, if_pos e] at hk
        rw [lst_put, if_pos e'] at hk'
        rcases Nat.mod_two_eq_zero_or_one q with m | m <;> rcases Nat.mod_two_eq_zero_or_one q' with m' | m'
        · omega
        · rw [if_pos m] at hk; rw [if_neg (by omega)] at hk'; exact ts k hk hk'
        · rw [if_neg (by omega)] at hk; rw [if_pos m'] at hk'; exact ts k hk' hk
        · omega
      · rw [lst_put, if_neg e'] at hk'
        obtain ⟨a1, a2, a3, a4⟩ := key q' hq' e' k hk'
        rcases hn with x | x | x
        · exact a3 x
        · exact a4 x
        · omega
    · rw [lst_put, if_neg e] at hk
      obtain ⟨a1, a2, a3, a4⟩ := key q hq e k hk
      refine ⟨(h.apart q hq k hk).1, fun q' hq' hne hk' => ?_⟩
      rw [List.length_set] at hq'
      by_cases e' : q' / 2 = j
      · rcases newb q' e' k hk' with x | x | x
        · exact a3 x
        · exact a4 x
        · omega
      · rw [lst_put, if_neg e'] at hk'
        exact (h.apart q hq k hk).2 q' hq' hne hk'
theorem OwnCalls.cells {B : Nat} {w : World} {g off cap n : Nat} {cs : List Cl} {V : Nat → Value × Value} (h : OwnCalls B w (.slice (some ⟨g, off, none⟩) n cap) cs V) {j : Nat} (hj : j < cs.length) :
    (w.cell? ⟨g, off + j * 6, none⟩ = some (.int .i64 cs[j].m) ∧ w.cell? ⟨g, off + j * 6 + 1, none⟩ = some (.int .i64 cs[j].pc) ∧ w.cell? ⟨g, off + j * 6 + 2, none⟩ = some (V j).1 ∧ w.cell? ⟨g, off + j * 6 + 3, none⟩ = some (V j).2 ∧ w.cell? ⟨g, off + j * 6 + 4, none⟩ = some (.int .i64 cs[j].sender) ∧ w.cell? ⟨g, off + j * 6 + 5, none⟩ = some (.bool cs[j].dead)) ∧
    ∀ f, f < 6 → w.frozen? ⟨g, off + j * 6 + f, none⟩ = false := by
  rcases h.row with ⟨h0, _⟩ | ⟨g', off', cap', hv, hB, hg, hl, hc, hsp, hx⟩
  · cases h0
  · cases hv
    refine ⟨hx j hj, fun f hf => ?_⟩
    have := (hsp (j * 6 + f) (by omega)).2
    rwa [show off + (j * 6 + f) = off + j * 6 + f by omega] at this
structure Cm (A : Nat → Prop) (B : Nat) (w w' : World) : Prop where
  b : Below B w w'
  a : ∀ q, A q → w'.heap[q]? = w.heap[q]?
theorem Cm.trans {A : Nat → Prop} {B : Nat} {x y z : World} (h : Cm A B x y) (k : Cm A B y z) : Cm A B x z := ⟨h.b.trans k.b, fun q hq => (k.a q hq).trans (h.a q hq)⟩
theorem Cm.less {A A' : Nat → Prop} {B : Nat} {x y : World} (h : Cm A B x y) (hA : ∀ q, A' q → A q) : Cm A' B x y := ⟨h.b, fun q hq => h.a q (hA q hq)⟩
theorem Cm.row {A : Nat → Prop} {B : Nat} {x y : World} (h : Cm A B x y) {g : Nat} {t : TypeId} {n : Nat} {f : Nat → Value} (hr : x.rowIs g t n f) (hg : A g) : y.rowIs g t n f := hr.of_block (h.a g hg)
structure SM (A : Nat → Prop) (B : Nat) (w : World) (bo : Nat) (vp vc vs : Value) (ms : List (Int × Int × List (Int × Int))) (h : Hp) (V : Nat → Value × Value) : Prop where
  box : w.rowIs bo 80 6 (six vp vc (.int .i64 h.now) (.int .i64 h.born) vs (.int .i64 h.code))
  le : B ≤ bo
  own : OwnHeap B w vc vs h V
  nb : ¬ HeapBlocks vc vs h.calls.length V bo
  av : ∀ q, A q → q ≠ bo ∧ q < w.heap.size ∧ ¬ HeapBlocks vc vs h.calls.length V q
  pr : ∃ w0 : World, MethsAt w0 vp ms ∧ w0.heap.size ≤ B ∧ Below w0.heap.size w0 w
theorem SM.prog {A : Nat → Prop} {B : Nat} {w : World} {bo : Nat} {vp vc vs : Value} {ms : List (Int × Int × List (Int × Int))} {h : Hp} {V : Nat → Value × Value} (k : SM A B w bo vp vc vs ms h V) : MethsAt w vp ms := by
  obtain ⟨w0, h1, _, h3⟩ := k.pr
  exact h1.below h3
theorem SM.below {A : Nat → Prop} {B : Nat} {w w' : World} {bo : Nat} {vp vc vs : Value} {ms : List (Int × Int × List (Int × Int))} {h : Hp} {V : Nat → Value × Value} (k : SM A B w bo vp vc vs ms h V) (hb : Below w.heap.size w w') : SM A B w' bo vp vc vs ms h V := by
  obtain ⟨w0, h1, h2, h3⟩ := k.pr
  exact ⟨row_below hb k.box, k.le, k.own.below hb, k.nb, fun q hq => ⟨(k.av q hq).1, by have := (k.av q hq).2.1; have := hb.size; omega, (k.av q hq).2.2⟩, w0, h1, h2, h3.trans (hb.mono h3.size)⟩
theorem SM.cm {A : Nat → Prop} {B : Nat} {w w' : World} {bo : Nat} {vp vc vs : Value} {ms : List (Int × Int × List (Int × Int))} {h : Hp} {V : Nat → Value × Value} (k : SM A B w bo vp vc vs ms h V) (hb : Below w.heap.size w w') (hB : B ≤ w.heap.size) : Cm A B w w' := ⟨hb.mono hB, fun q hq => hb.block q (k.av q hq).2.1⟩
theorem SM.re {A A' : Nat → Prop} {B : Nat} {w : World} {bo : Nat} {vp vc vs : Value} {ms : List (Int × Int × List (Int × Int))} {h : Hp} {V : Nat → Value × Value} (k : SM A B w bo vp vc vs ms h V) (hA : ∀ q, A' q → q ≠ bo ∧ q < w.heap.size ∧ ¬ HeapBlocks vc vs h.calls.length V q) : SM A' B w bo vp vc vs ms h V := ⟨k.box, k.le, k.own, k.nb, hA, k.pr⟩
theorem SM.made {A : Nat → Prop} {B : Nat} {w w' : World} {bo : Nat} {vp vc vs : Value} {ms : List (Int × Int × List (Int × Int))} {h : Hp} {V : Nat → Value × Value} (k : SM A B w bo vp vc vs ms h V) (hb : Below w.heap.size w w') (hw : w.heap.size < w'.heap.size) : SM (fun q => A q ∨ q = w.heap.size) B w' bo vp vc vs ms h V := by
  refine (k.below hb).re fun q hq => ?_
  rcases hq with hq | rfl
  · exact (k.below hb).av q hq
  · exact ⟨by have := k.box.lt; omega, hw, fun e => by have := (k.own.lt e).2; omega⟩
theorem SM.less {A A' : Nat → Prop} {B : Nat} {w : World} {bo : Nat} {vp vc vs : Value} {ms : List (Int × Int × List (Int × Int))} {h : Hp} {V : Nat → Value × Value} (k : SM A B w bo vp vc vs ms h V) (hA : ∀ q, A' q → A q) : SM A' B w bo vp vc vs ms h V := k.re fun q hq => k.av q (hA q hq)
theorem prog_later {B : Nat} {w w' : World} {vp : Value} {ms : List (Int × Int × List (Int × Int))} (h : ∃ w0 : World, MethsAt w0 vp ms ∧ w0.heap.size ≤ B ∧ Below w0.heap.size w0 w) (hb : Below B w w') : ∃ w0 : World, MethsAt w0 vp ms ∧ w0.heap.size ≤ B ∧ Below w0.heap.size w0 w' := by
  obtain ⟨w0, h1, h2, h3⟩ := h
  exact ⟨w0, h1, h2, h3.trans (hb.mono h2)⟩
structure Put (B : Nat) (w w' : World) (g off j : Nat) (V : Nat → Value × Value) (c : Cl) (vt vs : Value) : Prop where
  sz : w.heap.size ≤ w'.heap.size
  fr : ∀ o, w'.frozen? ⟨g, o, none⟩ = w.frozen? ⟨g, o, none⟩
  row : ∀ o, (o < off + j * 6 ∨ off + j * 6 + 6 ≤ o) → w'.cell? ⟨g, o, none⟩ = w.cell? ⟨g, o, none⟩
  bl : ∀ k, k < w.heap.size → k ≠ g → (V j).1.ownBlock ≠ some k → (V j).2.ownBlock ≠ some k → w'.heap[k]? = w.heap[k]?
  c0 : w'.cell? ⟨g, off + j * 6, none⟩ = some (.int .i64 c.m)
  c1 : w'.cell? ⟨g, off + j * 6 + 1, none⟩ = some (.int .i64 c.pc)
  c2 : w'.cell? ⟨g, off + j * 6 + 2, none⟩ = some vt
  c3 : w'.cell? ⟨g, off + j * 6 + 3, none⟩ = some vs
  c4 : w'.cell? ⟨g, off + j * 6 + 4, none⟩ = some (.int .i64 c.sender)
  c5 : w'.cell? ⟨g, off + j * 6 + 5, none⟩ = some (.bool c.dead)
  ht : PairRow B w' vt c.temps
  hs : PairRow B w' vs c.stack
  nt : ∀ q, vt.ownBlock = some q → (V j).1.ownBlock = some q ∨ (V j).2.ownBlock = some q ∨ w.heap.size ≤ q
  ns : ∀ q, vs.ownBlock = some q → (V j).1.ownBlock = some q ∨ (V j).2.ownBlock = some q ∨ w.heap.size ≤ q
  ts : ∀ q, vt.ownBlock = some q → vs.ownBlock ≠ some q
theorem SM.put {A : Nat → Prop} {B : Nat} {w w' : World} {bo : Nat} {vp vs : Value} {g off n cap : Nat} {ms : List (Int × Int × List (Int × Int))} {h : Hp} {V : Nat → Value × Value} (k : SM A B w bo vp (.slice (some ⟨g, off, none⟩) n cap) vs ms h V) {j : Nat} (hj : j < h.calls.length) {c : Cl} {vt vs' : Value}
    (p : Put B w w' g off j V c vt vs') (hb : Below B w w') : SM A B w' bo vp (.slice (some ⟨g, off, none⟩) n cap) vs ms { h with calls := h.calls.set j c } (putV V j (vt, vs')) ∧ Cm A B w w' := by
  have hV1 : ∀ q, (V j).1.ownBlock = some q → CallBlocks (.slice (some ⟨g, off, none⟩) n cap) h.calls.length V q := fun q e => .inr ⟨j * 2, by omega, by rw [lst_0]; exact e⟩
  have hV2 : ∀ q, (V j).2.ownBlock = some q → CallBlocks (.slice (some ⟨g, off, none⟩) n cap) h.calls.length V q := fun q e => .inr ⟨j * 2 + 1, by omega, by rw [lst_1]; exact e⟩
  have hout : ∀ q, q < w.heap.size → ¬ CallBlocks (.slice (some ⟨g, off, none⟩) n cap) h.calls.length V q → w'.heap[q]? = w.heap[q]? := fun q hq hn => p.bl q hq (fun e => hn (.inl (by rw [e]; rfl))) (fun e => hn (hV1 q e)) (fun e => hn (hV2 q e))
  have hnew : ∀ q, q < w.heap.size → ¬ CallBlocks (.slice (some ⟨g, off, none⟩) n cap) h.calls.length V q → ¬ CallBlocks (.slice (some ⟨g, off, none⟩) n cap) (h.calls.set j c).length (putV V j (vt, vs')) q := fun q hq hn e => by
    rcases e with e | ⟨i, hi, e⟩
    · exact hn (.inl e)
    · rw [List.length_set] at hi
      rw [lst_put] at e
      by_cases e1 : i / 2 = j
      · rw [if_pos e1] at e
        by_cases e2 : i % 2 = 0
        · rw [if_pos e2] at e
          rcases p.nt q e with x | x | x
          · exact hn (hV1 q x)
          · exact hn (hV2 q x)
          · omega
        · rw [if_neg e2] at e
          rcases p.ns q e with x | x | x
          · exact hn (hV1 q x)
          · exact hn (hV2 q x)
          · omega
      · rw [if_neg e1] at e
        exact hn (.inr ⟨i, hi, e⟩)
  have hbo : bo < w.heap.size := k.box.lt
  have hbn : ¬ CallBlocks (.slice (some ⟨g, off, none⟩) n cap) h.calls.length V bo := fun e => k.nb (.inr e)
  refine ⟨⟨k.box.of_block (hout bo hbo hbn), k.le, ⟨k.own.c.put hj c vt vs' p.sz p.fr p.row p.bl p.c0 p.c1 p.c2 p.c3 p.c4 p.c5 p.ht p.hs p.nt p.ns p.ts, k.own.s.kept p.sz fun q e => hout q (k.own.s.lt q e).2 (k.own.apart q e), fun q e => hnew q (k.own.s.lt q e).2 (k.own.apart q e)⟩, fun e => ?_, fun q hq => ⟨(k.av q hq).1, by have := (k.av q hq).2.1; have := p.sz; omega, fun e => ?_⟩, prog_later k.pr hb⟩, hb, fun q hq => hout q (k.av q hq).2.1 (fun e => (k.av q hq).2.2 (.inr e))⟩
  · rcases e with e | e
    · exact k.nb (.inl e)
    · exact hnew bo hbo hbn e
  · rcases e with e | e
    · exact (k.av q hq).2.2 (.inl e)
    · exact hnew q (k.av q hq).2.1 (fun e => (k.av q hq).2.2 (.inr e)) e
theorem six_set {w : World} {g : Nat} {t : TypeId} {f : Nat → Value} (h : w.rowIs g t 6 f) (i : Nat) (v : Value) {f' : Nat → Value} (hf : ∀ k, k < 6 → f' k = if k = i then v else f k) : (w.setCell ⟨g, i, none⟩ v).rowIs g t 6 f' :=
  (h.set i v).congr fun k hk => by rw [hf k hk]
theorem SM.num {A : Nat → Prop} {B : Nat} {w : World} {bo : Nat} {vp vc vs : Value} {ms : List (Int × Int × List (Int × Int))} {h h' : Hp} {V : Nat → Value × Value} (k : SM A B w bo vp vc vs ms h V) (i : Nat) (x : Int) (hc : h'.calls = h.calls) (hs : h'.said = h.said)
    (hf : ∀ q, q < 6 → six vp vc (.int .i64 h'.now) (.int .i64 h'.born) vs (.int .i64 h'.code) q = if q = i then .int .i64 x else six vp vc (.int .i64 h.now) (.int .i64 h.born) vs (.int .i64 h.code) q) : SM A B (w.setCell ⟨bo, i, none⟩ (.int .i64 x)) bo vp vc vs ms h' V ∧ Cm A B w (w.setCell ⟨bo, i, none⟩ (.int .i64 x)) := by
  have hbl : ∀ q, HeapBlocks vc vs h.calls.length V q → (w.setCell ⟨bo, i, none⟩ (.int .i64 x)).heap[q]? = w.heap[q]? := fun q e => Below.heap_setCell _ _ _ _ (fun e2 => k.nb (by have e3 : q = bo := e2; rw [← e3]; exact e))
  have o := k.own.kept (w' := w.setCell ⟨bo, i, none⟩ (.int .i64 x)) (by simp [World.setCell]) hbl
  have b1 := (Below.refl B w).setCell (p := ⟨bo, i, none⟩) k.le (.int .i64 x)
  exact ⟨⟨six_set k.box i _ hf, k.le, ⟨by rw [hc]; exact o.c, by rw [hs]; exact o.s, by rw [hc]; exact o.apart⟩, by rw [hc]; exact k.nb, fun q hq => ⟨(k.av q hq).1, by simp [World.setCell]; exact (k.av q hq).2.1, by rw [hc]; exact (k.av q hq).2.2⟩, prog_later k.pr b1⟩, b1, fun q hq => Below.heap_setCell _ _ _ _ (fun e => (k.av q hq).1 e)⟩
end Go.Proofs.YtileneepajcbgaaDoor
