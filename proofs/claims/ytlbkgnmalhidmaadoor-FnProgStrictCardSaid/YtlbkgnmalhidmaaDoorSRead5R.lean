import Derived.Test.YtlbkgnmalhidmaaDoorSReadRow
import Derived.Test.YtlbkgnmalhidmaaDoorReadImpl8
import Derived.Test.YtlbkgnmalhidmaaDoorTextSpec2

/-
  The model's ProgRead, walked.
-/
namespace Go.Proofs.YtlbkgnmalhidmaaDoor
open Go.RowKit

/-- where the model's ProgRead stands behind k lines -/
structure SP (w wr : World) (T : ByteArray) (lines : List ByteArray) (vL u : Value) (ms : List MM) (k : Nat) : Prop where
  row : PRow w.heap.size wr u ms
  lin : StrRow w.heap.size wr vL lines
  box : wr.rowIs (w.heap.size + 1) 26 1 (fun _ => u)
  res : wr.rowIs w.heap.size 26 1 (fun _ => .slice none 0 0)
  bel : Below w.heap.size w wr
  few : ms.length ≤ k
  ops : ∀ m ∈ ms, m.2.2.2.length ≤ k
  far : ∀ items, (∀ i ∈ items, Fine i) → (∀ i l, items = i :: l → i.1 = 0) → T.toList = textOf items → FarS items k (plainOf ms)

/-- the line k is that of the item k -/
theorem line_of {T : ByteArray} {lines : List ByteArray} (hl : lines.map ByteArray.toList = cutS 10 [] T.toList) {items : List (Nat × Nat × Nat)} (hf : ∀ i ∈ items, Fine i) (ht : T.toList = textOf items) {k : Nat} (hk : k + 1 < lines.length) : ∃ hk' : k < items.length, (lines[k]'(by omega)).toList = lineOf items[k] := by
  rw [ht, cut_text hf] at hl
  have hlen := congrArg List.length hl
  simp at hlen
  have hk' : k < items.length := by omega
  refine ⟨hk', ?_⟩
  have := congrArg (fun l => l[k]?) hl
  rw [List.getElem?_map, List.getElem?_eq_getElem (by omega : k < lines.length), List.getElem?_append_left (by simpa using hk'), List.getElem?_map, List.getElem?_eq_getElem hk'] at this
  simpa using this

/-- the next state -/
theorem SP.step {w wr wn : World} {T : ByteArray} {lines : List ByteArray} {vL u u' : Value} {ms ms' : List MM} {k : Nat} (h : SP w wr T lines vL u ms k) (hk : k + 1 < lines.length) (hl : lines.map ByteArray.toList = cutS 10 [] T.toList) {ws : List (List UInt8)} (hw : ws = cutS 32 [] (lines[k]'(by omega)).toList)
    (hline : specLine (plainOf ms) ws (plainOf ms')) (hrow : PRow w.heap.size wn u' ms') (hlin : StrRow w.heap.size wn vL lines) (hbox : wn.rowIs (w.heap.size + 1) 26 1 (fun _ => u')) (hres : wn.rowIs w.heap.size 26 1 (fun _ => .slice none 0 0)) (hbel : Below w.heap.size w wn)
    (hfew : ms'.length ≤ k + 1) (hops : ∀ m ∈ ms', m.2.2.2.length ≤ k + 1) : SP w wn T lines vL u' ms' (k + 1) :=
  ⟨hrow, hlin, hbox, hres, hbel, hfew, hops, fun items hf hfst ht => by
    obtain ⟨hk', e⟩ := line_of hl hf ht hk
    exact (h.far items hf hfst ht).next hf hfst hk' (by rw [hw, e]) hline⟩

/-- the next state, when an operation was appended -/
theorem SP.op {w w2 w3 w5 : World} {T : ByteArray} {lines : List ByteArray} {vL : Value} {gm cp n k : Nat} {ms : List MM} (h : SP w w2 T lines vL (.slice (some ⟨gm, 0, none⟩) ms.length cp) ms k) (hk : k + 1 < lines.length) (hl : lines.map ByteArray.toList = cutS 10 [] T.toList) {ws : List ByteArray} (hw : ws.map ByteArray.toList = cutS 32 [] (lines[k]'(by omega)).toList) (hw0 : 0 < ws.length)
    (hna : ¬ ((ws.map ByteArray.toList).getD 0 [] = methW ∧ (ws.map ByteArray.toList).length = 3)) (hn : ms.length = n + 1) {ao : Option Addr} {co : Nat} {L : List (Int × Int)} (hL : (ms[n]'(by omega)).2.2.2 = L) (hvo : (ms[n]'(by omega)).2.2.1 = .slice ao L.length co) (h3 : Below w2.heap.size w2 w3) {o : Obj} {q : Nat} {a : Int}
    (hK : KindTo 19 (ws.getD 0 ByteArray.empty).toList q ∧ (ws.length = 1 → a = 0) ∧ (1 < ws.length → a = numS 0 (ws.getD 1 ByteArray.empty).toList)) {g5 cp5 : Nat} (hrow5 : OpsRow w.heap.size w5 (.slice (some ⟨g5, 0, none⟩) (L.length + 1) cp5) (L ++ [((q : Int), a)])) (hg5 : (w3.alloc o).grownBy w5 (Value.slice ao L.length co).ownBlock)
    (hat5 : (Value.slice ao L.length co).ownBlock = some g5 ∨ (w3.alloc o).heap.size ≤ g5) (hO : OpsRow w.heap.size (w3.alloc o) (.slice ao L.length co) L) (hR0 : w5.rowIs (w.heap.size + 1) 26 1 (fun _ => .slice (some ⟨gm, 0, none⟩) ms.length cp)) (hR1 : w5.rowIs w.heap.size 26 1 (fun _ => .slice none 0 0)) (hR2 : StrRow w.heap.size w5 vL lines) :
    SP w (w5.setCell ⟨gm, n * 3 + 2, none⟩ (.slice (some ⟨g5, 0, none⟩) (L.length + 1) cp5)) T lines vL (.slice (some ⟨gm, 0, none⟩) ms.length cp) (ms.set n ((ms[n]'(by omega)).1, (ms[n]'(by omega)).2.1, .slice (some ⟨g5, 0, none⟩) (L.length + 1) cp5, L ++ [((q : Int), a)])) (k + 1) := by
  have hnl : n < ms.length := by omega
  have hs2 := h.bel.size
  have hs3 := h3.size
  have hBB := h3.alloc hs3 o
  have hg6 : (w3.alloc o).grownBy w5 ms[n].2.2.1.ownBlock := by rw [hvo]; exact hg5
  have hP6 := PRow.opsTo (h.row.below hBB) hnl hg6 hrow5 (fun g e => by
    have e' : g5 = g := by simpa [Value.ownBlock] using e
    rw [hvo, ← e']; exact hat5)
  have hbn : w.heap.size ≤ (w3.alloc o).heap.size := by simp; omega
  have hb6 : Below w.heap.size w (w5.setCell ⟨gm, n * 3 + 2, none⟩ (.slice (some ⟨g5, 0, none⟩) (L.length + 1) cp5)) := ((h.bel.trans (hBB.mono hs2)).grown hg5 hbn (fun q e => (hO.lt q e).1)).setCell (p := ⟨gm, n * 3 + 2, none⟩) ((h.row.row.lt gm rfl).1) _
  have g1 : w.heap.size ≠ gm := fun e => row_ne_meths h.res h.row.row (by decide) (by rw [e]; rfl)
  have g2 : w.heap.size + 1 ≠ gm := fun e => row_ne_meths h.box h.row.row (by decide) (by rw [e]; rfl)
  have hX0 := row_kept hR0 (grown_set w5 gm (n * 3 + 2) (.slice (some ⟨g5, 0, none⟩) (L.length + 1) cp5)) (fun e => g2 (by simpa using e))
  have hX1 := row_kept hR1 (grown_set w5 gm (n * 3 + 2) (.slice (some ⟨g5, 0, none⟩) (L.length + 1) cp5)) (fun e => g1 (by simpa using e))
  have hX2 := hR2.kept (grown_set w5 gm (n * 3 + 2) (.slice (some ⟨g5, 0, none⟩) (L.length + 1) cp5)) (fun g e e' => by cases e; exact str_ne_meths h.lin h.row.row _ e' rfl)
  have e0 : (ws.map ByteArray.toList).getD 0 [] = (ws.getD 0 ByteArray.empty).toList := by simp [hw0]
  refine h.step hk hl hw (.inr (.inr ⟨hna, ?_⟩)) hP6 hX2 hX0 hX1 hb6 (by have := h.few; simp; omega) (fun m hm => op_len (hn := hnl) h.ops (by have := h.ops _ (List.getElem_mem hnl); rw [hL] at this; exact this) hL hm)
  have hpl : (plainOf ms).length = n + 1 := by simp [plainOf, hn]
  have e : (plainOf ms)[n]'(by omega) = ((ms[n]'(by omega)).1, (ms[n]'(by omega)).2.1, L) := by simp [plainOf, ← hL]
  refine ⟨(plainOf ms).take n, (plainOf ms)[n]'(by omega), q, a, (set_last hpl ((0, 0, []) : Int × Int × List (Int × Int))).1, by rw [e0]; exact hK.1, fun h1 => hK.2.1 (by simpa using h1), fun h1 => ?_, ?_⟩
  · have h1' : 1 < ws.length := by simpa using h1
    rw [hK.2.2 h1']
    simp [h1']
  · rw [e]
    unfold plainOf
    rw [List.map_set]
    exact (set_last (l := ms.map fun m => (m.1, m.2.1, m.2.2.2)) (by simpa using hn) _).2

/-- the next state, when a method was appended -/
theorem SP.meth {w w2 w5 : World} {T : ByteArray} {lines : List ByteArray} {vL : Value} {ap : Option Addr} {cp k : Nat} {ms : List MM} (h : SP w w2 T lines vL (.slice ap ms.length cp) ms k) (hk : k + 1 < lines.length) (hl : lines.map ByteArray.toList = cutS 10 [] T.toList) {ws : List ByteArray} (hw : ws.map ByteArray.toList = cutS 32 [] (lines[k]'(by omega)).toList) {x t : Int}
    (hline : specLine (plainOf ms) (ws.map ByteArray.toList) (plainOf ms ++ [(x, t, [])])) {o : Obj} {g5 cp5 : Nat} (hrow5 : MRow w.heap.size w5 (.slice (some ⟨g5, 0, none⟩) (ms.length + 1) cp5) (ms.map MM.tri ++ [(x, t, .slice (some ⟨w2.heap.size, 0, none⟩) 0 0)])) (hg5 : ((w2.alloc (.cells #[] 47)).alloc o).drew.grownBy w5 (Value.slice ap ms.length cp).ownBlock)
    (hR0 : w5.rowIs (w.heap.size + 1) 26 1 (fun _ => .slice ap ms.length cp)) (hR1 : w5.rowIs w.heap.size 26 1 (fun _ => .slice none 0 0)) (hR2 : StrRow w.heap.size w5 vL lines) :
    SP w (w5.setCell ⟨w.heap.size + 1, 0, none⟩ (.slice (some ⟨g5, 0, none⟩) (ms.length + 1) cp5)) T lines vL (.slice (some ⟨g5, 0, none⟩) (ms.length + 1) cp5) (ms ++ [(x, t, .slice (some ⟨w2.heap.size, 0, none⟩) 0 0, [])]) (k + 1) := by
  have s2 := h.bel.size
  have hA2 : Below w2.heap.size w2 (w2.alloc (.cells #[] 47)) := (Below.refl _ _).alloc (Nat.le_refl _) _
  have hBB : Below w2.heap.size w2 ((w2.alloc (.cells #[] 47)).alloc o).drew := (hA2.alloc (by simp) o).drew
  have HO : OpsRow w.heap.size (w2.alloc (.cells #[] 47)) (.slice (some ⟨w2.heap.size, 0, none⟩) 0 0) [] := (OpsRow.made w2).mono s2
  have hbn : w.heap.size ≤ ((w2.alloc (.cells #[] 47)).alloc o).drew.heap.size := by simp; omega
  have hP5 : PRow w.heap.size w5 (.slice (some ⟨g5, 0, none⟩) (ms.length + 1) cp5) (ms ++ [(x, t, .slice (some ⟨w2.heap.size, 0, none⟩) 0 0, [])]) := (h.row.below hBB).snocOps hg5 (World.ownsRow.alloc HO _) (fun m hm q e e' => by have := ((h.row.ops m hm).lt q e).2; simp [Value.ownBlock] at e'; omega) (by simpa using hrow5)
  have hb5 : Below w.heap.size w w5 := (h.bel.trans (hBB.mono s2)).grown hg5 hbn (fun q e => (h.row.row.lt q e).1)
  have hP6 := hP5.boxed hR0 0 (.slice (some ⟨g5, 0, none⟩) (ms.length + 1) cp5)
  have hX0 : (w5.setCell ⟨w.heap.size + 1, 0, none⟩ (.slice (some ⟨g5, 0, none⟩) (ms.length + 1) cp5)).rowIs (w.heap.size + 1) 26 1 (fun _ => .slice (some ⟨g5, 0, none⟩) (ms.length + 1) cp5) := (hR0.set 0 _).congr (fun i hi => by match i, hi with | 0, _ => simp)
  have hX1 := row_kept hR1 (grown_set w5 (w.heap.size + 1) 0 (.slice (some ⟨g5, 0, none⟩) (ms.length + 1) cp5)) (by simp)
  have hX2 := hR2.kept (grown_set w5 (w.heap.size + 1) 0 (.slice (some ⟨g5, 0, none⟩) (ms.length + 1) cp5)) (fun q e => by cases e; exact str_ne_box hR0 hR2)
  have hb6 := hb5.setCell (p := ⟨w.heap.size + 1, 0, none⟩) (Nat.le_succ _) (.slice (some ⟨g5, 0, none⟩) (ms.length + 1) cp5)
  exact h.step hk hl hw (by simpa [plainOf] using hline) hP6 hX2 hX0 hX1 hb6 (by have := h.few; simp; omega) (fun m hm => by
    rcases List.mem_append.1 hm with hm | hm
    · have := h.ops m hm; omega
    · simp at hm; subst hm; simp)

end Go.Proofs.YtlbkgnmalhidmaaDoor

/-
  The model's ProgRead, walked: its regions.
-/
namespace Go.Proofs.YtlbkgnmalhidmaaDoor
open Go.RowKit

/-- the region of a number inside a code -/
def regionAt (n : Nat) : Code → Option Code
  | .region i ops b => if i == n then some (.region i ops b) else none
  | .seq a b => match regionAt n a with
    | some c => some c
    | none => regionAt n b
  | .cond _ a b => match regionAt n a with
    | some c => some c
    | none => regionAt n b
  | .block _ c => regionAt n c
  | .loop c => regionAt n c
  | .scope c => regionAt n c
  | _ => none

noncomputable def reg11 : Code := ((Tryd.f6.body.bind (regionAt 11)).getD .skip)
noncomputable def reg13 : Code := ((Tryd.f6.body.bind (regionAt 13)).getD .skip)

/-- a code that comes to its end alone -/
theorem wp_then_any {P : Program} {c : Code} {Q : Exit → Act → World → Prop} {a : Act} {w : World} (h : c.wp P (Exit.then (Q .normal) (fun _ _ _ => False)) a w) : c.wp P Q a w :=
  wp_mono h fun e a' w' hq => by
    cases e with
    | normal => exact hq
    | exit id => exact False.elim hq
    | goto l => exact False.elim hq
    | ret => exact False.elim hq
    | panic ch => exact False.elim hq
    | outgrown => exact False.elim hq

end Go.Proofs.YtlbkgnmalhidmaaDoor
