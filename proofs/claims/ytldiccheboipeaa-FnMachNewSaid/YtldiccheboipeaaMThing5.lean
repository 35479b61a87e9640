/-
  Calls of a machine as things of their own: the row that grows, call by call.
-/
import Derived.Test.YtldiccheboipeaaMThing4
import Derived.Test.YtldiccheboipeaaRFL
import Derived.Test.YtldiccheboipeaaCallRow
import Derived.Test.YtldiccheboipeaaMRow

namespace Go.Proofs.Ytldiccheboipeaa
open Go.RowKit
def Thg (B : Nat) (w : World) (v : Value) (cs : List Cl) : Prop :=
  ∃ L : List (Cl × Value × Value), L.map (·.1) = cs ∧ CallRow B w v L ∧ ∀ i, (hi : i < L.length) →
    PairRow B w L[i].2.1 L[i].1.temps ∧ PairRow B w L[i].2.2 L[i].1.stack ∧ (∀ g, L[i].2.1.ownBlock = some g → v.ownBlock ≠ some g) ∧ (∀ g, L[i].2.2.ownBlock = some g → v.ownBlock ≠ some g)
theorem Thg.nil (B : Nat) (w : World) : Thg B w (.slice none 0 0) [] := ⟨[], rfl, CallRow.nil B w, fun _ hi => absurd hi (Nat.not_lt_zero _)⟩
theorem Thg.lt {B : Nat} {w : World} {v : Value} {cs : List Cl} (h : Thg B w v cs) : ∀ g, v.ownBlock = some g → B ≤ g ∧ g < w.heap.size := by
  obtain ⟨L, _, hc, _⟩ := h
  exact hc.lt
theorem Thg.slice {B : Nat} {w : World} {v : Value} {cs : List Cl} (h : Thg B w v cs) : ∃ a cap, v = .slice a cs.length cap := by
  obtain ⟨L, rfl, hc, _⟩ := h
  obtain ⟨a, cap, e, _⟩ := hc.slice
  exact ⟨a, cap, by simpa using e⟩
theorem Thg.kept {B : Nat} {w w' : World} {v : Value} {cs : List Cl} (h : Thg B w v cs) (hs : w.heap.size ≤ w'.heap.size) (hb : ∀ g, B ≤ g → g < w.heap.size → w'.heap[g]? = w.heap[g]?) : Thg B w' v cs := by
  obtain ⟨L, hL, hc, hr⟩ := h
  refine ⟨L, hL, hc.kept hs fun g e => hb g (hc.lt g e).1 (hc.lt g e).2, fun i hi => ?_⟩
  obtain ⟨h1, h2, h3, h4⟩ := hr i hi
  exact ⟨h1.kept hs fun g e => hb g (h1.lt g e).1 (h1.lt g e).2, h2.kept hs fun g e => hb g (h2.lt g e).1 (h2.lt g e).2, h3, h4⟩
theorem Thg.below {B : Nat} {w w' : World} {v : Value} {cs : List Cl} (h : Thg B w v cs) (hb : Below w.heap.size w w') : Thg B w' v cs := h.kept hb.size fun g _ h2 => hb.block g h2
theorem Thg.wr {B k : Nat} {w w' : World} {v : Value} {cs : List Cl} (h : Thg B w v cs) (hw : Wr (fun g => g = k) w w') (hk : k < B) : Thg B w' v cs := h.kept hw.size fun g h1 h2 => hw.block g h2 (by omega)
theorem Thg.mono {B B' : Nat} {w : World} {v : Value} {cs : List Cl} (h : Thg B w v cs) (hB : B' ≤ B) : Thg B' w v cs := by
  obtain ⟨L, hL, hc, hr⟩ := h
  exact ⟨L, hL, CRow.mono hc hB, fun i hi => ⟨(hr i hi).1.mono hB, (hr i hi).2.1.mono hB, (hr i hi).2.2⟩⟩
theorem Thg.at {B : Nat} {w : World} {v : Value} {cs : List Cl} (h : Thg B w v cs) : CallsAt w v cs := by
  obtain ⟨L, rfl, hc, hr⟩ := h
  exact hc.at fun i hi => ⟨(hr i hi).1.at, (hr i hi).2.1.at⟩
theorem thg_append {ty : TypeId} {B : Nat} {w : World} {v : Value} {cs : List Cl} (h : Thg B w v cs) (c : Cl) (u1 u2 : Value) (h1 : PairRow B w u1 c.temps) (h2 : PairRow B w u2 c.stack)
    (a1 : ∀ g, u1.ownBlock = some g → v.ownBlock ≠ some g) (a2 : ∀ g, u2.ownBlock = some g → v.ownBlock ≠ some g) (H k : Nat)
    (hx : ∀ j u, ([.int .i64 c.m, .int .i64 c.pc, u1, u2, .int .i64 c.sender, .bool c.dead] : List Value)[j]? = some u → w.cell? ⟨H, j, none⟩ = some u) (hL : cs.length ≤ 900000) (hB : B ≤ w.heap.size) :
    ∃ a' c' w', (Builtin.append_ #[37, 37] ty #[v, .slice (some ⟨H, 0, none⟩) 1 k]).run Try.prog w = .ok (.slice a' (cs.length + 1) c') w' ∧ Thg B w' (.slice a' (cs.length + 1) c') (cs ++ [c]) ∧ w.grownBy w' v.ownBlock := by
  obtain ⟨L, rfl, hc, hr⟩ := h
  obtain ⟨b1, k1, e1, _⟩ := h1.slice
  obtain ⟨b2, k2, e2, _⟩ := h2.slice
  obtain ⟨v', w', hrun, hrow, hg, ho⟩ := run_append_call (ty := ty) hc (c, u1, u2) (by rw [e1]; rfl) (by rw [e2]; rfl) H k hx (by simpa using hL) hB
  obtain ⟨a', c', e', _⟩ := hrow.slice
  have el : v' = .slice a' ((L.map (·.1)).length + 1) c' := by simpa using e'
  rw [el] at hrun hrow ho
  have hap : ∀ (g : Nat) (u : Value), u.ownBlock = some g → g < w.heap.size → v.ownBlock ≠ some g → (Value.slice a' ((L.map (·.1)).length + 1) c').ownBlock ≠ some g := fun g u _ hl hn e => by
    rcases ho with h | h
    · exact hn (by rw [← h]; exact e)
    · rw [h] at e
      injection e with e
      omega
  refine ⟨a', c', w', hrun, ⟨L ++ [(c, u1, u2)], by simp, hrow, fun i hi => ?_⟩, hg⟩
  have kk : ∀ (xs : List (Int × Int)) (u : Value), PairRow B w u xs → (∀ g, u.ownBlock = some g → v.ownBlock ≠ some g) → PairRow B w' u xs := fun xs u hp hn => hp.kept hg.size fun g e => hg.block g (hp.lt g e).2 fun e2 => hn g e e2.symm
  rcases Nat.lt_or_ge i L.length with hlt | hge
  · obtain ⟨p1, p2, p3, p4⟩ := hr i hlt
    rw [List.getElem_append_left hlt]
    exact ⟨kk _ _ p1 p3, kk _ _ p2 p4, fun g e => hap g _ e (p1.lt g e).2 (p3 g e), fun g e => hap g _ e (p2.lt g e).2 (p4 g e)⟩
  · have : i = L.length := by simp at hi; omega
    subst this
    simp only [List.getElem_append_right (Nat.le_refl _), Nat.sub_self, List.getElem_cons_zero]
    exact ⟨kk _ _ h1 a1, kk _ _ h2 a2, fun g e => hap g _ e (h1.lt g e).2 (a1 g e), fun g e => hap g _ e (h2.lt g e).2 (a2 g e)⟩
def pgThings (m : Mc) (i k : Nat) : List Cl := (List.range k).map fun q => thingFr m i q (frAt m (i : Int) (q : Int))
def frThings (m : Mc) (i : Nat) : List Cl := (List.range i).flatMap fun j => pgThings m j (pgAt m (j : Int)).frames.length
def twThings (m : Mc) (k : Nat) : List Cl := (List.range k).map fun q : Nat => thingTw m (twAt m (q : Int))
def thingsM (m : Mc) : Hp := ⟨frThings m m.pages.length ++ twThings m m.twins.length, plNow m, 0, [], 0⟩
theorem pgThings_succ (m : Mc) (i k : Nat) : pgThings m i (k + 1) = pgThings m i k ++ [thingFr m i k (frAt m (i : Int) (k : Int))] := by simp [pgThings, List.range_succ]
theorem frThings_succ (m : Mc) (i : Nat) : frThings m (i + 1) = frThings m i ++ pgThings m i (pgAt m (i : Int)).frames.length := by simp [frThings, List.range_succ]
theorem twThings_succ (m : Mc) (k : Nat) : twThings m (k + 1) = twThings m k ++ [thingTw m (twAt m (k : Int))] := by simp [twThings, List.range_succ]
theorem pgThings_length (m : Mc) (i k : Nat) : (pgThings m i k).length = k := by simp [pgThings]
theorem twThings_length (m : Mc) (k : Nat) : (twThings m k).length = k := by simp [twThings]
theorem frThings_length {m : Mc} : ∀ {i : Nat}, i ≤ m.pages.length → (frThings m i).length = framesTo m.pages i
  | 0, _ => by simp [frThings, framesTo_zero]
  | i + 1, h => by rw [frThings_succ, List.length_append, frThings_length (Nat.le_of_succ_le h), pgThings_length, pgAt_at (show i < m.pages.length by omega), framesTo_succ (show i < m.pages.length by omega)]
structure Told (m : Mc) : Prop where
  fr : ∀ i k, (hi : i < m.pages.length) → (hk : k < m.pages[i].frames.length) → (m.pages[i].frames[k].temps.length ≤ 1000 ∧ m.pages[i].frames[k].stack.length ≤ 1000) ∧
    (∀ q, (hq : q < m.pages[i].frames[k].temps.length) → m.pages[i].frames[k].temps[q].1 = 2 → tellB m m.pages[i].frames[k].temps[q].2 = true) ∧ (∀ q, (hq : q < m.pages[i].frames[k].stack.length) → m.pages[i].frames[k].stack[q].1 = 2 → tellB m m.pages[i].frames[k].stack[q].2 = true)
  bs : ∀ i, (hi : i < m.pages.length) → (m.pages[i].base == -1 || tellB m m.pages[i].base) = true
  tw : ∀ j, (hj : j < m.twins.length) → (m.twins[j].left.temps.length ≤ 1000 ∧ m.twins[j].left.stack.length ≤ 1000) ∧ (m.twins[j].page = -1 → (m.twins[j].left.sender == -1 || tellB m m.twins[j].left.sender) = true ∧
    (∀ i, (hi : i < m.twins[j].left.temps.length) → m.twins[j].left.temps[i].1 = 2 → (m.twins[j].left.temps[i].2 == -1 || tellB m m.twins[j].left.temps[i].2) = true) ∧ (∀ i, (hi : i < m.twins[j].left.stack.length) → m.twins[j].left.stack[i].1 = 2 → (m.twins[j].left.stack[i].2 == -1 || tellB m m.twins[j].left.stack[i].2) = true))
end Go.Proofs.Ytldiccheboipeaa
