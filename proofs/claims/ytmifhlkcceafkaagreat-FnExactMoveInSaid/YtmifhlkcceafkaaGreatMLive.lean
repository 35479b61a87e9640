/-
  Rows of cells of one's own, elements of any size: more is appended to them. Nothing of the translation is used here.
-/
import Derived.Test.YtmifhlkcceafkaaGreatOwn
import Derived.Deep.AppendSrc
import Derived.Test.YtmifhlkcceafkaaGreatDeepM
import Derived.Test.YtmifhlkcceafkaaGreatIntsM

namespace Go.Proofs.YtmifhlkcceafkaaGreat
open Go.RowKit
def CRow (B sz : Nat) (w : World) (v : Value) (n : Nat) (xs : List Value) : Prop :=
  xs.length = n * sz ∧ ((v = .slice none 0 0 ∧ n = 0) ∨
  ∃ (g off cap : Nat), v = .slice (some ⟨g, off, none⟩) n cap ∧ B ≤ g ∧ g < w.heap.size ∧ n ≤ cap ∧ cap ≤ maxLen ∧
    (∀ i, i < cap * sz → (w.cell? ⟨g, off + i, none⟩).isSome = true ∧ w.frozen? ⟨g, off + i, none⟩ = false) ∧
    ∀ i, (h : i < xs.length) → w.cell? ⟨g, off + i, none⟩ = some xs[i])
theorem CRow.nil (B sz : Nat) (w : World) : CRow B sz w (.slice none 0 0) 0 [] := ⟨by simp, .inl ⟨rfl, rfl⟩⟩
theorem CRow.made {B sz : Nat} {w : World} {e : TypeId} (hB : B ≤ w.heap.size) : CRow B sz (w.alloc (.cells #[] e)) (.slice (some ⟨w.heap.size, 0, none⟩) 0 0) 0 [] :=
  ⟨by simp, .inr ⟨w.heap.size, 0, 0, rfl, hB, by simp, Nat.le_refl _, Nat.zero_le _, fun i hi => by simp at hi, fun i hi => by simp at hi⟩⟩
theorem CRow.lt {B sz n : Nat} {w : World} {v : Value} {xs : List Value} (h : CRow B sz w v n xs) : ∀ k, v.ownBlock = some k → B ≤ k ∧ k < w.heap.size := by
  intro k hk
  rcases h.2 with ⟨rfl, _⟩ | ⟨g, off, cap, rfl, hB, hg, _⟩
  · simp [Value.ownBlock] at hk
  · simp [Value.ownBlock] at hk
    omega
theorem CRow.kept {B sz n : Nat} {w w' : World} {v : Value} {xs : List Value} (h : CRow B sz w v n xs) (hsz : w.heap.size ≤ w'.heap.size) (hb : ∀ g, v.ownBlock = some g → w'.heap[g]? = w.heap[g]?) : CRow B sz w' v n xs := by
  refine ⟨h.1, ?_⟩
  rcases h.2 with h | ⟨g, off, cap, rfl, hB, hg, hl, hc, hsp, hx⟩
  · exact .inl h
  · have hbk := hb g rfl
    refine .inr ⟨g, off, cap, rfl, hB, by omega, hl, hc, fun i hi => ?_, fun i hi => ?_⟩
    · rw [World.cell?_of_block (a := ⟨g, off + i, none⟩) hbk, World.frozen?_of_block (a := ⟨g, off + i, none⟩) hbk]; exact hsp i hi
    · rw [World.cell?_of_block (a := ⟨g, off + i, none⟩) hbk]; exact hx i hi
theorem CRow.below {B sz n : Nat} {w w' : World} {v : Value} {xs : List Value} (h : CRow B sz w v n xs) (hb : Below w.heap.size w w') : CRow B sz w' v n xs :=
  h.kept hb.size fun g hg => hb.block g (h.lt g hg).2
theorem setCells_size (g : Nat) : ∀ (vs : List Value) (o : Nat) (W : World), (W.setCells g o vs).heap.size = W.heap.size
  | [], _, _ => rfl
  | v :: r, o, W => by rw [World.setCells, setCells_size g r]; simp [World.setCell]
theorem setCells_other (g : Nat) : ∀ (vs : List Value) (o : Nat) (W : World) (k : Nat), k ≠ g → (W.setCells g o vs).heap[k]? = W.heap[k]?
  | [], _, _, _, _ => rfl
  | v :: r, o, W, k, hk => by rw [World.setCells, setCells_other g r _ _ _ hk]; exact Below.heap_setCell _ _ _ _ hk
theorem setCells_rest (g : Nat) : ∀ (vs : List Value) (o : Nat) (W : World), (W.setCells g o vs).os = W.os ∧ (W.setCells g o vs).tape = W.tape ∧ (W.setCells g o vs).output = W.output
  | [], _, _ => ⟨rfl, rfl, rfl⟩
  | v :: r, o, W => by rw [World.setCells]; exact setCells_rest g r _ _
theorem run_append_rows {P : Program} {t tx ty e : TypeId} {i : TypeInfo} {z : Value} {B : Nat} (ht : P.underlying t = some (.slice e)) (hi : P.info? e = some i) (hz : i.zero = some z) (hzs : z.cells.size = i.size) (hby : i.bytes ≤ 1000)
    {w : World} {v : Value} {n : Nat} {xs : List Value} (hown : CRow B i.size w v n xs) (x : Value) (m : Nat) (news : List Value) (hs : Src P i.size tx x m news w) (hL : n + m ≤ 3000000) (hB : B ≤ w.heap.size) :
    ∃ v' w', (Builtin.append_ #[t, tx] ty #[v, x]).run P w = .ok v' w' ∧ CRow B i.size w' v' (n + m) (xs ++ news) ∧ w.grownBy w' v.ownBlock ∧ (v'.ownBlock = v.ownBlock ∨ v'.ownBlock = some w.heap.size) := by
  obtain ⟨hxl, hown⟩ := hown
  have hll : (xs ++ news).length = (n + m) * i.size := by rw [List.length_append, hxl, hs.newsLen, Nat.add_mul]
  have hgrown : ∀ (k : Nat), n + m ≤ k → k ≤ maxLen →
      CRow B i.size (w.drew.alloc (.cells ((xs ++ news).toArray ++ Builtin.zeroCells z.cells (k - (n + m))) e)) (.slice (some ⟨w.heap.size, 0, none⟩) (n + m) k) (n + m) (xs ++ news) := by
    intro k hqk hk
    have hsz0 : (Builtin.zeroCells z.cells (k - (n + m))).size = (k - (n + m)) * i.size := by rw [size_zeroCells, hzs]
    have hblk : (w.drew.alloc (.cells ((xs ++ news).toArray ++ Builtin.zeroCells z.cells (k - (n + m))) e)).heap[w.heap.size]? = some (.cells ((xs ++ news).toArray ++ Builtin.zeroCells z.cells (k - (n + m))) e) := Go.Deep.blk_alloc_new w.drew _
    have hsum : (n + m) * i.size + (k - (n + m)) * i.size = k * i.size := by rw [← Nat.add_mul]; congr 1; omega
    refine ⟨hll, .inr ⟨w.heap.size, 0, k, rfl, hB, by simp, hqk, hk, fun j hj => ?_, fun j hj => ?_⟩⟩
    · refine ⟨?_, ?_⟩
      · rw [Nat.zero_add, cell_of_row _ _ _ _ _ _ hblk]
        rw [Array.getElem?_eq_getElem (by rw [Array.size_append, hsz0, List.size_toArray, hll]; omega)]; rfl
      · unfold World.frozen?
        rw [hblk]
        simp
    · rw [Nat.zero_add, cell_of_row _ _ _ _ _ _ hblk, Array.getElem?_append_left (by rw [List.size_toArray]; exact hj)]
      simp [List.getElem?_eq_getElem hj]
  have hgb : ∀ (o : Obj) (row : Option Nat), w.grownBy (w.drew.alloc o) row := fun o row =>
    ⟨rfl, rfl, rfl, Nat.le_of_lt (by rw [World.size_alloc]; exact Nat.lt_succ_self _), fun k hk _ => Below.heap_alloc w.drew _ k hk⟩
  rcases hown with ⟨rfl, rfl⟩ | ⟨g, off, cap, rfl, hBg, hg, hl, hmx, hsp, hx⟩
  · obtain rfl : xs = [] := List.eq_nil_of_length_eq_zero (by simpa using hxl)
    by_cases hm0 : m = 0
    · subst hm0
      obtain rfl : news = [] := List.eq_nil_of_length_eq_zero (by simpa using hs.newsLen)
      refine ⟨.slice none 0 0, w, ?_, CRow.nil _ _ _, World.grownBy.refl _ _, .inl rfl⟩
      rcases hs.kind with ⟨e', hk⟩ | hk <;> simp [Builtin.append_, run_underlying ht, run_underlying hk, sizeOf, typeInfo, hi, hs.len, hs.cells]
    · have hr := run_append_grow_src (P := P) w t tx ty e i z ht hi hz none 0 0 [] (run_firstCells_none _ _ _ _ _) x m news hs (by omega) (by omega) (growslice_fits (by omega) (by have := Nat.mul_le_mul (show 0 + m ≤ 3000000 by omega) hby; omega))
      refine ⟨_, _, hr, ?_, hgb _ _, .inr rfl⟩
      exact hgrown (grownCap w (0 + m) 0 e) (grownCap_ge _ _ _ _) (grownCap_le_maxLen _ _ _ _ (by unfold maxLen; omega))
  · by_cases hroom : n + m ≤ cap
    · have hle : n * i.size + news.length ≤ cap * i.size := by rw [hs.newsLen, ← Nat.add_mul]; exact Nat.mul_le_mul_right _ hroom
      have hc : ∀ j, j < news.length → (w.cell? ⟨g, off + n * i.size + j, none⟩).isSome = true := fun j hj => by
        have := (hsp (n * i.size + j) (by omega)).1
        rwa [← Nat.add_assoc] at this
      have hf : ∀ j, j < news.length → w.frozen? ⟨g, off + n * i.size + j, none⟩ = false := fun j hj => by
        have := (hsp (n * i.size + j) (by omega)).2
        rwa [← Nat.add_assoc] at this
      have hr := run_append_room_src (P := P) w t tx ty e i ht hi g off n cap x m news hs hroom hc hf
      obtain ⟨r1, r2, r3⟩ := setCells_rest g news (off + n * i.size) w
      refine ⟨_, _, hr, ⟨hll, .inr ⟨g, off, cap, rfl, hBg, by rw [setCells_size]; exact hg, hroom, hmx, fun j hj => ?_, fun j hj => ?_⟩⟩, ⟨r1, r2, r3, by rw [setCells_size]; exact Nat.le_refl _, fun k _ hk => setCells_other _ _ _ _ _ (fun e => hk (by rw [e]; rfl))⟩, .inl rfl⟩
      · rw [World.frozen?_setCells]
        refine ⟨?_, (hsp j hj).2⟩
        by_cases hin : n * i.size ≤ j ∧ j < n * i.size + news.length
        · have := World.cell?_setCells_in g news (off + n * i.size) w hc (j - n * i.size) (by omega)
          rw [show off + n * i.size + (j - n * i.size) = off + j by omega] at this
          rw [this]; rfl
        · rw [World.cell?_setCells_out g _ _ _ _ (fun _ _ => by simp; omega)]
          exact (hsp j hj).1
      · rw [List.length_append] at hj
        by_cases hin : j < xs.length
        · rw [World.cell?_setCells_out g _ _ _ _ (fun _ _ => by simp; omega), hx j hin]
          simp [hin]
        · have := World.cell?_setCells_in g news (off + n * i.size) w hc (j - n * i.size) (by omega)
          rw [show off + n * i.size + (j - n * i.size) = off + j by omega] at this
          rw [this, List.getElem_append_right (by omega)]
          simp only [hxl]
    · have hr := run_append_grow_src (P := P) w t tx ty e i z ht hi hz (some ⟨g, off, none⟩) n cap xs (run_firstCells_some _ _ _ _ _ _ _ hxl (fun j u hu => by
          by_cases hj : j < xs.length
          · rw [List.getElem?_eq_getElem hj] at hu
            have h1 := hx j hj
            rw [Addr.add_lit]
            show w.cell? _ = _
            rw [h1]
            simpa using hu
          · rw [List.getElem?_eq_none (by omega)] at hu; simp at hu)) x m news hs (by omega) (by omega) (growslice_fits (by omega) (by have := Nat.mul_le_mul (show n + m ≤ 3000000 by omega) hby; omega))
      refine ⟨_, _, hr, ?_, hgb _ _, .inr rfl⟩
      exact hgrown (grownCap w (n + m) cap e) (grownCap_ge _ _ _ _) (grownCap_le_maxLen _ _ _ _ (by unfold maxLen; omega))
end Go.Proofs.YtmifhlkcceafkaaGreat

/-
  A machine at work: what its pages, frames, twins and calls are in plain words, and in memory: each block has a role, and what is said of a role stays while the blocks of that role stay.
-/
namespace Go.Proofs.YtmifhlkcceafkaaGreat
open Go.RowKit
structure LvB where
  m : Int
  pc : Int
  temps : List (Int × Int)
  stack : List (Int × Int)
  dead : Bool
structure LvF where
  body : Nat
  twin : Int
structure LvP where
  base : Int
  frames : List LvF
structure LvT where
  page : Int
  place : Int
  body : Nat
  sender : Int
structure LvM where
  cells : Int
  pages : List LvP
  order : List Int
  now : Int
  twins : List LvT
  bodies : List LvB
def LvB.none : LvB := ⟨0, 0, [], [], false⟩
structure LvM.wf (L : LvM) : Prop where
  fr : ∀ i, (hi : i < L.pages.length) → ∀ k, (hk : k < L.pages[i].frames.length) → L.pages[i].frames[k].body < L.bodies.length
  tw : ∀ j, (hj : j < L.twins.length) → L.twins[j].body < L.bodies.length
/-! ### pairs of cells in a row -/
def cells2 (l : List (Value × Value)) : List Value := l.flatMap fun p => [p.1, p.2]
theorem cells2_snoc (l : List (Value × Value)) (p : Value × Value) : cells2 (l ++ [p]) = cells2 l ++ [p.1, p.2] := by simp [cells2]
theorem cells2_at : ∀ (l : List (Value × Value)) (i : Nat) (h : i < l.length), (cells2 l)[i * 2]? = some l[i].1 ∧ (cells2 l)[i * 2 + 1]? = some l[i].2
  | [], _, h => absurd h (Nat.not_lt_zero _)
  | p :: l, 0, _ => ⟨rfl, rfl⟩
  | p :: l, i + 1, h => by
    have hi : i < l.length := by simpa using h
    have := cells2_at l i hi
    show (p.1 :: p.2 :: cells2 l)[(i + 1) * 2]? = some l[i].1 ∧ (p.1 :: p.2 :: cells2 l)[(i + 1) * 2 + 1]? = some l[i].2
    rw [show (i + 1) * 2 = i * 2 + 1 + 1 by omega]
    exact this
theorem cells2_set : ∀ (l : List (Value × Value)) (i : Nat) (a b : Value), ((cells2 l).set (i * 2) a).set (i * 2 + 1) b = cells2 (l.set i (a, b))
  | [], _, _, _ => rfl
  | p :: l, 0, a, b => rfl
  | p :: l, i + 1, a, b => by
    show ((p.1 :: p.2 :: cells2 l).set ((i + 1) * 2) a).set ((i + 1) * 2 + 1) b = p.1 :: p.2 :: cells2 (l.set i (a, b))
    rw [show (i + 1) * 2 = i * 2 + 1 + 1 by omega, ← cells2_set l i a b]
    rfl
def frPairs (D : Nat → Nat) (fs : List LvF) : List (Value × Value) := fs.map fun f => (.pointer (some ⟨D f.body, 0, none⟩), .int .i64 f.twin)
def pgPairs (F : Nat → Value) (ps : List LvP) : List (Value × Value) := (List.range ps.length).map fun i => (.int .i64 (ps.getD i ⟨-1, []⟩).base, F i)
def twVal (D : Nat → Nat) (t : LvT) : Value := .agg #[.int .i64 t.page, .int .i64 t.place, .pointer (some ⟨D t.body, 0, none⟩), .int .i64 t.sender]
def bdCells (T : Value × Value) (b : LvB) : List Value := [.int .i64 b.m, .int .i64 b.pc, T.1, T.2, .bool b.dead]
theorem pgPairs_length (F : Nat → Value) (ps : List LvP) : (pgPairs F ps).length = ps.length := by simp [pgPairs]
theorem pgPairs_at {F : Nat → Value} {ps : List LvP} {i : Nat} (h : i < ps.length) : (pgPairs F ps)[i]'(by rw [pgPairs_length]; exact h) = (.int .i64 ps[i].base, F i) := by simp [pgPairs, h]
/-! ### roles -/
inductive Rl where
  | other | live | pages | frames (i : Nat) | order | twins | body (k : Nat) | temps (k : Nat) | stack (k : Nat)
structure Lay where
  bl : Nat
  vp : Value
  vo : Value
  bm : Nat
  F : Nat → Value
  D : Nat → Nat
  T : Nat → Value × Value
  L : LvM
def Lay.it (B : Nat) (P : Lay) (ρ : Nat → Rl) (w : World) : Rl → Prop
  | .other => True
  | .live => Bx w P.bl 123 [.int .i64 P.L.cells, P.vp, P.vo, .int .i64 P.L.now, .map (some P.bm)] ∧ ρ P.bl = .live ∧ B ≤ P.bl
  | .pages => CRow B 2 w P.vp P.L.pages.length (cells2 (pgPairs P.F P.L.pages)) ∧ ∀ g, P.vp.ownBlock = some g → ρ g = .pages
  | .frames i => ∀ hi : i < P.L.pages.length, CRow B 2 w (P.F i) P.L.pages[i].frames.length (cells2 (frPairs P.D P.L.pages[i].frames)) ∧ ∀ g, (P.F i).ownBlock = some g → ρ g = .frames i
  | .order => IntRow B w P.vo P.L.order ∧ ∀ g, P.vo.ownBlock = some g → ρ g = .order
  | .twins => TMap w P.bm (P.L.twins.map (twVal P.D)) ∧ ρ P.bm = .twins ∧ B ≤ P.bm
  | .body k => ∀ hk : k < P.L.bodies.length, Bx w (P.D k) 152 (bdCells (P.T k) P.L.bodies[k]) ∧ ρ (P.D k) = .body k ∧ B ≤ P.D k
  | .temps k => ∀ hk : k < P.L.bodies.length, PairRow B w (P.T k).1 P.L.bodies[k].temps ∧ ∀ g, (P.T k).1.ownBlock = some g → ρ g = .temps k
  | .stack k => ∀ hk : k < P.L.bodies.length, PairRow B w (P.T k).2 P.L.bodies[k].stack ∧ ∀ g, (P.T k).2.ownBlock = some g → ρ g = .stack k
def LvAt (B : Nat) (ρ : Nat → Rl) (w : World) (P : Lay) : Prop := ∀ r, P.it B ρ w r
structure Ch (R : Rl → Prop) (ρ ρ' : Nat → Rl) (w w' : World) : Prop where
  size : w.heap.size ≤ w'.heap.size
  role : ∀ g, g < w.heap.size → ρ' g = ρ g
  blk : ∀ g, g < w.heap.size → ¬ R (ρ g) → w'.heap[g]? = w.heap[g]?
theorem Ch.refl (R : Rl → Prop) (ρ : Nat → Rl) (w : World) : Ch R ρ ρ w w := ⟨Nat.le_refl _, fun _ _ => rfl, fun _ _ _ => rfl⟩
theorem Ch.trans {R : Rl → Prop} {ρ ρ1 ρ2 : Nat → Rl} {w w1 w2 : World} (h : Ch R ρ ρ1 w w1) (k : Ch R ρ1 ρ2 w1 w2) : Ch R ρ ρ2 w w2 :=
  ⟨Nat.le_trans h.size k.size, fun g hg => (k.role g (Nat.lt_of_lt_of_le hg h.size)).trans (h.role g hg), fun g hg hr => (k.blk g (Nat.lt_of_lt_of_le hg h.size) (by rw [h.role g hg]; exact hr)).trans (h.blk g hg hr)⟩
theorem Ch.mono {R R' : Rl → Prop} {ρ ρ' : Nat → Rl} {w w' : World} (h : Ch R ρ ρ' w w') (hR : ∀ r, R r → R' r) : Ch R' ρ ρ' w w' := ⟨h.size, h.role, fun g hg hr => h.blk g hg fun q => hr (hR _ q)⟩
def newRole (ρ : Nat → Rl) (w : World) (r : Rl) : Nat → Rl := fun g => if g < w.heap.size then ρ g else r
theorem newRole_old {ρ : Nat → Rl} {w : World} {r : Rl} {g : Nat} (h : g < w.heap.size) : newRole ρ w r g = ρ g := if_pos h
theorem newRole_new {ρ : Nat → Rl} {w : World} {r : Rl} {g : Nat} (h : w.heap.size ≤ g) : newRole ρ w r g = r := if_neg (by omega)
theorem Ch.below {w w' : World} (hb : Below w.heap.size w w') (R : Rl → Prop) (ρ : Nat → Rl) (r : Rl) : Ch R ρ (newRole ρ w r) w w' := ⟨hb.size, fun _ hg => newRole_old hg, fun g hg _ => hb.block g hg⟩
theorem Ch.grown {R : Rl → Prop} {w w' : World} {q : Option Nat} (hg : w.grownBy w' q) (ρ : Nat → Rl) (r : Rl) (hq : ∀ g, q = some g → R (ρ g)) : Ch R ρ (newRole ρ w r) w w' :=
  ⟨hg.size, fun _ h => newRole_old h, fun g h hr => hg.block g h fun e => hr (hq g e.symm)⟩
theorem Ch.set {R : Rl → Prop} (w : World) (ρ : Nat → Rl) (g o : Nat) (v : Value) (hr : R (ρ g)) : Ch R ρ ρ w (w.setCell ⟨g, o, none⟩ v) :=
  ⟨by simp [World.setCell], fun _ _ => rfl, fun k _ hk => Below.heap_setCell _ _ _ _ fun e => hk (by rw [e]; exact hr)⟩
theorem Lay.it_keep {B : Nat} {P : Lay} {R : Rl → Prop} {ρ ρ' : Nat → Rl} {w w' : World} {r : Rl} (h : P.it B ρ w r) (c : Ch R ρ ρ' w w') (hr : ¬ R r) : P.it B ρ' w' r := by
  cases r with
  | other => trivial
  | live =>
    obtain ⟨h1, h2, h3⟩ := h
    exact ⟨h1.kept (c.blk _ h1.lt (by rw [h2]; exact hr)), (c.role _ h1.lt).trans h2, h3⟩
  | pages =>
    obtain ⟨h1, h2⟩ := h
    exact ⟨h1.kept c.size fun g e => c.blk g (h1.lt g e).2 (by rw [h2 g e]; exact hr), fun g e => (c.role g (h1.lt g e).2).trans (h2 g e)⟩
  | frames i =>
    intro hi
    obtain ⟨h1, h2⟩ := h hi
    exact ⟨h1.kept c.size fun g e => c.blk g (h1.lt g e).2 (by rw [h2 g e]; exact hr), fun g e => (c.role g (h1.lt g e).2).trans (h2 g e)⟩
  | order =>
    obtain ⟨h1, h2⟩ := h
    exact ⟨h1.kept c.size fun g e => c.blk g (h1.lt g e).2 (by rw [h2 g e]; exact hr), fun g e => (c.role g (h1.lt g e).2).trans (h2 g e)⟩
  | twins =>
    obtain ⟨h1, h2, h3⟩ := h
    exact ⟨h1.kept (c.blk _ h1.lt (by rw [h2]; exact hr)), (c.role _ h1.lt).trans h2, h3⟩
  | body k =>
    intro hk
    obtain ⟨h1, h2, h3⟩ := h hk
    exact ⟨h1.kept (c.blk _ h1.lt (by rw [h2]; exact hr)), (c.role _ h1.lt).trans h2, h3⟩
  | temps k =>
    intro hk
    obtain ⟨h1, h2⟩ := h hk
    exact ⟨h1.kept c.size fun g e => c.blk g (h1.lt g e).2 (by rw [h2 g e]; exact hr), fun g e => (c.role g (h1.lt g e).2).trans (h2 g e)⟩
  | stack k =>
    intro hk
    obtain ⟨h1, h2⟩ := h hk
    exact ⟨h1.kept c.size fun g e => c.blk g (h1.lt g e).2 (by rw [h2 g e]; exact hr), fun g e => (c.role g (h1.lt g e).2).trans (h2 g e)⟩
theorem LvAt.keep {B : Nat} {P : Lay} {ρ ρ' : Nat → Rl} {w w' : World} (h : LvAt B ρ w P) (c : Ch (fun r => r = .other) ρ ρ' w w') : LvAt B ρ' w' P := fun r => by
  cases r with
  | other => trivial
  | live => exact Lay.it_keep (P := P) (r := .live) (h .live) c (by simp)
  | pages => exact Lay.it_keep (P := P) (r := .pages) (h .pages) c (by simp)
  | frames i => exact Lay.it_keep (P := P) (r := (.frames i)) (h (.frames i)) c (by simp)
  | order => exact Lay.it_keep (P := P) (r := .order) (h .order) c (by simp)
  | twins => exact Lay.it_keep (P := P) (r := .twins) (h .twins) c (by simp)
  | body k => exact Lay.it_keep (P := P) (r := (.body k)) (h (.body k)) c (by simp)
  | temps k => exact Lay.it_keep (P := P) (r := (.temps k)) (h (.temps k)) c (by simp)
  | stack k => exact Lay.it_keep (P := P) (r := (.stack k)) (h (.stack k)) c (by simp)
theorem LvAt.below {B : Nat} {P : Lay} {ρ : Nat → Rl} {w w' : World} (h : LvAt B ρ w P) (hb : Below w.heap.size w w') : LvAt B (newRole ρ w .other) w' P := h.keep (Ch.below hb _ ρ _)
section
variable {B : Nat} {P : Lay} {ρ ρ' : Nat → Rl} {w w' : World}
theorem LvAt.box (h : LvAt B ρ w P) : Bx w P.bl 123 [.int .i64 P.L.cells, P.vp, P.vo, .int .i64 P.L.now, .map (some P.bm)] := (h .live).1
theorem LvAt.setNow (h : LvAt B ρ w P) (x : Int) : LvAt B ρ (w.setCell ⟨P.bl, 3, none⟩ (.int .i64 x)) { P with L := { P.L with now := x } } := fun r => by
  have c : Ch (fun r => r = .live) ρ ρ w (w.setCell ⟨P.bl, 3, none⟩ (.int .i64 x)) := Ch.set w ρ _ _ _ (h .live).2.1
  cases r with
  | other => trivial
  | live => exact ⟨(h .live).1.set 3 _, (h .live).2.1, (h .live).2.2⟩
  | pages => exact Lay.it_keep (P := P) (r := .pages) (h .pages) c (by simp)
  | frames i => exact Lay.it_keep (P := P) (r := (.frames i)) (h (.frames i)) c (by simp)
  | order => exact Lay.it_keep (P := P) (r := .order) (h .order) c (by simp)
  | twins => exact Lay.it_keep (P := P) (r := .twins) (h .twins) c (by simp)
  | body k => exact Lay.it_keep (P := P) (r := (.body k)) (h (.body k)) c (by simp)
  | temps k => exact Lay.it_keep (P := P) (r := (.temps k)) (h (.temps k)) c (by simp)
  | stack k => exact Lay.it_keep (P := P) (r := (.stack k)) (h (.stack k)) c (by simp)
theorem LvAt.setOrder (h : LvAt B ρ w P) {vo : Value} {xs : List Int} (c : Ch (fun r => r = .order) ρ ρ' w w') (hr : IntRow B w' vo xs) (hg : ∀ g, vo.ownBlock = some g → ρ' g = .order) :
    LvAt B ρ' (w'.setCell ⟨P.bl, 2, none⟩ vo) { P with vo := vo, L := { P.L with order := xs } } := fun r => by
  have h1 := Lay.it_keep (P := P) (h .live) c (by simp)
  have c2 : Ch (fun r => r = .live) ρ' ρ' w' (w'.setCell ⟨P.bl, 2, none⟩ vo) := Ch.set w' ρ' _ _ _ h1.2.1
  have c3 : Ch (fun r => r = .live ∨ r = .order) ρ ρ' w (w'.setCell ⟨P.bl, 2, none⟩ vo) := (c.mono fun _ e => .inr e).trans (c2.mono fun _ e => .inl e)
  cases r with
  | other => trivial
  | live => exact ⟨h1.1.set 2 _, h1.2.1, h1.2.2⟩
  | order => exact ⟨hr.kept c2.size fun g e => c2.blk g (hr.lt g e).2 (by rw [hg g e]; simp), hg⟩
  | pages => exact Lay.it_keep (P := P) (r := .pages) (h .pages) c3 (by simp)
  | frames i => exact Lay.it_keep (P := P) (r := (.frames i)) (h (.frames i)) c3 (by simp)
  | twins => exact Lay.it_keep (P := P) (r := .twins) (h .twins) c3 (by simp)
  | body k => exact Lay.it_keep (P := P) (r := (.body k)) (h (.body k)) c3 (by simp)
  | temps k => exact Lay.it_keep (P := P) (r := (.temps k)) (h (.temps k)) c3 (by simp)
  | stack k => exact Lay.it_keep (P := P) (r := (.stack k)) (h (.stack k)) c3 (by simp)
theorem LvAt.setTwins (h : LvAt B ρ w P) {ts : List LvT} (hg : w.grownBy w' (some P.bm)) (hm : TMap w' P.bm (ts.map (twVal P.D))) : LvAt B (newRole ρ w .other) w' { P with L := { P.L with twins := ts } } := fun r => by
  have c : Ch (fun r => r = .twins) ρ (newRole ρ w .other) w w' := Ch.grown hg ρ .other fun g e => by cases e; exact (h .twins).2.1
  cases r with
  | other => trivial
  | twins => exact ⟨hm, (c.role _ (h .twins).1.lt).trans (h .twins).2.1, (h .twins).2.2⟩
  | live => exact Lay.it_keep (P := P) (r := .live) (h .live) c (by simp)
  | pages => exact Lay.it_keep (P := P) (r := .pages) (h .pages) c (by simp)
  | frames i => exact Lay.it_keep (P := P) (r := (.frames i)) (h (.frames i)) c (by simp)
  | order => exact Lay.it_keep (P := P) (r := .order) (h .order) c (by simp)
  | body k => exact Lay.it_keep (P := P) (r := (.body k)) (h (.body k)) c (by simp)
  | temps k => exact Lay.it_keep (P := P) (r := (.temps k)) (h (.temps k)) c (by simp)
  | stack k => exact Lay.it_keep (P := P) (r := (.stack k)) (h (.stack k)) c (by simp)
theorem LvAt.setPage (h : LvAt B ρ w P) {i : Nat} (hi : i < P.L.pages.length) {p : LvP} {vf : Value} (hf : CRow B 2 w vf p.frames.length (cells2 (frPairs P.D p.frames))) (hfg : ∀ g, vf.ownBlock = some g → ρ g = .frames i)
    {gp op cp : Nat} (hp : P.vp = .slice (some ⟨gp, op, none⟩) P.L.pages.length cp) (W : World)
    (hW : CRow B 2 W (.slice (some ⟨gp, op, none⟩) P.L.pages.length cp) P.L.pages.length (cells2 ((pgPairs P.F P.L.pages).set i (.int .i64 p.base, vf)))) (hg : w.grownBy W (some gp)) :
    LvAt B (newRole ρ w .other) W { P with F := fun k => if k = i then vf else P.F k, L := { P.L with pages := P.L.pages.set i p } } := by
  have hρ : ρ gp = .pages := (h .pages).2 gp (by rw [hp]; rfl)
  have c : Ch (fun r => r = .pages) ρ (newRole ρ w .other) w W := Ch.grown hg ρ .other fun g e => by cases e; exact hρ
  have hl : (P.L.pages.set i p).length = P.L.pages.length := List.length_set
  have hpp : (pgPairs P.F P.L.pages).set i (.int .i64 p.base, vf) = pgPairs (fun k => if k = i then vf else P.F k) (P.L.pages.set i p) := by
    refine List.ext_getElem (by rw [List.length_set, pgPairs_length, pgPairs_length, hl]) fun j h1 h2 => ?_
    have hj : j < P.L.pages.length := by rw [List.length_set, pgPairs_length] at h1; exact h1
    rw [pgPairs_at (by rw [hl]; exact hj)]
    by_cases e : i = j
    · subst e; simp
    · rw [List.getElem_set_ne e, pgPairs_at hj]
      simp [Ne.symm e, e]
  intro r
  cases r with
  | other => trivial
  | pages =>
    refine ⟨?_, fun g e => (c.role g (((h .pages).1.lt g e).2)).trans ((h .pages).2 g e)⟩
    show CRow B 2 W P.vp (P.L.pages.set i p).length _
    rw [hl, hp, ← hpp]
    exact hW
  | frames k =>
    intro hk
    have hk' : k < P.L.pages.length := by rw [← hl]; exact hk
    by_cases e : k = i
    · subst e
      show CRow B 2 W (if k = k then vf else P.F k) (P.L.pages.set k p)[k].frames.length (cells2 (frPairs P.D (P.L.pages.set k p)[k].frames)) ∧ ∀ g, (if k = k then vf else P.F k).ownBlock = some g → _
      rw [if_pos rfl, List.getElem_set_self]
      exact ⟨hf.kept c.size fun g e => c.blk g (hf.lt g e).2 (by rw [hfg g e]; simp), fun g e => (c.role g (hf.lt g e).2).trans (hfg g e)⟩
    · have := (Lay.it_keep (P := P) (h (.frames k)) c (by simp)) hk'
      show CRow B 2 W (if k = i then vf else P.F k) (P.L.pages.set i p)[k].frames.length (cells2 (frPairs P.D (P.L.pages.set i p)[k].frames)) ∧ ∀ g, (if k = i then vf else P.F k).ownBlock = some g → _
      rw [if_neg e, List.getElem_set_ne (Ne.symm e)]
      exact this
  | live => exact Lay.it_keep (P := P) (r := .live) (h .live) c (by simp)
  | order => exact Lay.it_keep (P := P) (r := .order) (h .order) c (by simp)
  | twins => exact Lay.it_keep (P := P) (r := .twins) (h .twins) c (by simp)
  | body k => exact Lay.it_keep (P := P) (r := (.body k)) (h (.body k)) c (by simp)
  | temps k => exact Lay.it_keep (P := P) (r := (.temps k)) (h (.temps k)) c (by simp)
  | stack k => exact Lay.it_keep (P := P) (r := (.stack k)) (h (.stack k)) c (by simp)
end
end Go.Proofs.YtmifhlkcceafkaaGreat

/-
  A machine at work: it begins, a call more, a page more.
-/
namespace Go.Proofs.YtmifhlkcceafkaaGreat
open Go.RowKit
theorem LvAt.start {B : Nat} {w : World} {bl bm : Nat} {vo : Value} {cells now : Int} {order : List Int} (hb : Bx w bl 123 [.int .i64 cells, .slice none 0 0, vo, .int .i64 now, .map (some bm)]) (hbB : B ≤ bl) (hm : TMap w bm []) (hmB : B ≤ bm) (hne : bl ≠ bm)
    (ho : IntRow B w vo order) (ho1 : vo.ownBlock ≠ some bl) (ho2 : vo.ownBlock ≠ some bm) :
    LvAt B (fun g => if g = bl then .live else if g = bm then .twins else if vo.ownBlock = some g then .order else .other) w ⟨bl, .slice none 0 0, vo, bm, fun _ => undef, fun _ => 0, fun _ => (undef, undef), ⟨cells, [], order, now, [], []⟩⟩ := fun r => by
  cases r with
  | other => trivial
  | live => exact ⟨hb, if_pos rfl, hbB⟩
  | pages => exact ⟨CRow.nil _ _ _, fun g e => by cases e⟩
  | frames i => exact fun hi => absurd hi (Nat.not_lt_zero _)
  | order => exact ⟨ho, fun g e => by
      have h1 : g ≠ bl := fun e2 => ho1 (e2 ▸ e)
      have h2 : g ≠ bm := fun e2 => ho2 (e2 ▸ e)
      show (if g = bl then Rl.live else if g = bm then .twins else if vo.ownBlock = some g then .order else .other) = _
      rw [if_neg h1, if_neg h2, if_pos e]⟩
  | twins => exact ⟨hm, by
      show (if bm = bl then Rl.live else if bm = bm then .twins else if vo.ownBlock = some bm then .order else .other) = _
      rw [if_neg (Ne.symm hne), if_pos rfl], hmB⟩
  | body k => exact fun hk => absurd hk (Nat.not_lt_zero _)
  | temps k => exact fun hk => absurd hk (Nat.not_lt_zero _)
  | stack k => exact fun hk => absurd hk (Nat.not_lt_zero _)
def bodyRole (ρ : Nat → Rl) (w : World) (n d : Nat) (vt vs : Value) : Nat → Rl := fun g => if g < w.heap.size then ρ g else if g = d then .body n else if vt.ownBlock = some g then .temps n else if vs.ownBlock = some g then .stack n else .other
def addB (P : Lay) (d : Nat) (vt vs : Value) (b : LvB) : Lay := { P with D := fun k => if k = P.L.bodies.length then d else P.D k, T := fun k => if k = P.L.bodies.length then (vt, vs) else P.T k, L := { P.L with bodies := P.L.bodies ++ [b] } }
theorem frPairs_congr {D D' : Nat → Nat} {fs : List LvF} (h : ∀ k, (hk : k < fs.length) → D' fs[k].body = D fs[k].body) : frPairs D' fs = frPairs D fs := by
  refine List.ext_getElem (by simp [frPairs]) fun k h1 h2 => ?_
  have hk : k < fs.length := by simpa [frPairs] using h1
  simp [frPairs, h k hk]
theorem twVals_congr {D D' : Nat → Nat} {ts : List LvT} (h : ∀ k, (hk : k < ts.length) → D' ts[k].body = D ts[k].body) : ts.map (twVal D') = ts.map (twVal D) := by
  refine List.ext_getElem (by simp) fun k h1 h2 => ?_
  have hk : k < ts.length := by simpa using h1
  simp [twVal, h k hk]
theorem LvAt.addBody {B : Nat} {P : Lay} {ρ : Nat → Rl} {w w' : World} (h : LvAt B ρ w P) (hwf : P.L.wf) (hB : B ≤ w.heap.size) (hb : Below w.heap.size w w') {d : Nat} {vt vs : Value} {b : LvB} (hx : Bx w' d 152 (bdCells (vt, vs) b)) (hd : w.heap.size ≤ d)
    (ht : PairRow w.heap.size w' vt b.temps) (hs : PairRow w.heap.size w' vs b.stack) (h1 : vt.ownBlock ≠ some d) (h2 : vs.ownBlock ≠ some d) (h3 : ∀ g, vt.ownBlock = some g → vs.ownBlock ≠ some g) :
    LvAt B (bodyRole ρ w P.L.bodies.length d vt vs) w' (addB P d vt vs b) := by
  have c : Ch (fun r => r = .other) ρ (bodyRole ρ w P.L.bodies.length d vt vs) w w' := ⟨hb.size, fun g hg => if_pos hg, fun g hg _ => hb.block g hg⟩
  have hrd : bodyRole ρ w P.L.bodies.length d vt vs d = .body P.L.bodies.length := by unfold bodyRole; rw [if_neg (by omega), if_pos rfl]
  have hrt : ∀ g, vt.ownBlock = some g → bodyRole ρ w P.L.bodies.length d vt vs g = .temps P.L.bodies.length := fun g e => by
    have := (ht.lt g e).1
    unfold bodyRole
    rw [if_neg (by omega), if_neg (show ¬ g = d from fun e2 => h1 (by rw [← e2]; exact e)), if_pos e]
  have hrs : ∀ g, vs.ownBlock = some g → bodyRole ρ w P.L.bodies.length d vt vs g = .stack P.L.bodies.length := fun g e => by
    have := (hs.lt g e).1
    unfold bodyRole
    rw [if_neg (by omega), if_neg (show ¬ g = d from fun e2 => h2 (by rw [← e2]; exact e)), if_neg (show ¬ vt.ownBlock = some g from fun e2 => h3 g e2 e), if_pos e]
  have hl : (P.L.bodies ++ [b]).length = P.L.bodies.length + 1 := by simp
  have hold : ∀ {k : Nat}, k < P.L.bodies.length → (addB P d vt vs b).D k = P.D k ∧ (addB P d vt vs b).T k = P.T k := fun {k} hk => by
    constructor
    · show (if k = P.L.bodies.length then d else P.D k) = _
      rw [if_neg (by omega)]
    · show (if k = P.L.bodies.length then (vt, vs) else P.T k) = _
      rw [if_neg (by omega)]
  have hlast : ∀ hk : P.L.bodies.length < (addB P d vt vs b).L.bodies.length, (addB P d vt vs b).L.bodies[P.L.bodies.length]'hk = b := fun _ => by
    exact List.getElem_concat_length (l := P.L.bodies) (a := b) rfl (by simp)
  have hleft : ∀ {k : Nat} (hk : k < (addB P d vt vs b).L.bodies.length) (h2 : k < P.L.bodies.length), (addB P d vt vs b).L.bodies[k]'hk = P.L.bodies[k] := fun {k} _ h2 => by
    show (P.L.bodies ++ [b])[k]'_ = P.L.bodies[k]
    exact List.getElem_append_left h2
  have hnD : (addB P d vt vs b).D P.L.bodies.length = d := if_pos rfl
  have hnT : (addB P d vt vs b).T P.L.bodies.length = (vt, vs) := if_pos rfl
  intro r
  cases r with
  | other => trivial
  | live => exact Lay.it_keep (P := P) (r := .live) (h .live) c (by simp)
  | pages => exact Lay.it_keep (P := P) (r := .pages) (h .pages) c (by simp)
  | order => exact Lay.it_keep (P := P) (r := .order) (h .order) c (by simp)
  | frames i =>
    intro hi
    have := (Lay.it_keep (P := P) (r := .frames i) (h (.frames i)) c (by simp)) hi
    have e : frPairs (addB P d vt vs b).D P.L.pages[i].frames = frPairs P.D P.L.pages[i].frames := frPairs_congr fun k hk => (hold (hwf.fr i hi k hk)).1
    show CRow B 2 w' (P.F i) P.L.pages[i].frames.length (cells2 (frPairs (addB P d vt vs b).D P.L.pages[i].frames)) ∧ _
    rw [e]
    exact this
  | twins =>
    have := Lay.it_keep (P := P) (r := .twins) (h .twins) c (by simp)
    have e : P.L.twins.map (twVal (addB P d vt vs b).D) = P.L.twins.map (twVal P.D) := twVals_congr fun k hk => (hold (hwf.tw k hk)).1
    show TMap w' P.bm (P.L.twins.map (twVal (addB P d vt vs b).D)) ∧ _
    rw [e]
    exact this
  | body k =>
    intro hk
    have hk' : k < P.L.bodies.length + 1 := by rw [← hl]; exact hk
    by_cases e : k = P.L.bodies.length
    · subst e
      show Bx w' ((addB P d vt vs b).D P.L.bodies.length) _ (bdCells ((addB P d vt vs b).T P.L.bodies.length) ((addB P d vt vs b).L.bodies[P.L.bodies.length])) ∧ bodyRole ρ w P.L.bodies.length d vt vs ((addB P d vt vs b).D P.L.bodies.length) = _ ∧ B ≤ (addB P d vt vs b).D P.L.bodies.length
      rw [hnD, hnT, hlast]
      exact ⟨hx, hrd, by omega⟩
    · have hk2 : k < P.L.bodies.length := by omega
      have := (Lay.it_keep (P := P) (r := .body k) (h (.body k)) c (by simp)) hk2
      show Bx w' ((addB P d vt vs b).D k) _ (bdCells ((addB P d vt vs b).T k) ((addB P d vt vs b).L.bodies[k])) ∧ bodyRole ρ w P.L.bodies.length d vt vs ((addB P d vt vs b).D k) = _ ∧ B ≤ (addB P d vt vs b).D k
      rw [(hold hk2).1, (hold hk2).2, hleft hk hk2]
      exact this
  | temps k =>
    intro hk
    have hk' : k < P.L.bodies.length + 1 := by rw [← hl]; exact hk
    by_cases e : k = P.L.bodies.length
    · subst e
      show PairRow B w' ((addB P d vt vs b).T P.L.bodies.length).1 ((addB P d vt vs b).L.bodies[P.L.bodies.length]).temps ∧ ∀ g, ((addB P d vt vs b).T P.L.bodies.length).1.ownBlock = some g → _
      rw [hnT, hlast]
      exact ⟨ht.mono hB, hrt⟩
    · have hk2 : k < P.L.bodies.length := by omega
      have := (Lay.it_keep (P := P) (r := .temps k) (h (.temps k)) c (by simp)) hk2
      show PairRow B w' ((addB P d vt vs b).T k).1 ((addB P d vt vs b).L.bodies[k]).temps ∧ ∀ g, ((addB P d vt vs b).T k).1.ownBlock = some g → _
      rw [(hold hk2).2, hleft hk hk2]
      exact this
  | stack k =>
    intro hk
    have hk' : k < P.L.bodies.length + 1 := by rw [← hl]; exact hk
    by_cases e : k = P.L.bodies.length
    · subst e
      show PairRow B w' ((addB P d vt vs b).T P.L.bodies.length).2 ((addB P d vt vs b).L.bodies[P.L.bodies.length]).stack ∧ ∀ g, ((addB P d vt vs b).T P.L.bodies.length).2.ownBlock = some g → _
      rw [hnT, hlast]
      exact ⟨hs.mono hB, hrs⟩
    · have hk2 : k < P.L.bodies.length := by omega
      have := (Lay.it_keep (P := P) (r := .stack k) (h (.stack k)) c (by simp)) hk2
      show PairRow B w' ((addB P d vt vs b).T k).2 ((addB P d vt vs b).L.bodies[k]).stack ∧ ∀ g, ((addB P d vt vs b).T k).2.ownBlock = some g → _
      rw [(hold hk2).2, hleft hk hk2]
      exact this
end Go.Proofs.YtmifhlkcceafkaaGreat
