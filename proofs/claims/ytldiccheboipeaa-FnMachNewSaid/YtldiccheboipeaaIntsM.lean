/-
  Plain words for what machines of this project look like in memory (frames, pages, twins), and how such facts are carried from one world to a later one. Boxes of any number of cells. Nothing of the translation is used here.
-/
import Derived.Test.YtldiccheboipeaaBase
import Derived.Test.YtldiccheboipeaaInts
import Derived.Test.YtldiccheboipeaaOwn

namespace Go.Proofs.Ytldiccheboipeaa
open Go.RowKit
structure Fr where
  m : Int
  pc : Int
  twin : Int
  temps : List (Int × Int)
  stack : List (Int × Int)
structure Pg where
  base : Int
  frames : List Fr
structure Tw where
  page : Int
  place : Int
  left : Cl
structure Mc where
  cells : Int
  pages : List Pg
  order : List Int
  now : Int
  twins : List Tw
  born : Int
  said : List (Int × Int)
  code : Int
def IntsAt (w : World) (v : Value) (xs : List Int) : Prop :=
  ∃ (a : Option Addr) (cap : Nat), v = .slice a xs.length cap ∧ xs.length ≤ maxLen ∧ ∀ i, (h : i < xs.length) → ∃ b o, a = some ⟨b, o, none⟩ ∧ w.cell? ⟨b, o + i, none⟩ = some (.int .i64 xs[i])
theorem IntsAt.below {w w' : World} {v : Value} {xs : List Int} (h : IntsAt w v xs) (hb : Below w.heap.size w w') : IntsAt w' v xs := by
  obtain ⟨a, cap, hv, hl, hc⟩ := h
  refine ⟨a, cap, hv, hl, fun i hi => ?_⟩
  obtain ⟨b, o, ha, h0⟩ := hc i hi
  exact ⟨b, o, ha, cell_below hb h0⟩
theorem IntsAt.shape {w : World} {v : Value} {xs : List Int} (h : IntsAt w v xs) : ∃ a c, v = .slice a xs.length c := by
  obtain ⟨a, c, hv, _⟩ := h
  exact ⟨a, c, hv⟩
theorem IntRow.at {B : Nat} {w : World} {v : Value} {xs : List Int} (h : IntRow B w v xs) : IntsAt w v xs := by
  rcases h with ⟨rfl, rfl⟩ | ⟨g, off, cap, rfl, _, _, hl, hm, _, hx⟩
  · exact ⟨none, 0, rfl, Nat.zero_le _, fun _ hi => absurd hi (Nat.not_lt_zero _)⟩
  · exact ⟨_, cap, rfl, by omega, fun i hi => ⟨g, off, rfl, hx i hi⟩⟩
structure FrAt (w : World) (b o : Nat) (vt vs : Value) (f : Fr) : Prop where
  c0 : w.cell? ⟨b, o, none⟩ = some (.int .i64 f.m)
  c1 : w.cell? ⟨b, o + 1, none⟩ = some (.int .i64 f.pc)
  c2 : w.cell? ⟨b, o + 2, none⟩ = some (.int .i64 f.twin)
  c3 : w.cell? ⟨b, o + 3, none⟩ = some vt
  c4 : w.cell? ⟨b, o + 4, none⟩ = some vs
  t : OpsAt w vt f.temps
  s : OpsAt w vs f.stack
theorem FrAt.below {w w' : World} {b o : Nat} {vt vs : Value} {f : Fr} (h : FrAt w b o vt vs f) (hb : Below w.heap.size w w') : FrAt w' b o vt vs f :=
  ⟨cell_below hb h.c0, cell_below hb h.c1, cell_below hb h.c2, cell_below hb h.c3, cell_below hb h.c4, h.t.below hb, h.s.below hb⟩
def FramesAt (w : World) (v : Value) (fs : List Fr) : Prop :=
  ∃ (a : Option Addr) (cap : Nat), v = .slice a fs.length cap ∧ fs.length ≤ maxLen ∧
    ∀ i, (h : i < fs.length) → ∃ b o vt vs, a = some ⟨b, o, none⟩ ∧ FrAt w b (o + i * 5) vt vs fs[i]
theorem FramesAt.below {w w' : World} {v : Value} {fs : List Fr} (h : FramesAt w v fs) (hb : Below w.heap.size w w') : FramesAt w' v fs := by
  obtain ⟨a, cap, hv, hl, hc⟩ := h
  refine ⟨a, cap, hv, hl, fun i hi => ?_⟩
  obtain ⟨b, o, vt, vs, ha, h0⟩ := hc i hi
  exact ⟨b, o, vt, vs, ha, h0.below hb⟩
theorem FramesAt.shape {w : World} {v : Value} {fs : List Fr} (h : FramesAt w v fs) : ∃ a c, v = .slice a fs.length c := by
  obtain ⟨a, c, hv, _⟩ := h
  exact ⟨a, c, hv⟩
theorem FramesAt.nil (w : World) : FramesAt w (.slice none 0 0) [] := ⟨none, 0, rfl, Nat.zero_le _, fun _ hi => absurd hi (Nat.not_lt_zero _)⟩
structure PgAt (w : World) (b o : Nat) (vf : Value) (p : Pg) : Prop where
  c0 : w.cell? ⟨b, o, none⟩ = some (.int .i64 p.base)
  c1 : w.cell? ⟨b, o + 1, none⟩ = some vf
  f : FramesAt w vf p.frames
theorem PgAt.below {w w' : World} {b o : Nat} {vf : Value} {p : Pg} (h : PgAt w b o vf p) (hb : Below w.heap.size w w') : PgAt w' b o vf p := ⟨cell_below hb h.c0, cell_below hb h.c1, h.f.below hb⟩
def PagesAt (w : World) (v : Value) (ps : List Pg) : Prop :=
  ∃ (a : Option Addr) (cap : Nat), v = .slice a ps.length cap ∧ ps.length ≤ maxLen ∧ ∀ i, (h : i < ps.length) → ∃ b o vf, a = some ⟨b, o, none⟩ ∧ PgAt w b (o + i * 2) vf ps[i]
theorem PagesAt.below {w w' : World} {v : Value} {ps : List Pg} (h : PagesAt w v ps) (hb : Below w.heap.size w w') : PagesAt w' v ps := by
  obtain ⟨a, cap, hv, hl, hc⟩ := h
  refine ⟨a, cap, hv, hl, fun i hi => ?_⟩
  obtain ⟨b, o, vf, ha, h0⟩ := hc i hi
  exact ⟨b, o, vf, ha, h0.below hb⟩
theorem PagesAt.shape {w : World} {v : Value} {ps : List Pg} (h : PagesAt w v ps) : ∃ a c, v = .slice a ps.length c := by
  obtain ⟨a, c, hv, _⟩ := h
  exact ⟨a, c, hv⟩
structure TwAt (w : World) (b o : Nat) (vt vs : Value) (x : Tw) : Prop where
  c0 : w.cell? ⟨b, o, none⟩ = some (.int .i64 x.page)
  c1 : w.cell? ⟨b, o + 1, none⟩ = some (.int .i64 x.place)
  c2 : w.cell? ⟨b, o + 2, none⟩ = some (.int .i64 x.left.m)
  c3 : w.cell? ⟨b, o + 3, none⟩ = some (.int .i64 x.left.pc)
  c4 : w.cell? ⟨b, o + 4, none⟩ = some vt
  c5 : w.cell? ⟨b, o + 5, none⟩ = some vs
  c6 : w.cell? ⟨b, o + 6, none⟩ = some (.int .i64 x.left.sender)
  c7 : w.cell? ⟨b, o + 7, none⟩ = some (.bool x.left.dead)
  t : OpsAt w vt x.left.temps
  s : OpsAt w vs x.left.stack
theorem TwAt.below {w w' : World} {b o : Nat} {vt vs : Value} {t : Tw} (h : TwAt w b o vt vs t) (hb : Below w.heap.size w w') : TwAt w' b o vt vs t :=
  ⟨cell_below hb h.c0, cell_below hb h.c1, cell_below hb h.c2, cell_below hb h.c3, cell_below hb h.c4, cell_below hb h.c5, cell_below hb h.c6, cell_below hb h.c7, h.t.below hb, h.s.below hb⟩
def TwinsAt (w : World) (v : Value) (ts : List Tw) : Prop :=
  ∃ (a : Option Addr) (cap : Nat), v = .slice a ts.length cap ∧ ts.length ≤ maxLen ∧ ∀ i, (h : i < ts.length) → ∃ b o vt vs, a = some ⟨b, o, none⟩ ∧ TwAt w b (o + i * 8) vt vs ts[i]
theorem TwinsAt.below {w w' : World} {v : Value} {ts : List Tw} (h : TwinsAt w v ts) (hb : Below w.heap.size w w') : TwinsAt w' v ts := by
  obtain ⟨a, cap, hv, hl, hc⟩ := h
  refine ⟨a, cap, hv, hl, fun i hi => ?_⟩
  obtain ⟨b, o, vt, vs, ha, h0⟩ := hc i hi
  exact ⟨b, o, vt, vs, ha, h0.below hb⟩
theorem TwinsAt.shape {w : World} {v : Value} {ts : List Tw} (h : TwinsAt w v ts) : ∃ a c, v = .slice a ts.length c := by
  obtain ⟨a, c, hv, _⟩ := h
  exact ⟨a, c, hv⟩
theorem TwinsAt.nil (w : World) : TwinsAt w (.slice none 0 0) [] := ⟨none, 0, rfl, Nat.zero_le _, fun _ hi => absurd hi (Nat.not_lt_zero _)⟩
def mcCells (vp vo vt vs : Value) (m : Mc) : List Value := [.int .i64 m.cells, vp, vo, .int .i64 m.now, vt, .int .i64 m.born, vs, .int .i64 m.code]
structure MachAt (w : World) (vp vo vt vs : Value) (m : Mc) : Prop where
  p : PagesAt w vp m.pages
  o : IntsAt w vo m.order
  t : TwinsAt w vt m.twins
  s : OpsAt w vs m.said
theorem MachAt.below {w w' : World} {vp vo vt vs : Value} {m : Mc} (h : MachAt w vp vo vt vs m) (hb : Below w.heap.size w w') : MachAt w' vp vo vt vs m := ⟨h.p.below hb, h.o.below hb, h.t.below hb, h.s.below hb⟩
structure Mc.small (m : Mc) : Prop where
  pages : m.pages.length ≤ 1048576
  frames : ∀ i, (hi : i < m.pages.length) → m.pages[i].frames.length ≤ 1048576
  twins : m.twins.length ≤ 1048576
  order : m.order.length ≤ 1048576
  said : m.said.length ≤ 1048576
  temps : ∀ i, (hi : i < m.pages.length) → ∀ j, (hj : j < m.pages[i].frames.length) → m.pages[i].frames[j].temps.length ≤ 1048576 ∧ m.pages[i].frames[j].stack.length ≤ 1048576
  left : ∀ i, (hi : i < m.twins.length) → m.twins[i].left.small
/-! ### boxes -/
def Bx (w : World) (g : Nat) (t : TypeId) (l : List Value) : Prop := w.rowIs g t l.length fun i => l.getD i undef
theorem Bx.new (w : World) (t : TypeId) (l : List Value) : Bx (w.alloc (.cells l.toArray t)) w.heap.size t l :=
  ⟨_, Go.Deep.blk_alloc_new _ _, by simp, fun i hi => by simp [hi]⟩
theorem Bx.lt {w : World} {g : Nat} {t : TypeId} {l : List Value} (h : Bx w g t l) : g < w.heap.size := World.rowIs.lt h
theorem Bx.cell {w : World} {g : Nat} {t : TypeId} {l : List Value} (h : Bx w g t l) (i : Nat) {v : Value} (hi : l[i]? = some v) : w.cell? ⟨g, i, none⟩ = some v := by
  obtain ⟨hl, hv⟩ := List.getElem?_eq_some_iff.1 hi
  have := World.rowIs.cell h (i := i) hl
  rw [this]
  simp [hl, hv]
theorem Bx.frozen {w : World} {g : Nat} {t : TypeId} {l : List Value} (h : Bx w g t l) (i : Nat) : w.frozen? ⟨g, i, none⟩ = false := World.rowIs.frozen h i
theorem Bx.set {w : World} {g : Nat} {t : TypeId} {l : List Value} (h : Bx w g t l) (i : Nat) (v : Value) : Bx (w.setCell ⟨g, i, none⟩ v) g t (l.set i v) := by
  unfold Bx
  rw [List.length_set]
  refine (World.rowIs.set h i v).congr fun j hj => ?_
  by_cases e : j = i
  · subst e; simp [hj]
  · simp [e, List.getElem?_set_ne (Ne.symm e)]
theorem Bx.other {w : World} {g k o : Nat} {t : TypeId} {l : List Value} (h : Bx w g t l) (hk : g ≠ k) (v : Value) : Bx (w.setCell ⟨k, o, none⟩ v) g t l := World.rowIs.of_block h (Below.heap_setCell _ _ _ _ hk)
theorem Bx.below {w w' : World} {g : Nat} {t : TypeId} {l : List Value} (h : Bx w g t l) (hb : Below w.heap.size w w') : Bx w' g t l := row_below hb h
theorem Bx.kept {w w' : World} {g : Nat} {t : TypeId} {l : List Value} (h : Bx w g t l) (hb : w'.heap[g]? = w.heap[g]?) : Bx w' g t l := World.rowIs.of_block h hb
theorem Bx.alloc {w : World} {g : Nat} {t : TypeId} {l : List Value} (h : Bx w g t l) (o : Obj) : Bx (w.alloc o) g t l := h.below ((Below.refl _ _).alloc (Nat.le_refl _) _)
theorem Bx.drew {w : World} {g : Nat} {t : TypeId} {l : List Value} (h : Bx w g t l) : Bx w.drew g t l := h
theorem Bx.grown {w w' : World} {g : Nat} {t : TypeId} {l : List Value} {q : Option Nat} (h : Bx w g t l) (hg : w.grownBy w' q) (hq : q ≠ some g) : Bx w' g t l := h.kept (hg.block _ h.lt fun e => hq e.symm)
theorem Bx.newAt (w : World) (t : TypeId) (l : List Value) {g : Nat} (hg : w.heap.size = g) : Bx (w.alloc (.cells l.toArray t)) g t l := hg ▸ Bx.new w t l
theorem wp_gen {P : Program} {c : Code} {K : Exit → Act → World → Prop} {a : Act} {W : World} (F : World → Prop) (hF : F W) (h : ∀ W', F W' → Code.wp P c K a W') : Code.wp P c K a W := h W hF
theorem bp_gen {P : Program} {fn : Func} {R : Ending → World → Prop} {e : Exit} {a : Act} {W : World} (F : World → Prop) (hF : F W) (h : ∀ W', F W' → bodyPost P fn R e a W') : bodyPost P fn R e a W := h W hF
theorem ex_gen {X : Exit → Act → World → Prop} {e : Exit} {a : Act} {W : World} (F : World → Prop) (hF : F W) (h : ∀ W', F W' → X e a W') : X e a W := h W hF
theorem Wr.refl1 (g : Nat) (w : World) : Wr (fun k => k = g) w w := Wr.refl _ _
theorem Wr.set1 {g o : Nat} {w w' : World} (h : Wr (fun k => k = g) w w') (u : Value) : Wr (fun k => k = g) w (w'.setCell ⟨g, o, none⟩ u) := h.set (p := ⟨g, o, none⟩) rfl u
theorem Wr.bx {T : Nat → Prop} {w w' : World} {g : Nat} {t : TypeId} {l : List Value} (h : Wr T w w') (hx : Bx w g t l) (hT : ¬ T g) : Bx w' g t l := hx.kept (h.block _ hx.lt hT)
theorem Wr.ints {T : Nat → Prop} {B : Nat} {w w' : World} {v : Value} {xs : List Int} (h : Wr T w w') (hr : IntRow B w v xs) (hT : ∀ g, v.ownBlock = some g → ¬ T g) : IntRow B w' v xs := hr.kept h.size fun g e => h.block g (hr.lt g e).2 (hT g e)
theorem Wr.below1 {g B : Nat} {w0 a b : World} (h : Wr (fun k => k = g) a b) (hb : Below B w0 a) (h0 : B ≤ w0.heap.size) (hg : B ≤ g) : Below B w0 b := h.below hb h0 fun _ e => e ▸ hg
theorem bx8 {w : World} {g : Nat} {t : TypeId} {x0 x1 x2 x3 x4 x5 x6 x7 : Value} (h : Bx w g t [x0, x1, x2, x3, x4, x5, x6, x7]) :
    (w.cell? ⟨g, 0, none⟩ = some x0 ∧ w.cell? ⟨g, 1, none⟩ = some x1 ∧ w.cell? ⟨g, 2, none⟩ = some x2 ∧ w.cell? ⟨g, 3, none⟩ = some x3 ∧ w.cell? ⟨g, 4, none⟩ = some x4 ∧ w.cell? ⟨g, 5, none⟩ = some x5 ∧ w.cell? ⟨g, 6, none⟩ = some x6 ∧ w.cell? ⟨g, 7, none⟩ = some x7) ∧
    (w.frozen? ⟨g, 0, none⟩ = false ∧ w.frozen? ⟨g, 1, none⟩ = false ∧ w.frozen? ⟨g, 2, none⟩ = false ∧ w.frozen? ⟨g, 3, none⟩ = false ∧ w.frozen? ⟨g, 4, none⟩ = false ∧ w.frozen? ⟨g, 5, none⟩ = false ∧ w.frozen? ⟨g, 6, none⟩ = false ∧ w.frozen? ⟨g, 7, none⟩ = false) :=
  ⟨⟨h.cell 0 rfl, h.cell 1 rfl, h.cell 2 rfl, h.cell 3 rfl, h.cell 4 rfl, h.cell 5 rfl, h.cell 6 rfl, h.cell 7 rfl⟩, h.frozen 0, h.frozen 1, h.frozen 2, h.frozen 3, h.frozen 4, h.frozen 5, h.frozen 6, h.frozen 7⟩
theorem bx10 {w : World} {g : Nat} {t : TypeId} {x0 x1 x2 x3 x4 x5 x6 x7 x8 x9 : Value} (h : Bx w g t [x0, x1, x2, x3, x4, x5, x6, x7, x8, x9]) :
    (w.cell? ⟨g, 0, none⟩ = some x0 ∧ w.cell? ⟨g, 1, none⟩ = some x1 ∧ w.cell? ⟨g, 2, none⟩ = some x2 ∧ w.cell? ⟨g, 3, none⟩ = some x3 ∧ w.cell? ⟨g, 4, none⟩ = some x4 ∧ w.cell? ⟨g, 5, none⟩ = some x5 ∧ w.cell? ⟨g, 6, none⟩ = some x6 ∧ w.cell? ⟨g, 7, none⟩ = some x7 ∧ w.cell? ⟨g, 8, none⟩ = some x8 ∧ w.cell? ⟨g, 9, none⟩ = some x9) ∧
    (w.frozen? ⟨g, 0, none⟩ = false ∧ w.frozen? ⟨g, 1, none⟩ = false ∧ w.frozen? ⟨g, 2, none⟩ = false ∧ w.frozen? ⟨g, 3, none⟩ = false ∧ w.frozen? ⟨g, 4, none⟩ = false ∧ w.frozen? ⟨g, 5, none⟩ = false ∧ w.frozen? ⟨g, 6, none⟩ = false ∧ w.frozen? ⟨g, 7, none⟩ = false ∧ w.frozen? ⟨g, 8, none⟩ = false ∧ w.frozen? ⟨g, 9, none⟩ = false) :=
  ⟨⟨h.cell 0 rfl, h.cell 1 rfl, h.cell 2 rfl, h.cell 3 rfl, h.cell 4 rfl, h.cell 5 rfl, h.cell 6 rfl, h.cell 7 rfl, h.cell 8 rfl, h.cell 9 rfl⟩, h.frozen 0, h.frozen 1, h.frozen 2, h.frozen 3, h.frozen 4, h.frozen 5, h.frozen 6, h.frozen 7, h.frozen 8, h.frozen 9⟩
end Go.Proofs.Ytldiccheboipeaa

/-
  Numbers are appended to rows of up to 3000000 of them (the like of Ints).
-/
namespace Go.Proofs.Ytldiccheboipeaa
open Go.RowKit
theorem run_append_intsM {P : Program} {t ty e : TypeId} {i : TypeInfo} {B : Nat} (ht : P.underlying t = some (.slice e)) (hi : P.info? e = some i) (hz : i.zero = some (.int .i64 0)) (hs : i.size = 1) (hby : i.bytes = 8)
    {w : World} {v : Value} {L : List Int} (hown : IntRow B w v L) (ad : Addr) (m c : Nat) (M : List Int) (hm : M.length = m) (hnews : ∀ j, (h : j < M.length) → w.cell? (ad.add j) = some (.int .i64 M[j]))
    (hpos : 0 < m ∨ ∃ a n k, v = .slice (some a) n k) (hL : L.length + m ≤ 3000000) (hB : B ≤ w.heap.size) :
    ∃ g off cap w', (Builtin.append_ #[t, t] ty #[v, .slice (some ad) m c]).run P w = .ok (.slice (some ⟨g, off, none⟩) (L.length + m) cap) w' ∧
      IntRow B w' (.slice (some ⟨g, off, none⟩) (L.length + m) cap) (L ++ M) ∧ w.grownBy w' v.ownBlock ∧ (v.ownBlock = some g ∨ g = w.heap.size) := by
  have hnews' : ∀ j u, (M.map fun x => Value.int .i64 x)[j]? = some u → w.cell? (ad.add j) = some u := by
    intro j u hu
    rw [List.getElem?_map] at hu
    by_cases hj : j < M.length
    · rw [List.getElem?_eq_getElem hj] at hu
      rw [hnews j hj]
      simpa using hu
    · rw [List.getElem?_eq_none (by omega)] at hu; simp at hu
  have h1 : ∀ u ∈ (M.map fun x => Value.int .i64 x), u.oneCell' = true := by
    intro u hu
    simp at hu
    obtain ⟨x, _, rfl⟩ := hu
    rfl
  have hgrown : ∀ (xs : List Int) (k : Nat) (W : World) (q : Nat), W.heap.size = w.heap.size → xs.length = q → q ≤ k → k ≤ maxLen →
      IntRow B (W.alloc (.cells ((xs.map fun x => Value.int .i64 x).toArray ++ Builtin.zeroCells (Value.int .i64 0).cells (k - q)) e)) (.slice (some ⟨w.heap.size, 0, none⟩) q k) xs := by
    intro xs k W q hW hq hqk hk
    subst hq
    have hsz0 : (Builtin.zeroCells (Value.int .i64 0).cells (k - xs.length)).size = k - xs.length := by
      simp [Builtin.zeroCells, Value.cells]
    have hblk : (W.alloc (.cells ((xs.map fun x => Value.int .i64 x).toArray ++ Builtin.zeroCells (Value.int .i64 0).cells (k - xs.length)) e)).heap[w.heap.size]? = some (.cells ((xs.map fun x => Value.int .i64 x).toArray ++ Builtin.zeroCells (Value.int .i64 0).cells (k - xs.length)) e) := by
      rw [← hW]; exact Go.Deep.blk_alloc_new _ _
    refine .inr ⟨w.heap.size, 0, k, rfl, hB, by simp [hW], hqk, hk, fun j hj => ?_, fun j hj => ?_⟩
    · refine ⟨?_, ?_⟩
      · rw [Nat.zero_add, cell_of_row _ _ _ _ _ _ hblk]
        rw [Array.getElem?_eq_getElem (by simp [hsz0]; omega)]; rfl
      · simp [World.frozen?, hblk]
    · rw [Nat.zero_add, cell_of_row _ _ _ _ _ _ hblk]
      simp [Array.getElem?_append, hj]
  rcases hown with ⟨rfl, rfl⟩ | ⟨g, off, cap, rfl, hBg, hg, hl, hmx, hsp, hx⟩
  · have hm0 : 0 < m := by
      rcases hpos with h | ⟨_, _, _, h⟩
      · exact h
      · cases h
    have hr := run_append_nil (P := P) w t ty e i _ ht hi hz ad m c _ (by simp [hs, hm]) hnews' hm0 (by simp at hL; omega) (by simp at hL; rw [hby]; omega)
    refine ⟨w.heap.size, 0, grownCap w m 0 e, _, by simpa using hr, ?_, ?_, .inr rfl⟩
    · have := hgrown M (grownCap w m 0 e) w.drew m rfl hm (grownCap_ge _ _ _ _) (grownCap_le_maxLen _ _ _ _ (by simp at hL; unfold maxLen; omega))
      simpa using this
    · exact ⟨rfl, rfl, rfl, Nat.le_of_lt (by rw [World.size_alloc]; exact Nat.lt_succ_self _), fun k hk _ => Below.heap_alloc w.drew _ k hk⟩
  · by_cases hroom : L.length + m ≤ cap
    · have hc : ∀ j, j < (M.map fun x => Value.int .i64 x).length → (w.cell? ⟨g, off + L.length * i.size + j, none⟩).isSome = true := fun j hj => by
        rw [intCells_length] at hj
        have := (hsp (L.length + j) (by omega)).1
        rwa [hs, Nat.mul_one, Nat.add_assoc]
      have hf : ∀ j, j < (M.map fun x => Value.int .i64 x).length → w.frozen? ⟨g, off + L.length * i.size + j, none⟩ = false := fun j hj => by
        rw [intCells_length] at hj
        have := (hsp (L.length + j) (by omega)).2
        rwa [hs, Nat.mul_one, Nat.add_assoc]
      have hr := run_append_room_cells (P := P) w t ty e i ht hi g off L.length cap ad m c _ (by simp [hs, hm]) hnews' h1 hroom hc hf
      rw [hs, Nat.mul_one] at hr hc
      have hszc : (w.setCells g (off + L.length) (M.map fun x => Value.int .i64 x)).heap.size = w.heap.size := by
        have key : ∀ (vs : List Value) (o : Nat) (W : World), (W.setCells g o vs).heap.size = W.heap.size := by
          intro vs
          induction vs with
          | nil => intro o W; rfl
          | cons v r ih => intro o W; rw [World.setCells, ih]; simp [World.setCell]
        exact key _ _ _
      have hoth : ∀ k, k ≠ g → (w.setCells g (off + L.length) (M.map fun x => Value.int .i64 x)).heap[k]? = w.heap[k]? := by
        have key : ∀ (vs : List Value) (o : Nat) (W : World) (k : Nat), k ≠ g → (W.setCells g o vs).heap[k]? = W.heap[k]? := by
          intro vs
          induction vs with
          | nil => intro o W k _; rfl
          | cons v r ih => intro o W k hk; rw [World.setCells, ih _ _ _ hk]; exact Below.heap_setCell _ _ _ _ hk
        exact key _ _ _
      have hwt : (w.setCells g (off + L.length) (M.map fun x => Value.int .i64 x)).os = w.os ∧ (w.setCells g (off + L.length) (M.map fun x => Value.int .i64 x)).tape = w.tape ∧ (w.setCells g (off + L.length) (M.map fun x => Value.int .i64 x)).output = w.output := by
        have key : ∀ (vs : List Value) (o : Nat) (W : World), (W.setCells g o vs).os = W.os ∧ (W.setCells g o vs).tape = W.tape ∧ (W.setCells g o vs).output = W.output := by
          intro vs
          induction vs with
          | nil => intro o W; exact ⟨rfl, rfl, rfl⟩
          | cons v r ih => intro o W; rw [World.setCells]; exact ih _ _
        exact key _ _ _
      refine ⟨g, off, cap, _, hr, .inr ⟨g, off, cap, by simp [hm], hBg, by rw [hszc]; exact hg, by simp [hm]; omega, hmx, fun j hj => ?_, fun j hj => ?_⟩, ⟨hwt.1, hwt.2.1, hwt.2.2, by rw [hszc]; exact Nat.le_refl _, fun k _ hk => hoth k (fun e => hk (by rw [e]; rfl))⟩, .inl rfl⟩
      · rw [World.frozen?_setCells]
        refine ⟨?_, (hsp j hj).2⟩
        by_cases hin : L.length ≤ j ∧ j < L.length + M.length
        · have := World.cell?_setCells_in g (M.map fun x => Value.int .i64 x) (off + L.length) w hc (j - L.length) (by simp; omega)
          rw [show off + L.length + (j - L.length) = off + j by omega] at this
          rw [this]; rfl
        · rw [World.cell?_setCells_out g _ _ _ _ (fun _ _ => by simp; omega)]
          exact (hsp j hj).1
      · rw [List.length_append] at hj
        by_cases hin : j < L.length
        · rw [World.cell?_setCells_out g _ _ _ _ (fun _ _ => by simp; omega), hx j hin]
          simp [hin]
        · have := World.cell?_setCells_in g (M.map fun x => Value.int .i64 x) (off + L.length) w hc (j - L.length) (by simp; omega)
          rw [show off + L.length + (j - L.length) = off + j by omega] at this
          rw [this]
          simp [List.getElem_append, hin]
    · have hr := run_append_grow (P := P) w t ty e i _ ht hi hz ⟨g, off, none⟩ L.length cap (L.map fun x => Value.int .i64 x) (by simp [hs]) (fun j u hu => by
          rw [List.getElem?_map] at hu
          by_cases hj : j < L.length
          · rw [List.getElem?_eq_getElem hj] at hu
            rw [Addr.add_lit, hx j hj]
            simpa using hu
          · rw [List.getElem?_eq_none (by omega)] at hu; simp at hu)
        ad m c _ (by simp [hs, hm]) hnews' (by omega) (by omega) (growslice_fits (by omega) (by rw [hby]; omega))
      refine ⟨w.heap.size, 0, grownCap w (L.length + m) cap e, _, hr, ?_, ?_, .inr rfl⟩
      · have := hgrown (L ++ M) (grownCap w (L.length + m) cap e) w.drew (L.length + m) rfl (by simp [hm]) (grownCap_ge _ _ _ _) (grownCap_le_maxLen _ _ _ _ (by unfold maxLen; omega))
        simpa using this
      · exact ⟨rfl, rfl, rfl, Nat.le_of_lt (by rw [World.size_alloc]; exact Nat.lt_succ_self _), fun k hk _ => Below.heap_alloc w.drew _ k hk⟩
theorem append_intsM {P : Program} {t e : TypeId} {i : TypeInfo} {B : Nat} (ht : P.underlying t = some (.slice e)) (hi : P.info? e = some i) (hz : i.zero = some (.int .i64 0)) (hsz : i.size = 1) (hby : i.bytes = 8)
    {ops : Array Oper} {rest : List Oper} {o : Oper} {act : Act} {Q : Exit → Act → World → Prop} (w : World) (hgd : o.guard = none) (s x : Operand)
    (ho : o.op = .call { callee := .builtin .append, args := #[s, x], argTypes := #[t, t] }) (v : Value) (L : List Int) (hs : act.eval s = v) (hown : IntRow B w v L) (ad : Addr) (m c : Nat) (M : List Int) (hm : M.length = m)
    (hx : act.eval x = .slice (some ad) m c) (hnews : ∀ j, (h : j < M.length) → w.cell? (ad.add j) = some (.int .i64 M[j])) (hpos : 0 < m ∨ ∃ a n k, v = .slice (some a) n k) (hL : L.length + m ≤ 3000000) (hB : B ≤ w.heap.size)
    (h : ∀ g off cap w', IntRow B w' (.slice (some ⟨g, off, none⟩) (L.length + m) cap) (L ++ M) → w.grownBy w' v.ownBlock → (v.ownBlock = some g ∨ g = w.heap.size) →
      wpList P ops Q rest (act.put o.dst (.slice (some ⟨g, off, none⟩) (L.length + m) cap)) w') :
    wpList P ops Q (o :: rest) act w := by
  obtain ⟨g, off, cap, w', hr, h2, h3, h4⟩ := run_append_intsM (P := P) (ty := o.type) ht hi hz hsz hby hown ad m c M hm hnews hpos hL hB
  refine wpList_plain hgd fun K hK => ?_
  unfold Oper.wp execOp
  simp only [ho, resolve, invoke, builtin, Sem.run_bind, Sem.run_pure, Result.andThen_ok, List.map_toArray, List.map_cons, List.map_nil, hs, hx, hr]
  exact hK _ _ (h g off cap w' h2 h3 h4)
theorem append_intM {P : Program} {t e : TypeId} {i : TypeInfo} {B : Nat} (ht : P.underlying t = some (.slice e)) (hi : P.info? e = some i) (hz : i.zero = some (.int .i64 0)) (hsz : i.size = 1) (hby : i.bytes = 8)
    {ops : Array Oper} {rest : List Oper} {o : Oper} {act : Act} {Q : Exit → Act → World → Prop} (w : World) (hgd : o.guard = none) (s x : Operand)
    (ho : o.op = .call { callee := .builtin .append, args := #[s, x], argTypes := #[t, t] }) (v : Value) (L : List Int) (hs : act.eval s = v) (hown : IntRow B w v L) (k : Int) (H c : Nat) (hH : w.heap.size = H)
    (hx : act.eval x = .slice (some ⟨H, 0, none⟩) 1 c) (hL : L.length ≤ 2900000) (hB : B ≤ H)
    (h : ∀ g off cap w', IntRow B w' (.slice (some ⟨g, off, none⟩) (L.length + 1) cap) (L ++ [k]) → w.grownBy w' v.ownBlock → (v.ownBlock = some g ∨ H ≤ g) → g < w'.heap.size →
      wpList P ops Q rest (act.put o.dst (.slice (some ⟨g, off, none⟩) (L.length + 1) cap)) w') :
    wpList P ops Q (o :: rest) act (w.alloc (.cells #[.int .i64 k] e)) := by
  subst hH
  refine append_intsM ht hi hz hsz hby _ hgd s x ho v L hs (hown.below ((Below.refl _ _).alloc (Nat.le_refl _) _)) ⟨w.heap.size, 0, none⟩ 1 c [k] rfl hx (fun j hj => ?_) (.inl (by omega)) (by omega) (by simp; omega) fun g off cap w' h1 h2 h3 => ?_
  · obtain rfl : j = 0 := by simpa using hj
    simp [Addr.add_lit, go_sem]
  · have hA := World.grownBy_alloc w (.cells #[.int .i64 k] e) v.ownBlock
    refine h g off cap w' h1 ⟨h2.os.trans hA.os, h2.tape.trans hA.tape, h2.output.trans hA.output, Nat.le_trans hA.size h2.size, fun i hi hn => (h2.block i (Nat.lt_of_lt_of_le hi hA.size) hn).trans (hA.block i hi hn)⟩ ?_ (h1.lt g rfl).2
    rcases h3 with h3 | h3
    · exact .inl h3
    · right; rw [h3]; simp
end Go.Proofs.Ytldiccheboipeaa
