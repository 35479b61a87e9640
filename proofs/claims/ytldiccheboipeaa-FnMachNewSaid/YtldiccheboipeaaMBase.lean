/-
  Plain words for what machines of this project look like in memory (frames, pages, twins), and how such facts are carried from one world to a later one. Boxes of any number of cells. Nothing of the translation is used here.
-/
import Derived.Test.YtldiccheboipeaaHBase
import Derived.Test.YtldiccheboipeaaInts
import Derived.Test.YtldiccheboipeaaOwn
namespace Go.Proofs.Ytldiccheboipeaa
open Go.RowKit

/-- a frame -/
structure Fr where
  m : Int
  pc : Int
  twin : Int
  temps : List (Int × Int)
  stack : List (Int × Int)

/-- a page -/
structure Pg where
  base : Int
  frames : List Fr

/-- a twin -/
structure Tw where
  page : Int
  place : Int
  left : Cl

/-- a machine -/
structure Mc where
  cells : Int
  pages : List Pg
  order : List Int
  now : Int
  twins : List Tw
  born : Int
  said : List (Int × Int)
  code : Int

/-- numbers in memory -/
def IntsAt (w : World) (v : Value) (xs : List Int) : Prop :=
  ∃ (a : Option Addr) (cap : Nat), v = .slice a xs.length cap ∧ xs.length ≤ maxLen ∧ ∀ i, (h : i < xs.length) → ∃ b o, a = some ⟨b, o, none⟩ ∧ w.cell? ⟨b, o + i, none⟩ = some (.int .i64 xs[i])

theorem IntsAt.below {w w' : World} {v : Value} {xs : List Int} (h : IntsAt w v xs) (hb : Below w.heap.size w w') : IntsAt w' v xs := by
  obtain ⟨a, cap, hv, hl, hc⟩ := h
  refine ⟨a, cap, hv, hl, fun i hi => ?_⟩
  obtain ⟨b, o, ha, h0⟩ := hc i hi
  exact ⟨b, o, ha, cell_below hb h0⟩
theorem IntsAt.shape {w : World} {v : Value} {xs : List Int} (h : IntsAt w v xs) : ∃ a c, v = .slice a xs.length c := by
  obtain ⟨a, c, hv, _⟩ := h
  exact ⟨a, c, hv⟩
theorem IntRow.at {B : Nat} {w : World} {v : Value} {xs : List Int} (h : IntRow B w v xs) : IntsAt w v xs := by
  rcases h with ⟨rfl, rfl⟩ | ⟨g, off, cap, rfl, _, _, hl, hm, _, hx⟩
  · exact ⟨none, 0, rfl, Nat.zero_le _, fun _ hi => absurd hi (Nat.not_lt_zero _)⟩
  · exact ⟨_, cap, rfl, by omega, fun i hi => ⟨g, off, rfl, hx i hi⟩⟩

/-- a frame in memory: five cells from place o of block b on, its lists vt and vs -/
structure FrAt (w : World) (b o : Nat) (vt vs : Value) (f : Fr) : Prop where
  c0 : w.cell? ⟨b, o, none⟩ = some (.int .i64 f.m)
  c1 : w.cell? ⟨b, o + 1, none⟩ = some (.int .i64 f.pc)
  c2 : w.cell? ⟨b, o + 2, none⟩ = some (.int .i64 f.twin)
  c3 : w.cell? ⟨b, o + 3, none⟩ = some vt
  c4 : w.cell? ⟨b, o + 4, none⟩ = some vs
  t : OpsAt w vt f.temps
  s : OpsAt w vs f.stack

theorem FrAt.below {w w' : World} {b o : Nat} {vt vs : Value} {f : Fr} (h : FrAt w b o vt vs f) (hb : Below w.heap.size w w') : FrAt w' b o vt vs f :=
  ⟨cell_below hb h.c0, cell_below hb h.c1, cell_below hb h.c2, cell_below hb h.c3, cell_below hb h.c4, h.t.below hb, h.s.below hb⟩

/-- frames in memory -/
def FramesAt (w : World) (v : Value) (fs : List Fr) : Prop :=
  ∃ (a : Option Addr) (cap : Nat), v = .slice a fs.length cap ∧ fs.length ≤ maxLen ∧
    ∀ i, (h : i < fs.length) → ∃ b o vt vs, a = some ⟨b, o, none⟩ ∧ FrAt w b (o + i * 5) vt vs fs[i]

theorem FramesAt.below {w w' : World} {v : Value} {fs : List Fr} (h : FramesAt w v fs) (hb : Below w.heap.size w w') : FramesAt w' v fs := by
  obtain ⟨a, cap, hv, hl, hc⟩ := h
  refine ⟨a, cap, hv, hl, fun i hi => ?_⟩
  obtain ⟨b, o, vt, vs, ha, h0⟩ := hc i hi
  exact ⟨b, o, vt, vs, ha, h0.below hb⟩
theorem FramesAt.shape {w : World} {v : Value} {fs : List Fr} (h : FramesAt w v fs) : ∃ a c, v = .slice a fs.length c := by
  obtain ⟨a, c, hv, _⟩ := h
  exact ⟨a, c, hv⟩
theorem FramesAt.nil (w : World) : FramesAt w (.slice none 0 0) [] := ⟨none, 0, rfl, Nat.zero_le _, fun _ hi => absurd hi (Nat.not_lt_zero _)⟩

/-- a page in memory: two cells -/
structure PgAt (w : World) (b o : Nat) (vf : Value) (p : Pg) : Prop where
  c0 : w.cell? ⟨b, o, none⟩ = some (.int .i64 p.base)
  c1 : w.cell? ⟨b, o + 1, none⟩ = some vf
  f : FramesAt w vf p.frames

theorem PgAt.below {w w' : World} {b o : Nat} {vf : Value} {p : Pg} (h : PgAt w b o vf p) (hb : Below w.heap.size w w') : PgAt w' b o vf p := ⟨cell_below hb h.c0, cell_below hb h.c1, h.f.below hb⟩

def PagesAt (w : World) (v : Value) (ps : List Pg) : Prop :=
  ∃ (a : Option Addr) (cap : Nat), v = .slice a ps.length cap ∧ ps.length ≤ maxLen ∧ ∀ i, (h : i < ps.length) → ∃ b o vf, a = some ⟨b, o, none⟩ ∧ PgAt w b (o + i * 2) vf ps[i]

theorem PagesAt.below {w w' : World} {v : Value} {ps : List Pg} (h : PagesAt w v ps) (hb : Below w.heap.size w w') : PagesAt w' v ps := by
  obtain ⟨a, cap, hv, hl, hc⟩ := h
  refine ⟨a, cap, hv, hl, fun i hi => ?_⟩
  obtain ⟨b, o, vf, ha, h0⟩ := hc i hi
  exact ⟨b, o, vf, ha, h0.below hb⟩
theorem PagesAt.shape {w : World} {v : Value} {ps : List Pg} (h : PagesAt w v ps) : ∃ a c, v = .slice a ps.length c := by
  obtain ⟨a, c, hv, _⟩ := h
  exact ⟨a, c, hv⟩

/-- a twin in memory: eight cells, a call behind two numbers -/
structure TwAt (w : World) (b o : Nat) (vt vs : Value) (x : Tw) : Prop where
  c0 : w.cell? ⟨b, o, none⟩ = some (.int .i64 x.page)
  c1 : w.cell? ⟨b, o + 1, none⟩ = some (.int .i64 x.place)
  c2 : w.cell? ⟨b, o + 2, none⟩ = some (.int .i64 x.left.m)
  c3 : w.cell? ⟨b, o + 3, none⟩ = some (.int .i64 x.left.pc)
  c4 : w.cell? ⟨b, o + 4, none⟩ = some vt
  c5 : w.cell? ⟨b, o + 5, none⟩ = some vs
  c6 : w.cell? ⟨b, o + 6, none⟩ = some (.int .i64 x.left.sender)
  c7 : w.cell? ⟨b, o + 7, none⟩ = some (.bool x.left.dead)
  t : OpsAt w vt x.left.temps
  s : OpsAt w vs x.left.stack

theorem TwAt.below {w w' : World} {b o : Nat} {vt vs : Value} {t : Tw} (h : TwAt w b o vt vs t) (hb : Below w.heap.size w w') : TwAt w' b o vt vs t :=
  ⟨cell_below hb h.c0, cell_below hb h.c1, cell_below hb h.c2, cell_below hb h.c3, cell_below hb h.c4, cell_below hb h.c5, cell_below hb h.c6, cell_below hb h.c7, h.t.below hb, h.s.below hb⟩
theorem TwAt.l {w : World} {b o : Nat} {vt vs : Value} {t : Tw} (h : TwAt w b o vt vs t) : ClAt w b (o + 2) vt vs t.left := ⟨h.c2, h.c3, h.c4, h.c5, h.c6, h.c7, h.t, h.s⟩

def TwinsAt (w : World) (v : Value) (ts : List Tw) : Prop :=
  ∃ (a : Option Addr) (cap : Nat), v = .slice a ts.length cap ∧ ts.length ≤ maxLen ∧ ∀ i, (h : i < ts.length) → ∃ b o vt vs, a = some ⟨b, o, none⟩ ∧ TwAt w b (o + i * 8) vt vs ts[i]

theorem TwinsAt.below {w w' : World} {v : Value} {ts : List Tw} (h : TwinsAt w v ts) (hb : Below w.heap.size w w') : TwinsAt w' v ts := by
  obtain ⟨a, cap, hv, hl, hc⟩ := h
  refine ⟨a, cap, hv, hl, fun i hi => ?_⟩
  obtain ⟨b, o, vt, vs, ha, h0⟩ := hc i hi
  exact ⟨b, o, vt, vs, ha, h0.below hb⟩
theorem TwinsAt.shape {w : World} {v : Value} {ts : List Tw} (h : TwinsAt w v ts) : ∃ a c, v = .slice a ts.length c := by
  obtain ⟨a, c, hv, _⟩ := h
  exact ⟨a, c, hv⟩
theorem TwinsAt.nil (w : World) : TwinsAt w (.slice none 0 0) [] := ⟨none, 0, rfl, Nat.zero_le _, fun _ hi => absurd hi (Nat.not_lt_zero _)⟩

/-- the cells of a machine, its lists vp (pages), vo (order), vt (twins), vs (said) -/
def mcCells (vp vo vt vs : Value) (m : Mc) : List Value := [.int .i64 m.cells, vp, vo, .int .i64 m.now, vt, .int .i64 m.born, vs, .int .i64 m.code]

/-- a machine's lists in memory -/
structure MachAt (w : World) (vp vo vt vs : Value) (m : Mc) : Prop where
  p : PagesAt w vp m.pages
  o : IntsAt w vo m.order
  t : TwinsAt w vt m.twins
  s : OpsAt w vs m.said

theorem MachAt.below {w w' : World} {vp vo vt vs : Value} {m : Mc} (h : MachAt w vp vo vt vs m) (hb : Below w.heap.size w w') : MachAt w' vp vo vt vs m := ⟨h.p.below hb, h.o.below hb, h.t.below hb, h.s.below hb⟩

/-- how much of a machine an exact law looks at -/
structure Mc.small (m : Mc) : Prop where
  pages : m.pages.length ≤ 1048576
  frames : ∀ i, (hi : i < m.pages.length) → m.pages[i].frames.length ≤ 1048576
  twins : m.twins.length ≤ 1048576
  order : m.order.length ≤ 1048576
  said : m.said.length ≤ 1048576
  temps : ∀ i, (hi : i < m.pages.length) → ∀ j, (hj : j < m.pages[i].frames.length) → m.pages[i].frames[j].temps.length ≤ 1048576 ∧ m.pages[i].frames[j].stack.length ≤ 1048576
  left : ∀ i, (hi : i < m.twins.length) → m.twins[i].left.small

/-! ### boxes -/

/-- a box of so many cells -/
def Bx (w : World) (g : Nat) (t : TypeId) (l : List Value) : Prop := w.rowIs g t l.length fun i => l.getD i undef

theorem Bx.new (w : World) (t : TypeId) (l : List Value) : Bx (w.alloc (.cells l.toArray t)) w.heap.size t l :=
  ⟨_, Go.Deep.blk_alloc_new _ _, by simp, fun i hi => by simp [hi]⟩
theorem Bx.lt {w : World} {g : Nat} {t : TypeId} {l : List Value} (h : Bx w g t l) : g < w.heap.size := World.rowIs.lt h
theorem Bx.cell {w : World} {g : Nat} {t : TypeId} {l : List Value} (h : Bx w g t l) (i : Nat) {v : Value} (hi : l[i]? = some v) : w.cell? ⟨g, i, none⟩ = some v := by
  obtain ⟨hl, hv⟩ := List.getElem?_eq_some_iff.1 hi
  have := World.rowIs.cell h (i := i) hl
  rw [this]
  simp [hl, hv]
theorem Bx.frozen {w : World} {g : Nat} {t : TypeId} {l : List Value} (h : Bx w g t l) (i : Nat) : w.frozen? ⟨g, i, none⟩ = false := World.rowIs.frozen h i
theorem Bx.set {w : World} {g : Nat} {t : TypeId} {l : List Value} (h : Bx w g t l) (i : Nat) (v : Value) : Bx (w.setCell ⟨g, i, none⟩ v) g t (l.set i v) := by
  unfold Bx
  rw [List.length_set]
  refine (World.rowIs.set h i v).congr fun j hj => ?_
  by_cases e : j = i
  · subst e; simp [hj]
  · simp [e, List.getElem?_set_ne (Ne.symm e)]
theorem Bx.other {w : World} {g k o : Nat} {t : TypeId} {l : List Value} (h : Bx w g t l) (hk : g ≠ k) (v : Value) : Bx (w.setCell ⟨k, o, none⟩ v) g t l := World.rowIs.of_block h (Below.heap_setCell _ _ _ _ hk)
theorem Bx.below {w w' : World} {g : Nat} {t : TypeId} {l : List Value} (h : Bx w g t l) (hb : Below w.heap.size w w') : Bx w' g t l := row_below hb h
theorem Bx.kept {w w' : World} {g : Nat} {t : TypeId} {l : List Value} (h : Bx w g t l) (hb : w'.heap[g]? = w.heap[g]?) : Bx w' g t l := World.rowIs.of_block h hb
theorem Bx.alloc {w : World} {g : Nat} {t : TypeId} {l : List Value} (h : Bx w g t l) (o : Obj) : Bx (w.alloc o) g t l := h.below ((Below.refl _ _).alloc (Nat.le_refl _) _)
theorem Bx.drew {w : World} {g : Nat} {t : TypeId} {l : List Value} (h : Bx w g t l) : Bx w.drew g t l := h

theorem Bx.grown {w w' : World} {g : Nat} {t : TypeId} {l : List Value} {q : Option Nat} (h : Bx w g t l) (hg : w.grownBy w' q) (hq : q ≠ some g) : Bx w' g t l := h.kept (hg.block _ h.lt fun e => hq e.symm)
theorem Bx.newAt (w : World) (t : TypeId) (l : List Value) {g : Nat} (hg : w.heap.size = g) : Bx (w.alloc (.cells l.toArray t)) g t l := hg ▸ Bx.new w t l

/-- a world is forgotten but for what is said of it -/
theorem wp_gen {P : Program} {c : Code} {K : Exit → Act → World → Prop} {a : Act} {W : World} (F : World → Prop) (hF : F W) (h : ∀ W', F W' → Code.wp P c K a W') : Code.wp P c K a W := h W hF

theorem bp_gen {P : Program} {fn : Func} {R : Ending → World → Prop} {e : Exit} {a : Act} {W : World} (F : World → Prop) (hF : F W) (h : ∀ W', F W' → bodyPost P fn R e a W') : bodyPost P fn R e a W := h W hF

theorem ex_gen {X : Exit → Act → World → Prop} {e : Exit} {a : Act} {W : World} (F : World → Prop) (hF : F W) (h : ∀ W', F W' → X e a W') : X e a W := h W hF

/-- what is written into one box alone -/
theorem Wr.refl1 (g : Nat) (w : World) : Wr (fun k => k = g) w w := Wr.refl _ _
theorem Wr.set1 {g o : Nat} {w w' : World} (h : Wr (fun k => k = g) w w') (u : Value) : Wr (fun k => k = g) w (w'.setCell ⟨g, o, none⟩ u) := h.set (p := ⟨g, o, none⟩) rfl u
theorem Wr.bx {T : Nat → Prop} {w w' : World} {g : Nat} {t : TypeId} {l : List Value} (h : Wr T w w') (hx : Bx w g t l) (hT : ¬ T g) : Bx w' g t l := hx.kept (h.block _ hx.lt hT)
theorem Wr.ints {T : Nat → Prop} {B : Nat} {w w' : World} {v : Value} {xs : List Int} (h : Wr T w w') (hr : IntRow B w v xs) (hT : ∀ g, v.ownBlock = some g → ¬ T g) : IntRow B w' v xs := hr.kept h.size fun g e => h.block g (hr.lt g e).2 (hT g e)
theorem Wr.below1 {g B : Nat} {w0 a b : World} (h : Wr (fun k => k = g) a b) (hb : Below B w0 a) (h0 : B ≤ w0.heap.size) (hg : B ≤ g) : Below B w0 b := h.below hb h0 fun _ e => e ▸ hg

theorem bx8 {w : World} {g : Nat} {t : TypeId} {x0 x1 x2 x3 x4 x5 x6 x7 : Value} (h : Bx w g t [x0, x1, x2, x3, x4, x5, x6, x7]) :
    (w.cell? ⟨g, 0, none⟩ = some x0 ∧ w.cell? ⟨g, 1, none⟩ = some x1 ∧ w.cell? ⟨g, 2, none⟩ = some x2 ∧ w.cell? ⟨g, 3, none⟩ = some x3 ∧ w.cell? ⟨g, 4, none⟩ = some x4 ∧ w.cell? ⟨g, 5, none⟩ = some x5 ∧ w.cell? ⟨g, 6, none⟩ = some x6 ∧ w.cell? ⟨g, 7, none⟩ = some x7) ∧
    (w.frozen? ⟨g, 0, none⟩ = false ∧ w.frozen? ⟨g, 1, none⟩ = false ∧ w.frozen? ⟨g, 2, none⟩ = false ∧ w.frozen? ⟨g, 3, none⟩ = false ∧ w.frozen? ⟨g, 4, none⟩ = false ∧ w.frozen? ⟨g, 5, none⟩ = false ∧ w.frozen? ⟨g, 6, none⟩ = false ∧ w.frozen? ⟨g, 7, none⟩ = false) :=
  ⟨⟨h.cell 0 rfl, h.cell 1 rfl, h.cell 2 rfl, h.cell 3 rfl, h.cell 4 rfl, h.cell 5 rfl, h.cell 6 rfl, h.cell 7 rfl⟩, h.frozen 0, h.frozen 1, h.frozen 2, h.frozen 3, h.frozen 4, h.frozen 5, h.frozen 6, h.frozen 7⟩
theorem bx10 {w : World} {g : Nat} {t : TypeId} {x0 x1 x2 x3 x4 x5 x6 x7 x8 x9 : Value} (h : Bx w g t [x0, x1, x2, x3, x4, x5, x6, x7, x8, x9]) :
    (w.cell? ⟨g, 0, none⟩ = some x0 ∧ w.cell? ⟨g, 1, none⟩ = some x1 ∧ w.cell? ⟨g, 2, none⟩ = some x2 ∧ w.cell? ⟨g, 3, none⟩ = some x3 ∧ w.cell? ⟨g, 4, none⟩ = some x4 ∧ w.cell? ⟨g, 5, none⟩ = some x5 ∧ w.cell? ⟨g, 6, none⟩ = some x6 ∧ w.cell? ⟨g, 7, none⟩ = some x7 ∧ w.cell? ⟨g, 8, none⟩ = some x8 ∧ w.cell? ⟨g, 9, none⟩ = some x9) ∧
    (w.frozen? ⟨g, 0, none⟩ = false ∧ w.frozen? ⟨g, 1, none⟩ = false ∧ w.frozen? ⟨g, 2, none⟩ = false ∧ w.frozen? ⟨g, 3, none⟩ = false ∧ w.frozen? ⟨g, 4, none⟩ = false ∧ w.frozen? ⟨g, 5, none⟩ = false ∧ w.frozen? ⟨g, 6, none⟩ = false ∧ w.frozen? ⟨g, 7, none⟩ = false ∧ w.frozen? ⟨g, 8, none⟩ = false ∧ w.frozen? ⟨g, 9, none⟩ = false) :=
  ⟨⟨h.cell 0 rfl, h.cell 1 rfl, h.cell 2 rfl, h.cell 3 rfl, h.cell 4 rfl, h.cell 5 rfl, h.cell 6 rfl, h.cell 7 rfl, h.cell 8 rfl, h.cell 9 rfl⟩, h.frozen 0, h.frozen 1, h.frozen 2, h.frozen 3, h.frozen 4, h.frozen 5, h.frozen 6, h.frozen 7, h.frozen 8, h.frozen 9⟩

end Go.Proofs.Ytldiccheboipeaa
