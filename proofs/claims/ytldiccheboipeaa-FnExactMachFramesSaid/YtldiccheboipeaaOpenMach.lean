/-
  From what the statement reads to what the walks ask: an argument that reads as a machine lies in memory as pages with frames, an order, twins, and what was said. Nothing of the translation is used here.
-/
import Derived.Test.YtldiccheboipeaaOpenHeap
import Derived.Test.YtldiccheboipeaaMBase
namespace Go.Proofs.Ytldiccheboipeaa
open Go.ChangeShapes Go.WideShapes Go.Deep

section
variable {H : Type} {enc : TypeId × Value → H} {P : Program} {w : World} {base : Nat} {spare : Nat → Bool} {held : Bool}

/-- rows of elements of any form: E q cs says that the cells cs are the element q -/
theorem rows_of {α : Type} [Inhabited α] {t e : TypeId} {fuel sz : Nat} {v : Value} {x : DataW H × List MemPlace} (E : α → List Value → Prop) (hsz : 0 < sz) (ht : P.underlying t = some (.slice e)) (ce : P.cellsOf e = sz)
    (hE : ∀ fuel cs x, cs.length = sz → DataW.trod enc P w base spare held fuel e cs = some x → ∃ q, E q cs) (h : DataW.trod enc P w base spare held fuel t [v] = some x) :
    ∃ (xs : List α) (a : Option Addr) (cap : Nat), v = .slice a xs.length cap ∧ xs.length ≤ maxLen ∧ ∀ i, (hi : i < xs.length) → ∃ b o cs, a = some ⟨b, o, none⟩ ∧ (∀ j u, cs[j]? = some u → w.cell? ⟨b, o + i * sz + j, none⟩ = some u) ∧ E xs[i] cs := by
  rcases open_slice ht h with ⟨hcs, _⟩ | ⟨a, len, cap, m, n, D, Pl, hcs, _, hl, hm, hmm, _, hx⟩
  · exact ⟨[], none, 0, by simpa using hcs, Nat.zero_le _, fun i hi => absurd hi (Nat.not_lt_zero _)⟩
  · have hlm : len ≤ m := by rw [hmm]; split <;> omega
    have each : ∀ i, i < len → ∃ q : α × List Value, q.2.length = sz ∧ (∀ j, j < sz → w.cell? (a.add (i * sz + j)) = q.2[j]?) ∧ E q.1 q.2 := by
      intro i hi
      obtain ⟨cs', h1, h2⟩ := hx i (by omega)
      rw [ce] at h1
      obtain ⟨_, hlen, hcell⟩ := World.cells?_some h1
      obtain ⟨q, hq⟩ := hE _ _ _ hlen h2
      exact ⟨(q, cs'), hlen, fun j hj => by rw [← add_add]; exact hcell j hj, hq⟩
    obtain ⟨q, hq⟩ := choose_lt each
    refine ⟨(List.range len).map fun i => (q i).1, some a, cap, by simpa using hcs, by simp; omega, fun i hi => ?_⟩
    have hi' : i < len := by simpa using hi
    obtain ⟨h0, h1, h2⟩ := hq i hi'
    obtain ⟨k0, k1, _⟩ := hq 0 (by omega)
    have hz : (q 0).2[0]? = some ((q 0).2[0]'(by omega)) := List.getElem?_eq_getElem (by omega)
    obtain ⟨b, o, rfl⟩ := plain_of (w := w) (v := (q 0).2[0]'(by omega)) (by have := k1 0 hsz; rw [hz] at this; simpa using this)
    refine ⟨b, o, (q i).2, rfl, fun j u hu => ?_, by simpa using h2⟩
    have hj : j < sz := by rw [← h0]; exact (List.getElem?_eq_some_iff.1 hu).1
    have := h1 j hj
    rw [add_plain, hu] at this
    rw [Nat.add_assoc]
    exact this

theorem intsAt_of {t e : TypeId} {fuel : Nat} {v : Value} {x : DataW H × List MemPlace} (ht : P.underlying t = some (.slice e)) (ce : P.cellsOf e = 1) (i0 : P.underlying e = some (.int .i64))
    (h : DataW.trod enc P w base spare held fuel t [v] = some x) : ∃ xs, IntsAt w v xs := by
  obtain ⟨xs, a, cap, hv, hl, hx⟩ := rows_of (α := Int) (sz := 1) (fun q cs => cs = [.int .i64 q]) (by omega) ht ce (fun fuel cs x hlen h => by
    match cs, hlen with
    | [v0], _ =>
      obtain ⟨n0, e0, _, _⟩ := DataW.trod_int i0 h
      exact ⟨n0, by simpa using e0⟩) h
  refine ⟨xs, a, cap, hv, hl, fun i hi => ?_⟩
  obtain ⟨b, o, cs, ha, hc, rfl⟩ := hx i hi
  exact ⟨b, o, ha, by have := hc 0 _ rfl; simpa using this⟩

/-- the types that frames, pages, twins are read at -/
structure VTy (P : Program) (so eo : TypeId) (g0 g1 : Field) : Prop where
  s : P.underlying so = some (.slice eo)
  e : P.underlying eo = some (.struct #[g0, g1])
  c : P.cellsOf eo = 2
  p0 : g0.offset = 0
  p1 : g1.offset = 1
  k0 : P.cellsOf g0.type = 1
  k1 : P.cellsOf g1.type = 1
  j0 : P.underlying g0.type = some (.int .i64)
  j1 : P.underlying g1.type = some (.int .i64)
  cs : P.cellsOf so = 1

theorem VTy.read {so eo : TypeId} {g0 g1 : Field} {fuel : Nat} {v : Value} {x : DataW H × List MemPlace} (T : VTy P so eo g0 g1) (h : DataW.trod enc P w base spare held fuel so [v] = some x) : ∃ xs, OpsAt w v xs :=
  opsAt_of T.s T.e T.c T.p0 T.p1 T.k0 T.k1 T.j0 T.j1 h

theorem framesAt_of {t e i so eo : TypeId} {f0 f1 f2 f3 f4 g0 g1 : Field} {fuel : Nat} {v : Value} {x : DataW H × List MemPlace} (T : VTy P so eo g0 g1) (ht : P.underlying t = some (.slice e)) (he : P.underlying e = some (.struct #[f0, f1, f2, f3, f4]))
    (ce : P.cellsOf e = 5) (ci : P.cellsOf i = 1) (ii : P.underlying i = some (.int .i64)) (o : f0.offset = 0 ∧ f1.offset = 1 ∧ f2.offset = 2 ∧ f3.offset = 3 ∧ f4.offset = 4) (ty : f0.type = i ∧ f1.type = i ∧ f2.type = i ∧ f3.type = so ∧ f4.type = so)
    (h : DataW.trod enc P w base spare held fuel t [v] = some x) : ∃ xs, FramesAt w v xs := by
  obtain ⟨o0, o1, o2, o3, o4⟩ := o
  obtain ⟨t0, t1, t2, t3, t4⟩ := ty
  have inh : Inhabited Fr := ⟨⟨0, 0, 0, [], []⟩⟩
  obtain ⟨xs, a, cap, hv, hl, hx⟩ := rows_of (α := Fr) (sz := 5) (fun q cs => ∃ vt vs, cs = [.int .i64 q.m, .int .i64 q.pc, .int .i64 q.twin, vt, vs] ∧ OpsAt w vt q.temps ∧ OpsAt w vs q.stack) (by omega) ht ce (fun fuel cs x hlen h => by
    obtain ⟨n, _, hf⟩ := trod_fields he h
    obtain ⟨y0, r0⟩ := hf 0 f0 rfl
    obtain ⟨y1, r1⟩ := hf 1 f1 rfl
    obtain ⟨y2, r2⟩ := hf 2 f2 rfl
    obtain ⟨y3, r3⟩ := hf 3 f3 rfl
    obtain ⟨y4, r4⟩ := hf 4 f4 rfl
    match cs, hlen with
    | [v0, v1, v2, v3, v4], _ =>
      simp [o0, o1, o2, o3, o4, t0, t1, t2, t3, t4, ci, T.cs] at r0 r1 r2 r3 r4
      obtain ⟨n0, e0, _, _⟩ := DataW.trod_int ii r0
      obtain ⟨n1, e1, _, _⟩ := DataW.trod_int ii r1
      obtain ⟨n2, e2, _, _⟩ := DataW.trod_int ii r2
      obtain ⟨ts, hts⟩ := T.read r3
      obtain ⟨ss, hss⟩ := T.read r4
      simp at e0 e1 e2
      exact ⟨⟨n0, n1, n2, ts, ss⟩, v3, v4, by simp [e0, e1, e2], hts, hss⟩) h
  refine ⟨xs, a, cap, hv, hl, fun i hi => ?_⟩
  obtain ⟨b, o, cs, ha, hc, vt, vs, rfl, h1, h2⟩ := hx i hi
  exact ⟨b, o, vt, vs, ha, hc 0 _ rfl, hc 1 _ rfl, hc 2 _ rfl, hc 3 _ rfl, hc 4 _ rfl, h1, h2⟩

theorem pagesAt_of {t e i ft fe so eo : TypeId} {p0 p1 f0 f1 f2 f3 f4 g0 g1 : Field} {fuel : Nat} {v : Value} {x : DataW H × List MemPlace} (T : VTy P so eo g0 g1) (ht : P.underlying t = some (.slice e)) (he : P.underlying e = some (.struct #[p0, p1]))
    (ce : P.cellsOf e = 2) (ci : P.cellsOf i = 1) (ii : P.underlying i = some (.int .i64)) (o : p0.offset = 0 ∧ p1.offset = 1) (ty : p0.type = i ∧ p1.type = ft) (cft : P.cellsOf ft = 1)
    (hft : P.underlying ft = some (.slice fe)) (hfe : P.underlying fe = some (.struct #[f0, f1, f2, f3, f4])) (cfe : P.cellsOf fe = 5) (fo : f0.offset = 0 ∧ f1.offset = 1 ∧ f2.offset = 2 ∧ f3.offset = 3 ∧ f4.offset = 4) (fty : f0.type = i ∧ f1.type = i ∧ f2.type = i ∧ f3.type = so ∧ f4.type = so)
    (h : DataW.trod enc P w base spare held fuel t [v] = some x) : ∃ xs, PagesAt w v xs := by
  obtain ⟨o0, o1⟩ := o
  obtain ⟨t0, t1⟩ := ty
  have inh : Inhabited Pg := ⟨⟨0, []⟩⟩
  obtain ⟨xs, a, cap, hv, hl, hx⟩ := rows_of (α := Pg) (sz := 2) (fun q cs => ∃ vf, cs = [.int .i64 q.base, vf] ∧ FramesAt w vf q.frames) (by omega) ht ce (fun fuel cs x hlen h => by
    obtain ⟨n, _, hf⟩ := trod_fields he h
    obtain ⟨y0, r0⟩ := hf 0 p0 rfl
    obtain ⟨y1, r1⟩ := hf 1 p1 rfl
    match cs, hlen with
    | [v0, v1], _ =>
      simp [o0, o1, t0, t1, ci, cft] at r0 r1
      obtain ⟨n0, e0, _, _⟩ := DataW.trod_int ii r0
      obtain ⟨fs, hfs⟩ := framesAt_of T hft hfe cfe ci ii fo fty r1
      simp at e0
      exact ⟨⟨n0, fs⟩, v1, by simp [e0], hfs⟩) h
  refine ⟨xs, a, cap, hv, hl, fun i hi => ?_⟩
  obtain ⟨b, o, cs, ha, hc, vf, rfl, h1⟩ := hx i hi
  exact ⟨b, o, vf, ha, hc 0 _ rfl, hc 1 _ rfl, h1⟩

theorem twinsAt_of {t e i b c so eo : TypeId} {p0 p1 p2 f0 f1 f2 f3 f4 f5 g0 g1 : Field} {fuel : Nat} {v : Value} {x : DataW H × List MemPlace} (T : VTy P so eo g0 g1) (ht : P.underlying t = some (.slice e)) (he : P.underlying e = some (.struct #[p0, p1, p2]))
    (ce : P.cellsOf e = 8) (ci : P.cellsOf i = 1) (ii : P.underlying i = some (.int .i64)) (cb : P.cellsOf b = 1) (ib : P.underlying b = some .bool) (o : p0.offset = 0 ∧ p1.offset = 1 ∧ p2.offset = 2) (ty : p0.type = i ∧ p1.type = i ∧ p2.type = c) (cc : P.cellsOf c = 6)
    (hc : P.underlying c = some (.struct #[f0, f1, f2, f3, f4, f5])) (fo : f0.offset = 0 ∧ f1.offset = 1 ∧ f2.offset = 2 ∧ f3.offset = 3 ∧ f4.offset = 4 ∧ f5.offset = 5) (fty : f0.type = i ∧ f1.type = i ∧ f2.type = so ∧ f3.type = so ∧ f4.type = i ∧ f5.type = b)
    (h : DataW.trod enc P w base spare held fuel t [v] = some x) : ∃ xs, TwinsAt w v xs := by
  obtain ⟨o0, o1, o2⟩ := o
  obtain ⟨t0, t1, t2⟩ := ty
  obtain ⟨q0, q1, q2, q3, q4, q5⟩ := fo
  obtain ⟨s0, s1, s2, s3, s4, s5⟩ := fty
  have inh : Inhabited Tw := ⟨⟨0, 0, ⟨0, 0, [], [], 0, false⟩⟩⟩
  obtain ⟨xs, a, cap, hv, hl, hx⟩ := rows_of (α := Tw) (sz := 8) (fun q cs => ∃ vt vs, cs = [.int .i64 q.page, .int .i64 q.place, .int .i64 q.left.m, .int .i64 q.left.pc, vt, vs, .int .i64 q.left.sender, .bool q.left.dead] ∧ OpsAt w vt q.left.temps ∧ OpsAt w vs q.left.stack) (by omega) ht ce (fun fuel cs x hlen h => by
    obtain ⟨n, _, hf⟩ := trod_fields he h
    obtain ⟨y0, r0⟩ := hf 0 p0 rfl
    obtain ⟨y1, r1⟩ := hf 1 p1 rfl
    obtain ⟨y2, r2⟩ := hf 2 p2 rfl
    match cs, hlen with
    | [v0, v1, v2, v3, v4, v5, v6, v7], _ =>
      simp [o0, o1, o2, t0, t1, t2, ci, cc] at r0 r1 r2
      obtain ⟨n0, e0, _, _⟩ := DataW.trod_int ii r0
      obtain ⟨n1, e1, _, _⟩ := DataW.trod_int ii r1
      obtain ⟨n', _, hg⟩ := trod_fields hc r2
      obtain ⟨z0, m0⟩ := hg 0 f0 rfl
      obtain ⟨z1, m1⟩ := hg 1 f1 rfl
      obtain ⟨z2, m2⟩ := hg 2 f2 rfl
      obtain ⟨z3, m3⟩ := hg 3 f3 rfl
      obtain ⟨z4, m4⟩ := hg 4 f4 rfl
      obtain ⟨z5, m5⟩ := hg 5 f5 rfl
      simp [q0, q1, q2, q3, q4, q5, s0, s1, s2, s3, s4, s5, ci, cb, T.cs] at m0 m1 m2 m3 m4 m5
      obtain ⟨k0, d0, _, _⟩ := DataW.trod_int ii m0
      obtain ⟨k1, d1, _, _⟩ := DataW.trod_int ii m1
      obtain ⟨ts, hts⟩ := T.read m2
      obtain ⟨ss, hss⟩ := T.read m3
      obtain ⟨k4, d4, _, _⟩ := DataW.trod_int ii m4
      obtain ⟨b5, d5, _⟩ := DataW.trod_bool ib m5
      simp at e0 e1 d0 d1 d4 d5
      exact ⟨⟨n0, n1, ⟨k0, k1, ts, ss, k4, b5⟩⟩, v4, v5, by simp [e0, e1, d0, d1, d4, d5], hts, hss⟩) h
  refine ⟨xs, a, cap, hv, hl, fun i hi => ?_⟩
  obtain ⟨b, o, cs, ha, hc, vt, vs, rfl, h1, h2⟩ := hx i hi
  exact ⟨b, o, vt, vs, ha, hc 0 _ rfl, hc 1 _ rfl, hc 2 _ rfl, hc 3 _ rfl, hc 4 _ rfl, hc 5 _ rfl, hc 6 _ rfl, hc 7 _ rfl, h1, h2⟩

end
end Go.Proofs.Ytldiccheboipeaa
