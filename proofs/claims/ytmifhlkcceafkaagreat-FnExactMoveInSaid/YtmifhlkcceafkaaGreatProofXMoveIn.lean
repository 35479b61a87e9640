/-
  Proved: whatever program, heap and two numbers are handed in, the law FnExactMoveIn returns true, and its arguments read afterwards as they read before. No condition of our own.
-/
import Derived.Test.YtmifhlkcceafkaaGreatRows
import Derived.Test.YtmifhlkcceafkaaGreatLawXMoveIn
import Derived.Test.YtmifhlkcceafkaaGreatOpenHeap
import Derived.ProofKit
import Derived.OpenShut

namespace Go.Proofs.YtmifhlkcceafkaaGreat
open Go.ChangeShapes Go.WideShapes Go.ChangeAt Go.RowKit
theorem own : ownKnob Tryz.prog.godebug = none := by kernel_rfl
theorem laidOut : laidOutB Tryz.prog = true := by kernel_rfl
theorem Tryz.cellsA : Tryz.prog.cellsOf 160 = 2 := by kernel_rfl
theorem Tryz.cellsB : Tryz.prog.cellsOf 98 = 3 := by kernel_rfl
theorem Tryz.cellsC : Tryz.prog.cellsOf 24 = 1 := by kernel_rfl
theorem Tryz.cellsD : Tryz.prog.cellsOf 96 = 1 := by kernel_rfl
theorem Tryz.cellsE : Tryz.prog.cellsOf 22 = 1 := by kernel_rfl
theorem Tryz.cellsF : Tryz.prog.cellsOf 28 = 5 := by kernel_rfl
theorem Tryz.cellsG : Tryz.prog.cellsOf 25 = 1 := by kernel_rfl
theorem Tryz.cellsH : Tryz.prog.cellsOf 101 = 6 := by kernel_rfl
theorem Tryz.cellsJ : Tryz.prog.cellsOf 26 = 1 := by kernel_rfl
theorem Tryz.cellsK : Tryz.prog.cellsOf 117 = 2 := by kernel_rfl
theorem Tryz.cellsL : Tryz.prog.cellsOf 4 = 1 := by kernel_rfl
theorem Tryz.cellsI : Tryz.prog.cellsOf 3 = 1 := by kernel_rfl
set_option maxRecDepth 100000 in
theorem open_prog {H : Type} {enc : TypeId × Value → H} {W : World} {base : Nat} {v : Value} {d : DataW H} {p : List MemPlace} (hv : Value.okWide Tryz.prog W .any base 24 v)
    (h : DataW.Trod enc Tryz.prog W 0 (fun _ => true) true 24 v d p) : ∃ u ms, v = .agg #[u] ∧ MethsAt W u ms := by
  obtain ⟨cs, rfl, hsz⟩ := okWide_struct Tryz.underlying24 hv
  rw [Tryz.cellsC] at hsz
  obtain ⟨l⟩ := cs
  match l, hsz with
  | [u], _ =>
    obtain ⟨fuel, hf⟩ := h
    obtain ⟨y0, n, _, _, h0⟩ := trod_struct1 Tryz.underlying24 hf
    have h0' : DataW.trod enc Tryz.prog W 0 (fun _ => true) true n 22 [u] = some y0 := by simpa [Value.cells, Tryz.cellsE] using h0
    obtain ⟨ms, hms⟩ := methsAt_of Tryz.underlying22 Tryz.underlying98 Tryz.cellsB rfl rfl rfl Tryz.cellsI Tryz.cellsI Tryz.cellsD Tryz.underlying3 Tryz.underlying3 rfl
      Tryz.underlying96 Tryz.underlying160 Tryz.cellsA rfl rfl Tryz.cellsI Tryz.cellsI Tryz.underlying3 Tryz.underlying3 h0'
    exact ⟨u, ms, rfl, hms⟩
set_option maxRecDepth 100000 in
theorem open_heap {H : Type} {enc : TypeId × Value → H} {W : World} {base : Nat} {v : Value} {d : DataW H} {p : List MemPlace} (hv : Value.okWide Tryz.prog W .any base 28 v)
    (h : DataW.Trod enc Tryz.prog W 0 (fun _ => true) true 28 v d p) : ∃ vc vs h, v = .agg (hpCells vc vs h) ∧ HeapAt W vc vs h := by
  obtain ⟨cs, rfl, hsz⟩ := okWide_struct Tryz.underlying28 hv
  rw [Tryz.cellsF] at hsz
  obtain ⟨l⟩ := cs
  match l, hsz with
  | [u0, u1, u2, u3, u4], _ =>
    obtain ⟨fuel, hf⟩ := h
    obtain ⟨n, _, hx⟩ := trod_fields Tryz.underlying28 hf
    obtain ⟨y0, r0⟩ := hx 0 _ rfl
    obtain ⟨y1, r1⟩ := hx 1 _ rfl
    obtain ⟨y2, r2⟩ := hx 2 _ rfl
    obtain ⟨y3, r3⟩ := hx 3 _ rfl
    obtain ⟨y4, r4⟩ := hx 4 _ rfl
    have s0 : DataW.trod enc Tryz.prog W 0 (fun _ => true) true n 25 [u0] = some y0 := by simpa [Value.cells, Tryz.cellsG] using r0
    have s1 : DataW.trod enc Tryz.prog W 0 (fun _ => true) true n 3 [u1] = some y1 := by simpa [Value.cells, Tryz.cellsI] using r1
    have s2 : DataW.trod enc Tryz.prog W 0 (fun _ => true) true n 3 [u2] = some y2 := by simpa [Value.cells, Tryz.cellsI] using r2
    have s3 : DataW.trod enc Tryz.prog W 0 (fun _ => true) true n 26 [u3] = some y3 := by simpa [Value.cells, Tryz.cellsJ] using r3
    have s4 : DataW.trod enc Tryz.prog W 0 (fun _ => true) true n 3 [u4] = some y4 := by simpa [Value.cells, Tryz.cellsI] using r4
    obtain ⟨n1, e1, _, _⟩ := DataW.trod_int Tryz.underlying3 s1
    obtain ⟨n2, e2, _, _⟩ := DataW.trod_int Tryz.underlying3 s2
    obtain ⟨n4, e4, _, _⟩ := DataW.trod_int Tryz.underlying3 s4
    obtain ⟨cs, hcs⟩ := callsAt_of Tryz.underlying25 Tryz.underlying101 Tryz.cellsH rfl rfl rfl rfl rfl rfl Tryz.cellsI Tryz.cellsI Tryz.cellsJ Tryz.cellsJ Tryz.cellsI Tryz.cellsL Tryz.underlying3 Tryz.underlying3 rfl rfl
      Tryz.underlying3 Tryz.underlying4 Tryz.underlying26 Tryz.underlying117 Tryz.cellsK rfl rfl Tryz.cellsI Tryz.cellsI Tryz.underlying3 Tryz.underlying3 s0
    obtain ⟨sd, hsd⟩ := opsAt_of Tryz.underlying26 Tryz.underlying117 Tryz.cellsK rfl rfl Tryz.cellsI Tryz.cellsI Tryz.underlying3 Tryz.underlying3 s3
    simp only [List.cons.injEq, and_true] at e1 e2 e4
    subst e1 e2 e4
    exact ⟨u0, u3, ⟨cs, n1, n2, sd, n4⟩, rfl, hcs, hsd⟩
set_option maxRecDepth 100000 in
theorem lifted (os : Os) (started : os.Started) (H : Type) (enc : TypeId × Value → H) :
    ReturnsInHanded {} Tryz.checked os 3 .any (Rows.fnExactMoveInSpec.pre6 enc Tryz.prog Tryz.f3 Rows.fnExactMoveInRow.domain false) (Rows.fnExactMoveInSpec.post enc Tryz.prog Tryz.f3 false true false false) := by
  refine returnsInHanded_of_change (C := Tryz.checked) own started (by kernel_rfl) Tryz.func3
    (ChangeSpec.witness6 (enc := enc) (C := Tryz.checked) false ⟨#[], #[.agg #[.slice none 0 0], .agg #[.slice none 0 0, .int .i64 0, .int .i64 0, .slice none 0 0, .int .i64 0], .int .i64 0, .int .i64 0], []⟩ 8 (by kernel_rfl) (by kernel_rfl) (by kernel_rfl) (by kernel_rfl)) ?_
  intro W base args ds gs before hval0 hW _ _
  have hval : ∀ (j : Nat) t v, Tryz.f3.params[j]? = some t → args[j]? = some v → Value.okWide Tryz.prog W .any base t v := hval0
  have hW' := hW
  obtain ⟨p, q, hA0, hV, rfl, _, _⟩ := hW
  have hA : DataW.TrodAll enc Tryz.prog W 0 (fun _ => true) true Tryz.f3.params.toList args.toList ds p := hA0
  rw [Tryz.params3] at hA hval
  obtain ⟨v0, vs0, d0, ds0, p0, q0, hargs, rfl, rfl, h0, r0⟩ := trodAll_cons hA
  obtain ⟨v1, vs1, d1, ds1, p1, q1, hargs1, rfl, rfl, h1, r1⟩ := trodAll_cons r0
  obtain ⟨v2, vs2, d2, ds2, p2, q2, hargs2, rfl, rfl, h2, r2⟩ := trodAll_cons r1
  obtain ⟨v3, vs3, d3, ds3, p3, q3, hargs3, rfl, rfl, h3, r3⟩ := trodAll_cons r2
  obtain ⟨rfl, rfl, rfl⟩ := trodAll_nil r3
  obtain rfl : args = #[v0, v1, v2, v3] := by cases args; simp_all
  obtain ⟨rfl, rfl⟩ := trodVars_none hV
  have k0 := h0
  have k1 := h1
  have lt0 : ∀ x ∈ p0, x.block < W.heap.size := by obtain ⟨m, hm⟩ := k0; exact DataW.trod_lt m _ _ _ hm
  have lt1 : ∀ x ∈ p1, x.block < W.heap.size := by obtain ⟨m, hm⟩ := k1; exact DataW.trod_lt m _ _ _ hm
  have k2 := h2
  have lt2 : ∀ x ∈ p2, x.block < W.heap.size := by obtain ⟨m, hm⟩ := k2; exact DataW.trod_lt m _ _ _ hm
  have k3 := h3
  have lt3 : ∀ x ∈ p3, x.block < W.heap.size := by obtain ⟨m, hm⟩ := k3; exact DataW.trod_lt m _ _ _ hm
  obtain ⟨u, ms, rfl, hms⟩ := open_prog (hval 0 24 v0 rfl rfl) h0
  obtain ⟨vc, vs, hp, rfl, hhp⟩ := open_heap (hval 1 28 v1 rfl rfl) h1
  obtain ⟨n2, rfl⟩ := okWide_int Tryz.underlying3 (hval 2 3 v2 rfl rfl)
  obtain ⟨n3, rfl⟩ := okWide_int Tryz.underlying3 (hval 3 3 v3 rfl rfl)
  clear hA0 hval0
  refine (lawMoveInX_any u vc vs ms hp n2 n3 W hms hhp).mono fun e W' ⟨he, bel⟩ => ?_
  subst he
  exact ⟨_, rfl, _, _, _, [], _, [], hW', trodAll_mk1 (shut_bool Tryz.underlying4 _), (trodAll_cons_mk (Below.trod laidOut (by kernel_rfl) (of_decide_eq_true (by kernel_rfl)) k0 bel lt0) (trodAll_cons_mk (Below.trod laidOut (by kernel_rfl) (of_decide_eq_true (by kernel_rfl)) k1 bel lt1) (trodAll_cons_mk (Below.trod laidOut (by kernel_rfl) (of_decide_eq_true (by kernel_rfl)) k2 bel lt2) (trodAll_cons_mk (Below.trod laidOut (by kernel_rfl) (of_decide_eq_true (by kernel_rfl)) k3 bel lt3) trodAll_mk0)))), rfl, bel.frame _, fun h => by cases h⟩
theorem fnExactMoveIn_holds : Rows.FnExactMoveInSaid :=
  OpenClaim.holds_of_wide 3 Tryz.f3 rfl rfl rfl rfl rfl rfl rfl ⟨rfl, rfl, rfl, rfl, rfl⟩ rfl rfl rfl rfl rfl (by kernel_rfl) Tryz.func3 (by kernel_rfl)
    (of_decide_eq_true (by kernel_rfl)) (by unfold Func.isWrapper; first | (rw [if_pos (by decide +kernel)]; kernel_rfl) | (rw [if_neg (by decide +kernel)]; exact ⟨rfl, rfl⟩))
    (fun os started H enc _ => lifted os started H enc)
#print axioms fnExactMoveIn_holds
end Go.Proofs.YtmifhlkcceafkaaGreat
