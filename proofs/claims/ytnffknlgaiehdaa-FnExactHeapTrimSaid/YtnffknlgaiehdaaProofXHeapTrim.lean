/-
  Proved: whatever program and heap are handed in, the law FnExactHeapTrim returns true, and both arguments read afterwards as they read before. No condition of our own.
-/
import Derived.Test.YtnffknlgaiehdaaRows
import Derived.Test.YtnffknlgaiehdaaLawXHeapTrim
import Derived.Test.YtnffknlgaiehdaaOpen
import Derived.ProofKit
import Derived.OpenShut

namespace Go.Proofs.Ytnffknlgaiehdaa
open Go.ChangeShapes Go.WideShapes Go.ChangeAt Go.RowKit
theorem own : ownKnob Try.prog.godebug = none := by kernel_rfl
theorem laidOut : laidOutB Try.prog = true := by kernel_rfl
theorem Try.cellsA : Try.prog.cellsOf 123 = 2 := by kernel_rfl
theorem Try.cellsB : Try.prog.cellsOf 80 = 3 := by kernel_rfl
theorem Try.cellsC : Try.prog.cellsOf 24 = 1 := by kernel_rfl
theorem Try.cellsD : Try.prog.cellsOf 78 = 1 := by kernel_rfl
theorem Try.cellsE : Try.prog.cellsOf 22 = 1 := by kernel_rfl
theorem Try.cellsF : Try.prog.cellsOf 28 = 5 := by kernel_rfl
theorem Try.cellsG : Try.prog.cellsOf 25 = 1 := by kernel_rfl
theorem Try.cellsH : Try.prog.cellsOf 83 = 6 := by kernel_rfl
theorem Try.cellsJ : Try.prog.cellsOf 26 = 1 := by kernel_rfl
theorem Try.cellsK : Try.prog.cellsOf 97 = 2 := by kernel_rfl
theorem Try.cellsL : Try.prog.cellsOf 4 = 1 := by kernel_rfl
theorem Try.cellsI : Try.prog.cellsOf 3 = 1 := by kernel_rfl
set_option maxRecDepth 100000 in
theorem open_prog {H : Type} {enc : TypeId × Value → H} {W : World} {base : Nat} {v : Value} {d : DataW H} {p : List MemPlace} (hv : Value.okWide Try.prog W .any base 24 v)
    (h : DataW.Trod enc Try.prog W 0 (fun _ => true) true 24 v d p) : ∃ u ms, v = .agg #[u] ∧ MethsAt W u ms := by
  obtain ⟨cs, rfl, hsz⟩ := okWide_struct Try.underlying24 hv
  rw [Try.cellsC] at hsz
  obtain ⟨l⟩ := cs
  match l, hsz with
  | [u], _ =>
    obtain ⟨fuel, hf⟩ := h
    obtain ⟨y0, n, _, _, h0⟩ := trod_struct1 Try.underlying24 hf
    have h0' : DataW.trod enc Try.prog W 0 (fun _ => true) true n 22 [u] = some y0 := by simpa [Value.cells, Try.cellsE] using h0
    obtain ⟨ms, hms⟩ := methsAt_of Try.underlying22 Try.underlying80 Try.cellsB rfl rfl rfl Try.cellsI Try.cellsI Try.cellsD Try.underlying3 Try.underlying3 rfl
      Try.underlying78 Try.underlying123 Try.cellsA rfl rfl Try.cellsI Try.cellsI Try.underlying3 Try.underlying3 h0'
    exact ⟨u, ms, rfl, hms⟩
set_option maxRecDepth 100000 in
theorem open_heap {H : Type} {enc : TypeId × Value → H} {W : World} {base : Nat} {v : Value} {d : DataW H} {p : List MemPlace} (hv : Value.okWide Try.prog W .any base 28 v)
    (h : DataW.Trod enc Try.prog W 0 (fun _ => true) true 28 v d p) : ∃ vc vs h, v = .agg (hpCells vc vs h) ∧ HeapAt W vc vs h := by
  obtain ⟨cs, rfl, hsz⟩ := okWide_struct Try.underlying28 hv
  rw [Try.cellsF] at hsz
  obtain ⟨l⟩ := cs
  match l, hsz with
  | [u0, u1, u2, u3, u4], _ =>
    obtain ⟨fuel, hf⟩ := h
    obtain ⟨n, _, hx⟩ := trod_fields Try.underlying28 hf
    obtain ⟨y0, r0⟩ := hx 0 _ rfl
    obtain ⟨y1, r1⟩ := hx 1 _ rfl
    obtain ⟨y2, r2⟩ := hx 2 _ rfl
    obtain ⟨y3, r3⟩ := hx 3 _ rfl
    obtain ⟨y4, r4⟩ := hx 4 _ rfl
    have s0 : DataW.trod enc Try.prog W 0 (fun _ => true) true n 25 [u0] = some y0 := by simpa [Value.cells, Try.cellsG] using r0
    have s1 : DataW.trod enc Try.prog W 0 (fun _ => true) true n 3 [u1] = some y1 := by simpa [Value.cells, Try.cellsI] using r1
    have s2 : DataW.trod enc Try.prog W 0 (fun _ => true) true n 3 [u2] = some y2 := by simpa [Value.cells, Try.cellsI] using r2
    have s3 : DataW.trod enc Try.prog W 0 (fun _ => true) true n 26 [u3] = some y3 := by simpa [Value.cells, Try.cellsJ] using r3
    have s4 : DataW.trod enc Try.prog W 0 (fun _ => true) true n 3 [u4] = some y4 := by simpa [Value.cells, Try.cellsI] using r4
    obtain ⟨n1, e1, _, _⟩ := DataW.trod_int Try.underlying3 s1
    obtain ⟨n2, e2, _, _⟩ := DataW.trod_int Try.underlying3 s2
    obtain ⟨n4, e4, _, _⟩ := DataW.trod_int Try.underlying3 s4
    obtain ⟨cs, hcs⟩ := callsAt_of Try.underlying25 Try.underlying83 Try.cellsH rfl rfl rfl rfl rfl rfl Try.cellsI Try.cellsI Try.cellsJ Try.cellsJ Try.cellsI Try.cellsL Try.underlying3 Try.underlying3 rfl rfl
      Try.underlying3 Try.underlying4 Try.underlying26 Try.underlying97 Try.cellsK rfl rfl Try.cellsI Try.cellsI Try.underlying3 Try.underlying3 s0
    obtain ⟨sd, hsd⟩ := opsAt_of Try.underlying26 Try.underlying97 Try.cellsK rfl rfl Try.cellsI Try.cellsI Try.underlying3 Try.underlying3 s3
    simp only [List.cons.injEq, and_true] at e1 e2 e4
    subst e1 e2 e4
    exact ⟨u0, u3, ⟨cs, n1, n2, sd, n4⟩, rfl, hcs, hsd⟩
set_option maxRecDepth 100000 in
theorem lifted (os : Os) (started : os.Started) (H : Type) (enc : TypeId × Value → H) :
    ReturnsInHanded {} Try.checked os 3 .any (Rows.fnExactHeapTrimSpec.pre6 enc Try.prog Try.f3 Rows.fnExactHeapTrimRow.domain false) (Rows.fnExactHeapTrimSpec.post enc Try.prog Try.f3 false true false false) := by
  refine returnsInHanded_of_change (C := Try.checked) own started (by kernel_rfl) Try.func3
    (ChangeSpec.witness6 (enc := enc) (C := Try.checked) false ⟨#[], #[.agg #[.slice none 0 0], .agg #[.slice none 0 0, .int .i64 0, .int .i64 0, .slice none 0 0, .int .i64 0]], []⟩ 8 (by kernel_rfl) (by kernel_rfl) (by kernel_rfl) (by kernel_rfl)) ?_
  intro W base args ds gs before hval0 hW _ _
  have hval : ∀ (j : Nat) t v, Try.f3.params[j]? = some t → args[j]? = some v → Value.okWide Try.prog W .any base t v := hval0
  have hW' := hW
  obtain ⟨p, q, hA0, hV, rfl, _, _⟩ := hW
  have hA : DataW.TrodAll enc Try.prog W 0 (fun _ => true) true Try.f3.params.toList args.toList ds p := hA0
  rw [Try.params3] at hA hval
  obtain ⟨v0, vs0, d0, ds0, p0, q0, hargs, rfl, rfl, h0, r0⟩ := trodAll_cons hA
  obtain ⟨v1, vs1, d1, ds1, p1, q1, hargs1, rfl, rfl, h1, r1⟩ := trodAll_cons r0
  obtain ⟨rfl, rfl, rfl⟩ := trodAll_nil r1
  obtain rfl : args = #[v0, v1] := by cases args; simp_all
  obtain ⟨rfl, rfl⟩ := trodVars_none hV
  have k0 := h0
  have k1 := h1
  have lt0 : ∀ x ∈ p0, x.block < W.heap.size := by obtain ⟨m, hm⟩ := k0; exact DataW.trod_lt m _ _ _ hm
  have lt1 : ∀ x ∈ p1, x.block < W.heap.size := by obtain ⟨m, hm⟩ := k1; exact DataW.trod_lt m _ _ _ hm
  obtain ⟨u, ms, rfl, hms⟩ := open_prog (hval 0 24 v0 rfl rfl) h0
  obtain ⟨vc, vs, hp, rfl, hhp⟩ := open_heap (hval 1 28 v1 rfl rfl) h1
  clear hA0 hval0
  refine (lawTrim_any u vc vs ms hp W hms hhp).mono fun e W' ⟨he, bel⟩ => ?_
  subst he
  exact ⟨_, rfl, _, _, _, [], _, [], hW', trodAll_mk1 (shut_bool Try.underlying4 _), (trodAll_cons_mk (Below.trod laidOut (by kernel_rfl) (of_decide_eq_true (by kernel_rfl)) k0 bel lt0) (trodAll_cons_mk (Below.trod laidOut (by kernel_rfl) (of_decide_eq_true (by kernel_rfl)) k1 bel lt1) trodAll_mk0)), rfl, bel.frame _, fun h => by cases h⟩
theorem fnExactHeapTrim_holds : Rows.FnExactHeapTrimSaid :=
  OpenClaim.holds_of_wide 3 Try.f3 rfl rfl rfl rfl rfl rfl rfl ⟨rfl, rfl, rfl, rfl, rfl⟩ rfl rfl rfl rfl rfl (by kernel_rfl) Try.func3 (by kernel_rfl)
    (of_decide_eq_true (by kernel_rfl)) (by unfold Func.isWrapper; first | (rw [if_pos (by decide +kernel)]; kernel_rfl) | (rw [if_neg (by decide +kernel)]; exact ⟨rfl, rfl⟩))
    (fun os started H enc _ => lifted os started H enc)
#print axioms fnExactHeapTrim_holds
end Go.Proofs.Ytnffknlgaiehdaa
