/-
  Proved: whatever machine is handed in, the law FnExactMachFrames returns true, and its argument reads afterwards as it read before. No condition of our own.
-/
import Derived.Test.YtldiccheboipeaaRows
import Derived.Test.YtldiccheboipeaaLawMachFrames
import Derived.Test.YtldiccheboipeaaOpenMach
import Derived.ProofKit
import Derived.OpenShut
namespace Go.Proofs.Ytldiccheboipeaa
open Go.ChangeShapes Go.WideShapes Go.ChangeAt Go.RowKit

theorem own : ownKnob Try.prog.godebug = none := by kernel_rfl
theorem laidOut : laidOutB Try.prog = true := by kernel_rfl

theorem Try.cellsM : Try.prog.cellsOf 67 = 8 := by kernel_rfl
theorem Try.cellsPS : Try.prog.cellsOf 63 = 1 := by kernel_rfl
theorem Try.cellsPg : Try.prog.cellsOf 163 = 2 := by kernel_rfl
theorem Try.cellsFS : Try.prog.cellsOf 161 = 1 := by kernel_rfl
theorem Try.cellsFr : Try.prog.cellsOf 221 = 5 := by kernel_rfl
theorem Try.cellsTS : Try.prog.cellsOf 64 = 1 := by kernel_rfl
theorem Try.cellsTw : Try.prog.cellsOf 168 = 8 := by kernel_rfl
theorem Try.cellsH : Try.prog.cellsOf 166 = 6 := by kernel_rfl
theorem Try.cellsIS : Try.prog.cellsOf 29 = 1 := by kernel_rfl
theorem Try.cellsJ : Try.prog.cellsOf 65 = 1 := by kernel_rfl
theorem Try.cellsK : Try.prog.cellsOf 172 = 2 := by kernel_rfl
theorem Try.cellsL : Try.prog.cellsOf 4 = 1 := by kernel_rfl
theorem Try.cellsI : Try.prog.cellsOf 3 = 1 := by kernel_rfl

set_option maxRecDepth 100000 in
/-- a machine that came in, opened -/
theorem open_mach {H : Type} {enc : TypeId × Value → H} {W : World} {base : Nat} {v : Value} {d : DataW H} {p : List MemPlace} (hv : Value.okWide Try.prog W .any base 67 v)
    (h : DataW.Trod enc Try.prog W 0 (fun _ => true) true 67 v d p) : ∃ vp vo vt vs m, v = .agg (mcCells vp vo vt vs m).toArray ∧ MachAt W vp vo vt vs m := by
  obtain ⟨cs, rfl, hsz⟩ := okWide_struct Try.underlying67 hv
  rw [Try.cellsM] at hsz
  obtain ⟨l⟩ := cs
  match l, hsz with
  | [u0, u1, u2, u3, u4, u5, u6, u7], _ =>
    obtain ⟨fuel, hf⟩ := h
    obtain ⟨n, _, hx⟩ := trod_fields Try.underlying67 hf
    obtain ⟨y0, r0⟩ := hx 0 _ rfl
    obtain ⟨y1, r1⟩ := hx 1 _ rfl
    obtain ⟨y2, r2⟩ := hx 2 _ rfl
    obtain ⟨y3, r3⟩ := hx 3 _ rfl
    obtain ⟨y4, r4⟩ := hx 4 _ rfl
    obtain ⟨y5, r5⟩ := hx 5 _ rfl
    obtain ⟨y6, r6⟩ := hx 6 _ rfl
    obtain ⟨y7, r7⟩ := hx 7 _ rfl
    have s0 : DataW.trod enc Try.prog W 0 (fun _ => true) true n 3 [u0] = some y0 := by simpa [Value.cells, Try.cellsI] using r0
    have s1 : DataW.trod enc Try.prog W 0 (fun _ => true) true n 63 [u1] = some y1 := by simpa [Value.cells, Try.cellsPS] using r1
    have s2 : DataW.trod enc Try.prog W 0 (fun _ => true) true n 29 [u2] = some y2 := by simpa [Value.cells, Try.cellsIS] using r2
    have s3 : DataW.trod enc Try.prog W 0 (fun _ => true) true n 3 [u3] = some y3 := by simpa [Value.cells, Try.cellsI] using r3
    have s4 : DataW.trod enc Try.prog W 0 (fun _ => true) true n 64 [u4] = some y4 := by simpa [Value.cells, Try.cellsTS] using r4
    have s5 : DataW.trod enc Try.prog W 0 (fun _ => true) true n 3 [u5] = some y5 := by simpa [Value.cells, Try.cellsI] using r5
    have s6 : DataW.trod enc Try.prog W 0 (fun _ => true) true n 65 [u6] = some y6 := by simpa [Value.cells, Try.cellsJ] using r6
    have s7 : DataW.trod enc Try.prog W 0 (fun _ => true) true n 3 [u7] = some y7 := by simpa [Value.cells, Try.cellsI] using r7
    obtain ⟨n0, e0, _, _⟩ := DataW.trod_int Try.underlying3 s0
    obtain ⟨n3, e3, _, _⟩ := DataW.trod_int Try.underlying3 s3
    obtain ⟨n5, e5, _, _⟩ := DataW.trod_int Try.underlying3 s5
    obtain ⟨n7, e7, _, _⟩ := DataW.trod_int Try.underlying3 s7
    have T : VTy Try.prog 65 172 _ _ := ⟨Try.underlying65, Try.underlying172, Try.cellsK, rfl, rfl, Try.cellsI, Try.cellsI, Try.underlying3, Try.underlying3, Try.cellsJ⟩
    obtain ⟨ps, hps⟩ := pagesAt_of T Try.underlying63 Try.underlying163 Try.cellsPg Try.cellsI Try.underlying3 ⟨rfl, rfl⟩ ⟨rfl, rfl⟩ Try.cellsFS Try.underlying161 Try.underlying221 Try.cellsFr ⟨rfl, rfl, rfl, rfl, rfl⟩ ⟨rfl, rfl, rfl, rfl, rfl⟩ s1
    obtain ⟨os, hos⟩ := intsAt_of Try.underlying29 Try.cellsI Try.underlying3 s2
    obtain ⟨ts, hts⟩ := twinsAt_of T Try.underlying64 Try.underlying168 Try.cellsTw Try.cellsI Try.underlying3 Try.cellsL Try.underlying4 ⟨rfl, rfl, rfl⟩ ⟨rfl, rfl, rfl⟩ Try.cellsH Try.underlying166 ⟨rfl, rfl, rfl, rfl, rfl, rfl⟩ ⟨rfl, rfl, rfl, rfl, rfl, rfl⟩ s4
    obtain ⟨sd, hsd⟩ := T.read s6
    simp only [List.cons.injEq, and_true] at e0 e3 e5 e7
    subst e0 e3 e5 e7
    exact ⟨u1, u2, u4, u6, ⟨n0, ps, os, n3, ts, n5, sd, n7⟩, rfl, hps, hos, hts, hsd⟩

set_option maxRecDepth 100000 in
theorem lifted (os : Os) (started : os.Started) (H : Type) (enc : TypeId × Value → H) :
    ReturnsInHanded {} Try.checked os 6 .any (Rows.fnExactMachFramesSpec.pre6 enc Try.prog Try.f6 Rows.fnExactMachFramesRow.domain false) (Rows.fnExactMachFramesSpec.post enc Try.prog Try.f6 false true false false) := by
  refine returnsInHanded_of_change (C := Try.checked) own started (by kernel_rfl) Try.func6
    (ChangeSpec.witness6 (enc := enc) (C := Try.checked) false ⟨#[], #[.agg #[.int .i64 0, .slice none 0 0, .slice none 0 0, .int .i64 0, .slice none 0 0, .int .i64 0, .slice none 0 0, .int .i64 0]], []⟩ 8 (by kernel_rfl) (by kernel_rfl) (by kernel_rfl) (by kernel_rfl)) ?_
  intro W base args ds gs before hval0 hW _ _
  have hval : ∀ (j : Nat) t v, Try.f6.params[j]? = some t → args[j]? = some v → Value.okWide Try.prog W .any base t v := hval0
  have hW' := hW
  obtain ⟨p, q, hA0, hV, rfl, _, _⟩ := hW
  have hA : DataW.TrodAll enc Try.prog W 0 (fun _ => true) true Try.f6.params.toList args.toList ds p := hA0
  rw [Try.params6] at hA hval
  obtain ⟨v0, vs0, d0, ds0, p0, q0, hargs, rfl, rfl, h0, r0⟩ := trodAll_cons hA
  obtain ⟨rfl, rfl, rfl⟩ := trodAll_nil r0
  obtain rfl : args = #[v0] := by cases args; simp_all
  obtain ⟨rfl, rfl⟩ := trodVars_none hV
  have k0 := h0
  have lt0 : ∀ x ∈ p0, x.block < W.heap.size := by obtain ⟨m, hm⟩ := k0; exact DataW.trod_lt m _ _ _ hm
  obtain ⟨vp, vo, vt, vs, m, rfl, hm⟩ := open_mach (hval 0 67 v0 rfl rfl) h0
  clear hA0 hval0
  refine (law_any vp vo vt vs m W hm).mono fun e W' ⟨he, bel⟩ => ?_
  subst he
  exact ⟨_, rfl, _, _, _, [], _, [], hW', trodAll_mk1 (shut_bool Try.underlying4 _), (trodAll_cons_mk (Below.trod laidOut (by kernel_rfl) (of_decide_eq_true (by kernel_rfl)) k0 bel lt0) trodAll_mk0), rfl, bel.frame _, fun h => by cases h⟩

theorem fnExactMachFrames_holds : Rows.FnExactMachFramesSaid :=
  OpenClaim.holds_of_wide 6 Try.f6 rfl rfl rfl rfl rfl rfl rfl ⟨rfl, rfl, rfl, rfl, rfl⟩ rfl rfl rfl rfl rfl (by kernel_rfl) Try.func6 (by kernel_rfl)
    (of_decide_eq_true (by kernel_rfl)) (by unfold Func.isWrapper; first | (rw [if_pos (by decide +kernel)]; kernel_rfl) | (rw [if_neg (by decide +kernel)]; exact ⟨rfl, rfl⟩))
    (fun os started H enc _ => lifted os started H enc)

#print axioms fnExactMachFrames_holds

end Go.Proofs.Ytldiccheboipeaa
