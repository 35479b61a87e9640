/-
  What MachNew answers, of the model and of the program: the machine that a program begins with, or nothing.
-/
import Derived.Test.YtldiccheboipeaaMNewS
import Derived.Test.YtldiccheboipeaaMRowF
namespace Go.Proofs.Ytldiccheboipeaa
open Go.RowKit

def zeroMc : Mc := ⟨0, [], [], 0, [], 0, [], 0⟩

theorem zero_at (w : World) : MachAt w (.slice none 0 0) (.slice none 0 0) (.slice none 0 0) (.slice none 0 0) zeroMc :=
  ⟨⟨none, 0, rfl, Nat.zero_le _, fun _ h => absurd h (Nat.not_lt_zero _)⟩, ⟨none, 0, rfl, Nat.zero_le _, fun _ h => absurd h (Nat.not_lt_zero _)⟩, TwinsAt.nil w, ops_nil w none 0⟩

theorem NewM.at {B : Nat} {w : World} {n t gp op cp gf : Nat} {vo vt : Value} {c : Int} (h : NewM B w n t (.slice (some ⟨gp, op, none⟩) n cp) vo gf vt (.slice none 0 0)) (hn1 : 1 ≤ n) (hn : n ≤ 4) : MachAt w (.slice (some ⟨gp, op, none⟩) n cp) vo (.slice none 0 0) (.slice none 0 0) (newMc n t c) := by
  have hpl : (newPages n t).length = n := by simp [newPages]
  refine ⟨⟨_, cp, by rw [show (newMc n t c).pages.length = n from hpl], by rw [show (newMc n t c).pages.length = n from hpl]; unfold maxLen; omega, fun i hi => ?_⟩, h.o.at, TwinsAt.nil w, ops_nil w none 0⟩
  have hin : i < n := by rw [← hpl]; exact hi
  have ev : (newMc n t c).pages[i] = ⟨-1, if i = 0 then [⟨0, 0, -1, List.replicate t (0, 0), []⟩] else []⟩ := by simp [newMc, newPages]
  rw [ev]
  have hp := h.p
  rw [rowF_new _ _ hn1] at hp
  obtain ⟨e0, e1⟩ := rowF_at (fun _ => -1) (.slice (some ⟨gf, 0, none⟩) 1 1) n i hin
  have c0 := (hp.cell e0).1
  have c1 := (hp.cell e1).1
  rw [← Nat.add_assoc] at c1
  refine ⟨gp, op, _, rfl, c0, c1, ?_⟩
  by_cases h0 : i = 0
  · simp only [if_pos h0]
    refine ⟨_, 1, rfl, by unfold maxLen; simp, fun j hj => ?_⟩
    obtain rfl : j = 0 := by simpa using hj
    exact ⟨gf, 0, vt, .slice none 0 0, rfl, h.f.cell 0 rfl, h.f.cell 1 rfl, h.f.cell 2 rfl, h.f.cell 3 rfl, h.f.cell 4 rfl, h.t.at, ops_nil w none 0⟩
  · simp only [if_neg h0]
    exact FramesAt.nil w

/-- what MachNew answers -/
def newAns (ms : List (Int × Int × List (Int × Int))) (r c : Int) : Mc := if (progOk ms && roomsB r c) = true then newMc r.toNat (temps0 ms) c else zeroMc

theorem specMachNew_ans (vp : Value) (ms : List (Int × Int × List (Int × Int))) (r c : Int) (w : World) (h : MethsAt w vp ms) :
    Calls Try.prog 8 #[.agg #[vp], .int .i64 r, .int .i64 c] w fun e w' => ∃ v1 v2 v3 v4, e = .returned (.tuple #[.agg (mcCells v1 v2 v3 v4 (newAns ms r c)).toArray, .bool (progOk ms && roomsB r c)]) ∧ From w.heap.size w' (fun z => MachAt z v1 v2 v3 v4 (newAns ms r c)) ∧ Below w.heap.size w w' := by
  refine (specMachNew_any vp ms r c w h).mono ?_
  rintro e w' ⟨hb, ⟨h0, rfl⟩ | ⟨h1, v, vo, vt, vs, rfl, hN⟩⟩
  · have e1 : newAns ms r c = zeroMc := by unfold newAns; rw [h0]; rfl
    exact ⟨_, _, _, _, by rw [e1, h0]; rfl, by rw [e1]; exact fun z _ _ => zero_at z, hb⟩
  · have e1 : newAns ms r c = newMc r.toNat (temps0 ms) c := by unfold newAns; rw [if_pos h1]
    exact ⟨_, _, _, _, by rw [e1, h1]; rfl, by rw [e1]; exact hN, hb⟩

theorem implMachNew_here (vp : Value) (ms : List (Int × Int × List (Int × Int))) (r c : Int) (w : World) (h : MethsAt w vp ms) :
    Calls Try.prog 9 #[.agg #[vp], .int .i64 r, .int .i64 c] w fun e w' => ∃ v1 v2 v3 v4, e = .returned (.tuple #[.agg (mcCells v1 v2 v3 v4 (newAns ms r c)).toArray, .bool (progOk ms && roomsB r c)]) ∧ MachAt w' v1 v2 v3 v4 (newAns ms r c) ∧ Below w.heap.size w w' := by
  refine (implMachNew_any vp ms r c w h).mono ?_
  rintro e w' ⟨hb, ⟨h0, rfl⟩ | ⟨h1, v, vo, gf, vt, vs, rfl, hN⟩⟩
  · have e1 : newAns ms r c = zeroMc := by unfold newAns; rw [h0]; rfl
    exact ⟨_, _, _, _, by rw [e1, h0]; rfl, by rw [e1]; exact zero_at _, hb⟩
  · obtain ⟨_, hr⟩ := Bool.and_eq_true_iff.1 h1
    obtain ⟨hr1, hr4, _, _⟩ := roomsB_true hr
    have e1 : newAns ms r c = newMc r.toNat (temps0 ms) c := by unfold newAns; rw [if_pos h1]
    obtain ⟨gp, op, cp, hv, _, _⟩ := hN.p.form (by omega)
    have hsn := hN.sn
    subst hv hsn
    exact ⟨_, _, _, _, by rw [e1, h1]; rfl, by rw [e1]; exact hN.at (by omega) (by omega), hb⟩

end Go.Proofs.Ytldiccheboipeaa
