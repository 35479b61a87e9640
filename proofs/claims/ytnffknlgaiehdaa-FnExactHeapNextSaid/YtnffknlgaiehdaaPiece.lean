/-
  A piece of a row of values; one operation of a heap, case by case.
-/
import Derived.Test.YtnffknlgaiehdaaStepT
import Derived.Test.YtnffknlgaiehdaaVals
import Derived.Test.YtnffknlgaiehdaaTakes2
namespace Go.Proofs.Ytnffknlgaiehdaa
open Go.RowKit

/-- a box of one cell -/
theorem box_row (w : World) (t : TypeId) (x : Value) : (w.alloc (.cells #[x] t)).rowIs w.heap.size t 1 (fun _ => x) :=
  ⟨_, Go.Deep.blk_alloc_new _ _, rfl, fun i hi => by match i, hi with | 0, _ => rfl⟩

theorem setH_now {h : Hp} {j : Nat} (hn : h.now = j) (c : Cl) : setH h c = { h with calls := h.calls.set j c } := by
  unfold setH
  rw [hn, Int.toNat_natCast]

theorem val_from (w : World) (a : Option Addr) (n cap k : Nat) (hk : k ≤ n) : (Instr.slice 32 (.slice a n cap) (some (.int .i64 (k : Int))) none none).run Try.prog w = .ok (sliced a k n cap 2) w := by
  have hs : ∀ w, (sizeOf (Try.prog.elem 32)).run Try.prog w = .ok 2 w := fun w => by kernel_rfl
  rw [run_slice_l w 32 a n cap (by kernel_rfl) .i64 k (by omega) (by omega)]
  simp [hs, Result.andThen]

theorem val_to (w : World) (a : Option Addr) (n cap k : Nat) (hk : k ≤ cap) : (Instr.slice 32 (.slice a n cap) none (some (.int .i64 (k : Int))) none).run Try.prog w = .ok (sliced a 0 k cap 2) w := by
  have hs : ∀ w, (sizeOf (Try.prog.elem 32)).run Try.prog w = .ok 2 w := fun w => by kernel_rfl
  rw [run_slice_h w 32 a n cap (by kernel_rfl) .i64 k (by omega) (by omega)]
  simp [hs, Result.andThen]

/-- a piece of values -/
theorem PairRow.piece {B : Nat} {w : World} {a : Option Addr} {n cap : Nat} {xs : List (Int × Int)} (h : PairRow B w (.slice a n cap) xs) {l k : Nat} (hl : l ≤ k) (hk : k ≤ xs.length) : OpsAt w (sliced a l k cap 2) ((xs.take k).drop l) ∧ k ≤ cap := by
  rcases h with ⟨h0, rfl⟩ | ⟨g, off, cp, hv, hB, hg, hlc, hc, hsp, hx⟩
  · injection h0 with e1 e2 e3
    subst e1 e2 e3
    obtain rfl : k = 0 := by simpa using hk
    obtain rfl : l = 0 := by omega
    exact ⟨⟨_, _, rfl, by simp, fun i hi => absurd hi (by simp)⟩, Nat.le_refl _⟩
  · injection hv with e1 e2 e3
    subst e1 e2 e3
    refine ⟨?_, by omega⟩
    have hlen : ((xs.take k).drop l).length = k - l := by simp; omega
    by_cases e : l = cap
    · have hkl : k - l = 0 := by omega
      have hn : (xs.take k).drop l = [] := List.eq_nil_of_length_eq_zero (by omega)
      rw [hn]
      unfold sliced
      exact ⟨_, _, by rw [List.length_nil, ← hkl], by simp, fun i hi => absurd hi (by simp)⟩
    · unfold sliced
      refine ⟨_, _, by rw [hlen], by rw [hlen]; unfold maxLen at *; omega, fun i hi => ?_⟩
      rw [hlen] at hi
      have hi2 : l + i < xs.length := by omega
      obtain ⟨y0, y1⟩ := hx (l + i) hi2
      refine ⟨g, off + l * 2, ?_, ?_, ?_⟩
      · rw [if_neg (by omega)]
        simp [Addr.add]
      · rw [show off + l * 2 + i * 2 = off + (l + i) * 2 by omega, y0]
        simp
      · rw [show off + l * 2 + i * 2 + 1 = off + (l + i) * 2 + 1 by omega, y1]
        simp

/-- a row of values that is cut -/
theorem PairRow.cutTo {B : Nat} {w : World} {a : Option Addr} {n cap : Nat} {xs : List (Int × Int)} (h : PairRow B w (.slice a n cap) xs) {k : Nat} (hk : k ≤ xs.length) : PairRow B w (.slice a k cap) (xs.take k) := by
  rcases h with ⟨h0, rfl⟩ | ⟨g, off, cp, hv, hB, hg, hlc, hc, hsp, hx⟩
  · injection h0 with e1 e2 e3
    subst e1 e2 e3
    obtain rfl : k = 0 := by simpa using hk
    exact .inl ⟨rfl, by simp⟩
  · injection hv with e1 e2 e3
    subst e1 e2 e3
    have hl : (xs.take k).length = k := by simp; omega
    refine .inr ⟨g, off, cap, by rw [hl], hB, hg, by omega, hc, hsp, fun i hi => ?_⟩
    have hi' : i < xs.length := by omega
    rw [List.getElem_take]
    exact hx i hi'

theorem takes_bound {ms : Ms} (hp : progOk ms = true) (kk a : Int) : (0 ≤ (takesOf ms kk a).1 ∧ (takesOf ms kk a).1 ≤ 2) ∧ 0 ≤ (takesOf ms kk a).2 ∧ (takesOf ms kk a).2 ≤ 1 := by
  unfold takesOf
  split
  · split
    · rename_i q
      rw [inR_true] at q
      have hq : a.toNat < ms.length := by omega
      rw [getD_at hq]
      have := (prog_meth hp hq).args
      simp only []
      omega
    · decide
  · simp only []
    unfold tk lv
    refine ⟨?_, ?_⟩
    · split
      · decide
      · split <;> decide
    · split <;> decide

theorem stepH_past {ms : Ms} {h : Hp} {j m pc : Nat} (hn : h.now = j) (hj : j < h.calls.length) (hm : h.calls[j].m = m) (hpc : h.calls[j].pc = pc) (hml : m < ms.length) (hl : ms[m].2.2.length ≤ pc) : stepH ms h = { h with code := 2 } := by
  unfold stepH
  simp only [cur_at hn hj, hm, hpc, Int.toNat_natCast, getD_at hml]
  rw [if_pos (by omega)]
  rfl

theorem opNext_at {ms : Ms} {h : Hp} {j m pc : Nat} (hj : j < h.calls.length) (hm : h.calls[j].m = m) (hpc : h.calls[j].pc = pc) (hml : m < ms.length) (hpl : pc < ms[m].2.2.length) : opNext ms h.calls[j] = ms[m].2.2[pc] := by
  unfold opNext
  rw [hm, hpc, Int.toNat_natCast, Int.toNat_natCast, getD_at hml, getD_at hpl]

theorem stepH_at {ms : Ms} {h : Hp} {j m pc : Nat} (hn : h.now = j) (hj : j < h.calls.length) (hm : h.calls[j].m = m) (hpc : h.calls[j].pc = pc) (hml : m < ms.length) (hpl : pc < ms[m].2.2.length) {kk a t l : Int} (ho : ms[m].2.2[pc] = (kk, a)) (ht : takesOf ms kk a = (t, l)) :
    stepH ms h = if (h.calls[j].stack.length : Int) - t < 0 ∨ 6 < (h.calls[j].stack.length : Int) - t + l then { h with code := 2 }
      else if kindsOk kk (h.calls[j].stack.drop ((h.calls[j].stack.length : Int) - t).toNat) = false then { h with code := 2 }
      else doH ms { h with calls := h.calls.set j { h.calls[j] with stack := h.calls[j].stack.take ((h.calls[j].stack.length : Int) - t).toNat, pc := (pc : Int) + 1 } } kk a (h.calls[j].stack.drop ((h.calls[j].stack.length : Int) - t).toNat) := by
  unfold stepH
  simp only [cur_at hn hj, opNext_at hj hm hpc hml hpl, ho, ht]
  rw [hm, Int.toNat_natCast, getD_at hml, if_neg (by rw [hpc]; omega), setH_now hn, hpc]
  rfl

theorem doing_at {ms : Ms} {h : Hp} {j m pc : Nat} (hg : Good ms h) (hc : h.code = 0) (hn : h.now = j) (hj : j < h.calls.length) (hm : h.calls[j].m = m) (hpc : h.calls[j].pc = pc) (hml : m < ms.length) (hpl : pc < ms[m].2.2.length) {kk a t l : Int} (ho : ms[m].2.2[pc] = (kk, a)) (ht : takesOf ms kk a = (t, l))
    (h2 : ¬ ((h.calls[j].stack.length : Int) - t < 0 ∨ 6 < (h.calls[j].stack.length : Int) - t + l)) (h3 : kindsOk kk (h.calls[j].stack.drop ((h.calls[j].stack.length : Int) - t).toNat) = true) :
    Doing ms { h with calls := h.calls.set j { h.calls[j] with stack := h.calls[j].stack.take ((h.calls[j].stack.length : Int) - t).toNat, pc := (pc : Int) + 1 } } j kk a (h.calls[j].stack.drop ((h.calls[j].stack.length : Int) - t).toNat) := by
  have h1 : ¬ ((ms.getD (curC h).m.toNat (0, 0, [])).2.2.length : Int) ≤ (curC h).pc := by
    rw [cur_at hn hj, hm, Int.toNat_natCast, getD_at hml, hpc]
    omega
  have e : opNext ms (curC h) = (kk, a) := by rw [cur_at hn hj, opNext_at hj hm hpc hml hpl, ho]
  obtain ⟨j', d⟩ := hg.doing hc h1 (by rw [e]; simp only []; rw [ht, cur_at hn hj]; exact h2) (by rw [e]; simp only []; rw [ht, cur_at hn hj]; exact h3)
  rw [e] at d
  simp only [] at d
  rw [ht, cur_at hn hj, setH_now hn, hpc] at d
  have hjj : j' = j := by have := d.now; simp only [] at this; omega
  subst hjj
  exact d

end Go.Proofs.Ytnffknlgaiehdaa
