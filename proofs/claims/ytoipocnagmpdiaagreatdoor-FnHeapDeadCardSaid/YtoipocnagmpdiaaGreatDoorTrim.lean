import Derived.Test.YtoipocnagmpdiaaGreatDoorInts
import Derived.Test.YtoipocnagmpdiaaGreatDoorCRow
import Derived.Test.YtoipocnagmpdiaaGreatDoorHWait
import Derived.Laws.IdiomCopy
import Derived.Deep.RegionLaw
import Derived.Test.YtoipocnagmpdiaaGreatDoorVImpl4
import Derived.Test.YtoipocnagmpdiaaGreatDoorVSpec4
import Derived.Deep.RegionHeld3
import Derived.Test.YtoipocnagmpdiaaGreatDoorVApart
import Derived.Test.YtoipocnagmpdiaaGreatDoorNewFacts
import Derived.Test.YtoipocnagmpdiaaGreatDoorHImpl6
import Derived.Lib.MinMax

/-
  slices.Repeat of the one number -1, at most 30 times, as the program calls it: a row of its own.
-/
namespace Go.Proofs.YtoipocnagmpdiaaGreatDoor
open Go.RowKit

set_option maxRecDepth 100000 in
set_option maxHeartbeats 4000000 in
theorem mul64_one (n : Nat) (h : n ≤ 30) (w : World) : Calls Tryz.prog 111 #[.int .u64 1, .int .u64 n] w fun e w' => e = .returned (.tuple #[.int .u64 0, .int .u64 n]) ∧ w' = w := by
  have h31 : n = 0 ∨ n = 1 ∨ n = 2 ∨ n = 3 ∨ n = 4 ∨ n = 5 ∨ n = 6 ∨ n = 7 ∨ n = 8 ∨ n = 9 ∨ n = 10 ∨ n = 11 ∨ n = 12 ∨ n = 13 ∨ n = 14 ∨ n = 15 ∨ n = 16 ∨ n = 17 ∨ n = 18 ∨ n = 19 ∨ n = 20 ∨ n = 21 ∨ n = 22 ∨ n = 23 ∨ n = 24 ∨ n = 25 ∨ n = 26 ∨ n = 27 ∨ n = 28 ∨ n = 29 ∨ n = 30 := by omega
  clear h
  rcases h31 with rfl | rfl | rfl | rfl | rfl | rfl | rfl | rfl | rfl | rfl | rfl | rfl | rfl | rfl | rfl | rfl | rfl | rfl | rfl | rfl | rfl | rfl | rfl | rfl | rfl | rfl | rfl | rfl | rfl | rfl | rfl
  all_goals
    go_enter Tryz.func111, Tryz.ntmps111
    go_wp2
    go_ret2
    exact ⟨rfl, rfl⟩

theorem mul_one' (n : Nat) (h : n ≤ 30) (w : World) : Calls Tryz.prog 83 #[.int .u64 1, .int .u64 n] w fun e w' => e = .returned (.tuple #[.int .u64 0, .int .u64 n]) ∧ w' = w := by
  go_enter Tryz.func83, Tryz.ntmps83
  go_wp2_with (go_at_call 111; refine (mul64_one n h _).mono ?_; rintro e w' ⟨rfl, hw⟩; obtain rfl := hw.symm)
  go_ret2
  exact ⟨rfl, rfl⟩

/-- k times -1, then 0, n in all -/
def mix (k n : Nat) : List Int := (List.range n).map fun i => if i < k then -1 else 0

theorem mix_length (k n : Nat) : (mix k n).length = n := by simp [mix]
theorem mix_at (k n i : Nat) (h : i < (mix k n).length) : (mix k n)[i] = if i < k then -1 else 0 := by simp [mix]
theorem mix_full (n : Nat) : mix n n = List.replicate n (-1) := by
  refine List.ext_getElem (by simp [mix]) fun i h1 h2 => ?_
  rw [mix_at]
  simp at h2
  simp [h2]

/-- the row as it is made -/
theorem mix_made (w : World) (n : Nat) (t : TypeId) (h : n ≤ 1000) : IntRow w.heap.size (w.alloc (.cells (madeCells #[.int .i64 0] n) t)) (.slice (some ⟨w.heap.size, 0, none⟩) n n) (mix 0 n) := by
  have hblk := Go.Deep.blk_alloc_new w (.cells (madeCells #[.int .i64 0] n) t)
  refine .inr ⟨w.heap.size, 0, n, by rw [mix_length], Nat.le_refl _, by simp, by rw [mix_length]; exact Nat.le_refl _, by unfold maxLen; omega, fun j hj => ⟨?_, ?_⟩, fun j hj => ?_⟩
  · rw [cell_of_row _ _ _ _ _ _ hblk]
    simp [madeCells, hj]
  · unfold World.frozen?; rw [hblk]; simp
  · rw [cell_of_row _ _ _ _ _ _ hblk, mix_at]
    rw [mix_length] at hj
    simp [madeCells, hj, Nat.mod_one]

theorem setCells_below (B g : Nat) (hB : B ≤ g) : ∀ (vs : List Value) (o : Nat) (W : World), Below B W (W.setCells g o vs) := by
  intro vs
  induction vs with
  | nil => intro o W; exact Below.refl _ _
  | cons v r ih => intro o W; rw [World.setCells]; exact ((Below.refl B W).setCell (p := ⟨g, o, none⟩) hB v).trans (ih _ _)

/-- m more are laid over it -/
theorem mix_copied {B g k n m : Nat} {w : World} (h : IntRow B w (.slice (some ⟨g, 0, none⟩) n n) (mix k n)) (hm : k + m ≤ n) : IntRow B (w.setCells g k (List.replicate m (.int .i64 (-1)))) (.slice (some ⟨g, 0, none⟩) n n) (mix (k + m) n) := by
  rcases h with ⟨h, _⟩ | ⟨g', off', cap', hv, hB, hg, hl, hc, hsp, hx⟩
  · cases h
  · rw [mix_length] at hv
    cases hv
    have hin := World.cell?_setCells_in g (List.replicate m (.int .i64 (-1))) k w (fun j hj => by
      simp at hj
      have := (hsp (k + j) (by omega)).1
      rwa [Nat.zero_add] at this)
    refine .inr ⟨g, 0, n, by rw [mix_length], hB, by rw [setCells_size]; exact hg, by rw [mix_length]; exact Nat.le_refl _, hc, fun j hj => ?_, fun j hj => ?_⟩
    · rw [World.frozen?_setCells]
      refine ⟨?_, (hsp j hj).2⟩
      by_cases hi : k ≤ j ∧ j < k + m
      · have := hin (j - k) (by simp; omega)
        rw [show k + (j - k) = 0 + j by omega] at this
        rw [this]; rfl
      · rw [World.cell?_setCells_out g _ _ _ _ (fun _ _ => by simp; omega)]
        exact (hsp j hj).1
    · rw [mix_at]
      rw [mix_length] at hj
      by_cases hi : k ≤ j ∧ j < k + m
      · have := hin (j - k) (by simp; omega)
        rw [show k + (j - k) = 0 + j by omega] at this
        rw [this, if_pos hi.2]
        simp
      · rw [World.cell?_setCells_out g _ _ _ _ (fun _ _ => by simp; omega)]
        have := hx j (by rw [mix_length]; exact hj)
        rw [this, mix_at]
        by_cases hk : j < k
        · rw [if_pos hk, if_pos (by omega)]
        · rw [if_neg hk, if_neg (by omega)]

/-- copy: -1, m times, over a row that holds them from its head on -/
theorem run_copy_mix {P : Program} {t e ty : TypeId} (ht : P.underlying t = some (.slice e)) (hi : (P.info? e).map (·.size) = some 1) {w : World} {B : Nat} (g k n dl dc m : Nat) (a : Addr) (sl sc : Nat) (hown : IntRow B w (.slice (some ⟨g, 0, none⟩) n n) (mix k n)) (hm : m = Nat.min sl dl) (hk : k + m ≤ n)
    (hsrc : ∀ j, j < m → w.cell? (a.add j) = some (.int .i64 (-1))) :
    (Builtin.copy_ #[t, t] ty #[.slice (some ⟨g, k, none⟩) dl dc, .slice (some a) sl sc]).run P w = .ok (goInt m) (w.setCells g k (List.replicate m (.int .i64 (-1)))) := by
  have hsp : ∀ j, j < m → (w.cell? ⟨g, k + j, none⟩).isSome = true ∧ w.frozen? ⟨g, k + j, none⟩ = false := by
    rcases hown with ⟨hn, _⟩ | ⟨g', off', cap', hv, _, _, _, _, hsp, _⟩
    · cases hn
    · rw [mix_length] at hv
      cases hv
      intro j hj
      have := hsp (k + j) (by omega)
      rwa [Nat.zero_add] at this
  have hr := run_copy_cells (P := P) w t t ty e g k dl dc a sl sc (List.replicate m (.int .i64 (-1))) ht hi (by simpa using hm)
    (fun j v hv => by
      rw [List.getElem?_replicate] at hv
      split at hv
      · rename_i hj; rw [hsrc j hj]; exact hv
      · cases hv)
    (fun j hj => (hsp j (by simpa using hj)).1) (fun j hj => (hsp j (by simpa using hj)).2) (fun v hv => by rw [List.mem_replicate] at hv; rw [hv.2]; rfl)
  rwa [List.length_replicate] at hr

theorem wp_copy_mix {P : Program} {t e : TypeId} (ht : P.underlying t = some (.slice e)) (hi : (P.info? e).map (·.size) = some 1) {o : Oper} {act : Act} {w : World} {K : Act → World → Prop} {Q : Exit → Act → World → Prop} (d s : Operand)
    (ho : o.op = .call { callee := .builtin .copy, args := #[d, s], argTypes := #[t, t] }) {B : Nat} (g k n dl dc m : Nat) (a : Addr) (sl sc : Nat) (hown : IntRow B w (.slice (some ⟨g, 0, none⟩) n n) (mix k n)) (hm : m = Nat.min sl dl) (hk : k + m ≤ n)
    (hsrc : ∀ j, j < m → w.cell? (a.add j) = some (.int .i64 (-1))) (hd : act.eval d = .slice (some ⟨g, k, none⟩) dl dc) (hs : act.eval s = .slice (some a) sl sc)
    (h : K (act.put o.dst (goInt m)) (w.setCells g k (List.replicate m (.int .i64 (-1))))) : o.wp P act w K Q := by
  have hr := run_copy_mix (P := P) (ty := o.type) ht hi g k n dl dc m a sl sc hown hm hk hsrc
  unfold Oper.wp execOp
  simp only [ho, resolve, invoke, builtin, Sem.run_bind, Sem.run_pure, Result.andThen_ok, List.map_toArray, List.map_cons, List.map_nil, hs, hd, hr]
  exact h

theorem step_copy_mix {P : Program} {t e : TypeId} (ht : P.underlying t = some (.slice e)) (hi : (P.info? e).map (·.size) = some 1) {ops : Array Oper} {o : Oper} {act : Act} {w : World} {K : Act → World → Prop} {Q : Exit → Act → World → Prop} {E : Prop} (hgd : o.guard = none) (d s : Operand)
    (ho : o.op = .call { callee := .builtin .copy, args := #[d, s], argTypes := #[t, t] }) {B : Nat} (g k n dl dc m : Nat) (a : Addr) (sl sc : Nat) (hown : IntRow B w (.slice (some ⟨g, 0, none⟩) n n) (mix k n)) (hm : m = Nat.min sl dl) (hk : k + m ≤ n)
    (hsrc : ∀ j, j < m → w.cell? (a.add j) = some (.int .i64 (-1))) (hd : act.eval d = .slice (some ⟨g, k, none⟩) dl dc) (hs : act.eval s = .slice (some a) sl sc)
    (h : K (act.put o.dst (goInt m)) (w.setCells g k (List.replicate m (.int .i64 (-1))))) : if Region.wanted o (yielded ops act.tmps) = true then Oper.wp P o act w K Q else E := by
  rw [if_pos (by simp [Region.wanted, hgd])]
  exact wp_copy_mix ht hi d s ho g k n dl dc m a sl sc hown hm hk hsrc hd hs h

theorem wrap_small (a b : Nat) (h : a + b ≤ 1000000) : IntKind.i64.wrap ((a : Int) + (b : Int)) = ((a + b : Nat) : Int) := by
  rw [IntKind.wrap_i64]; omega

set_option maxRecDepth 100000 in
set_option maxHeartbeats 1000000 in
theorem repeat_any (w : World) (b n : Nat) (hn : n ≤ 30) (hc : w.cell? ⟨b, 0, none⟩ = some (.int .i64 (-1))) :
    Calls Tryz.prog 60 #[.slice (some ⟨b, 0, none⟩) 1 1, .int .i64 n] w fun e w' => Below w.heap.size w w' ∧ ∃ v, e = .returned v ∧ IntRow w.heap.size w' v (List.replicate n (-1)) := by
  have hblt := World.block_lt_of_cell? _ _ hc
  obtain ⟨i0, hi, hz0, hz1, hz2⟩ := info_parts Tryz.infoInt2
  have hsz : Hid ((Tryz.prog.info? 3).map (·.size) = some 1) := by show _ = _; rw [hi]; simp [hz1]
  have hmk : ∀ w : World, (Instr.makeSlice 47 (.int .i64 (n : Int)) (.int .i64 (n : Int))).run Tryz.prog w = .ok (.slice (some ⟨w.heap.size, 0, none⟩) n n) (w.alloc (.cells (madeCells #[.int .i64 0] n) 3)) := by
    intro w
    have := run_make (P := Tryz.prog) w 47 3 i0 _ Tryz.underlying47 hi hz0 .i64 .i64 n n (by omega) (Int.le_refl _) (by rw [hz2]; omega) (by omega)
    simpa [hz1, Value.cells] using this
  obtain ⟨m, hm⟩ : ∃ m, m = Nat.min 1 n := ⟨_, rfl⟩
  have hm' : m ≤ n ∧ m ≤ 1 ∧ (0 < n → 0 < m) := by rw [hm]; simp only [Nat.min_def]; split <;> omega
  have Hm : Hid (m = Nat.min 1 n) := hm
  have hmade := mix_made w n 3 (by omega)
  have hcA : (w.alloc (.cells (madeCells #[.int .i64 0] n) 3)).cell? ⟨b, 0, none⟩ = some (.int .i64 (-1)) := cell_below ((Below.refl _ _).alloc (Nat.le_refl _) _) hc
  have hcB : ∀ j, j < m → (w.alloc (.cells (madeCells #[.int .i64 0] n) 3)).cell? ((⟨b, 0, none⟩ : Addr).add j) = some (.int .i64 (-1)) := fun j hj => by
    obtain rfl : j = 0 := by omega
    rw [Addr.add_lit]; exact hcA
  have hcp := run_copy_mix (P := Tryz.prog) (ty := 3) Tryz.underlying47 hsz.out w.heap.size 0 n n n m ⟨b, 0, none⟩ 1 1 hmade Hm.out (by omega) hcB
  clear hi hz0 hz1 hz2 hm
  go_enter Tryz.func60, Tryz.ntmps60
  go_wp2_with (go_at_call 83; refine (mul_one' n hn _).mono ?_; rintro e w' ⟨rfl, hw⟩; obtain rfl := hw.symm)
  clear hmk hcp hcB hcA
  go_loopg [8] (n - m) (fun g i wr => ∃ k : Nat, k ≤ n ∧ (0 < n → 0 < k) ∧ g = n - k ∧ i = .int .i64 k ∧ Below w.heap.size w wr ∧ IntRow w.heap.size wr (.slice (some ⟨w.heap.size, 0, none⟩) n n) (mix k n))
  case atStart => exact ⟨m, hm'.1, hm'.2.2, rfl, rfl, ((Below.refl _ _).alloc (Nat.le_refl _) _).trans (setCells_below _ _ (Nat.le_refl _) _ _ _), by have := mix_copied (m := m) hmade (by omega); rwa [Nat.zero_add] at this⟩
  case round =>
    obtain ⟨k, hk, hk0, rfl, rfl, hb, hrow⟩ := hrel
    by_cases hlt : k < n
    · have hkz : (k : Int) < (n : Int) := by omega
      obtain ⟨m2, hm2⟩ : ∃ m2, m2 = Nat.min k (n - k) := ⟨_, rfl⟩
      have hm2' : k + m2 ≤ n ∧ m2 ≤ k ∧ 0 < m2 := by rw [hm2]; simp only [Nat.min_def]; split <;> omega
      have Hm2 : Hid (m2 = Nat.min k (n - k)) := hm2
      clear hm2
      have hne : ¬ n = k := by omega
      have hne' : ¬ k = n := by omega
      have hsrc : ∀ j, j < m2 → wr.cell? ((⟨w.heap.size, 0, none⟩ : Addr).add j) = some (.int .i64 (-1)) := fun j hj => by
        have := (hrow.cell (i := j) (by rw [mix_length]; omega)).1
        rw [mix_at, if_pos (by omega)] at this
        rw [Addr.add_lit]; exact this
      go_wp2_with fail
      go_region_law (refine step_copy_mix Tryz.underlying47 hsz.out (by rfl) (.tmp 41) (.tmp 44) (by rfl) w.heap.size k n (n - k) (n - k) m2 ⟨w.heap.size, 0, none⟩ k n hrow Hm2.out (by omega) hsrc (by simp [Act.eval, Act.put]) (by simp [Act.eval, Act.put]) ?_)
      go_wp2
      go_roundg (n - (k + m2))
      case measure => omega
      case rel => exact ⟨k + m2, by omega, fun _ => by omega, rfl, by rw [wrap_small _ _ (by omega)], hb.drew.trans (setCells_below _ _ (Nat.le_refl _) _ _ _), mix_copied (w := wr.drew) hrow (by omega)⟩
    · obtain rfl : k = n := by omega
      go_wp2
      go_ret
      exact ⟨hb, _, rfl, by rw [← mix_full]; exact hrow⟩

end Go.Proofs.YtoipocnagmpdiaaGreatDoor

/-
  What is seen of a heap, by the program: orderOf.
-/
namespace Go.Proofs.YtoipocnagmpdiaaGreatDoor
open Go.RowKit

theorem tabN_nil (n : Nat) : tabN n [] = List.replicate n (-1) := by
  refine List.ext_getElem (by simp [tabN]) fun i h1 h2 => ?_
  rw [tabN_at, numOf_none (fun j hj => absurd hj (Nat.not_lt_zero _))]
  simp

theorem Ord.re {A A' : Nat → Prop} {B bo n : Nat} {ps : List Nat} {vp vn : Value} {w : World} (h : Ord A B bo n ps vp vn w) (hA : ∀ g, A' g → g ≠ bo ∧ g < w.heap.size ∧ vp.ownBlock ≠ some g ∧ vn.ownBlock ≠ some g) : Ord A' B bo n ps vp vn w := ⟨h.le, h.box, h.p, h.n, h.pb, h.nb, h.pn, hA⟩

theorem two_set1 {w : World} {g : Nat} {t : TypeId} {x0 x1 : Value} (h : w.rowIs g t 2 (two x0 x1)) (v : Value) : (w.setCell ⟨g, 1, none⟩ v).rowIs g t 2 (two x0 v) :=
  (h.set 1 v).congr fun i hi => by match i, hi with | 0, _ => rfl | 1, _ => rfl

/-- an order as a value, in memory of its own -/
structure OrdV (B n : Nat) (ps : List Nat) (vp vn : Value) (w : World) : Prop where
  p : IntRow B w vp (nums ps)
  n : IntRow B w vn (tabN n ps)
  pn : ∀ g, vp.ownBlock = some g → vn.ownBlock ≠ some g

set_option maxRecDepth 100000 in
set_option maxHeartbeats 4000000 in
theorem orderOf_any (vc vs : Value) (h : Hp) (w : World) (hh : HeapAt w vc vs h) (hn : h.calls.length ≤ 30) :
    Calls Tryz.prog 39 #[.agg (hpCells vc vs h)] w fun e w' => (∃ vp vn, e = .returned (.agg #[vp, vn]) ∧ OrdV w.heap.size h.calls.length (found h) vp vn w' ∧ PsOk h.calls.length (found h)) ∧ Below w.heap.size w w' := by
  unfold hpCells
  obtain ⟨ac, kc, hvc⟩ := hh.c.shape
  obtain ⟨aD, kD, hvs⟩ := hh.s.shape
  subst hvc hvs
  have hA : Below w.heap.size w ((w.alloc (.cells #[.slice ac h.calls.length kc, .int .i64 h.now, .int .i64 h.born, .slice aD h.said.length kD, .int .i64 h.code] 29)).alloc (.cells #[.slice none 0 0, .slice none 0 0] 78)) := ((Below.refl _ _).alloc (Nat.le_refl _) _).alloc (by simp) _
  have bx : ((w.alloc (.cells #[.slice ac h.calls.length kc, .int .i64 h.now, .int .i64 h.born, .slice aD h.said.length kD, .int .i64 h.code] 29)).alloc (.cells #[.slice none 0 0, .slice none 0 0] 78)).rowIs w.heap.size 29 5 (five (.slice ac h.calls.length kc) (.int .i64 h.now) (.int .i64 h.born) (.slice aD h.said.length kD) (.int .i64 h.code)) := (five_new w 29 (.slice ac h.calls.length kc) (.int .i64 h.now) (.int .i64 h.born) (.slice aD h.said.length kD) (.int .i64 h.code)).alloc _
  have rx : ((w.alloc (.cells #[.slice ac h.calls.length kc, .int .i64 h.now, .int .i64 h.born, .slice aD h.said.length kD, .int .i64 h.code] 29)).alloc (.cells #[.slice none 0 0, .slice none 0 0] 78)).rowIs (w.heap.size + 1) 78 2 (two (.slice none 0 0) (.slice none 0 0)) := by
    have := two_new (w.alloc (.cells #[.slice ac h.calls.length kc, .int .i64 h.now, .int .i64 h.born, .slice aD h.said.length kD, .int .i64 h.code] 29)) 78 (.slice none 0 0) (.slice none 0 0)
    simpa using this
  go_enter Tryz.func39, Tryz.ntmps39
  go_upto_region 1 with fail
  generalize (w.alloc (.cells #[.slice ac h.calls.length kc, .int .i64 h.now, .int .i64 h.born, .slice aD h.said.length kD, .int .i64 h.code] 29)).alloc (.cells #[.slice none 0 0, .slice none 0 0] 78) = W1 at *
  have zA := hA.size
  have yA := bx.lt
  obtain ⟨⟨x0, x1, x2, x3, x4⟩, xf⟩ := five_cells bx
  clear xf
  have HF0 : Hid (found h = foundF h.calls (h.calls.length - 0) 0 (comeP h.calls.length [] h.now)) := rfl
  obtain ⟨F, hF⟩ : ∃ F, F = found h := ⟨_, rfl⟩
  have HF : Hid (F = found h) := hF
  rw [← hF] at HF0
  clear hF
  have N1 := (Below.refl W1.heap.size W1).alloc (Nat.le_refl _) (.cells #[.int .i64 (-1)] 3)
  have c1 : (W1.alloc (.cells #[.int .i64 (-1)] 3)).cell? ⟨W1.heap.size, 0, none⟩ = some (.int .i64 (-1)) := by simp [go_sem]
  have x0A := cell_below N1 x0
  go_upto_region 2 with (go_at_call 60; refine (repeat_any _ W1.heap.size h.calls.length hn c1).mono ?_; rintro e w3 ⟨hb3, v3, rfl, hr3⟩; obtain ⟨a3, k3, hv3, _⟩ := hr3.slice; rw [List.length_replicate] at hv3; subst hv3)
  have L3 : Below W1.heap.size W1 w3 := N1.trans (hb3.mono N1.size)
  have N3 := (Below.refl w3.heap.size w3).alloc (Nat.le_refl _) (.cells #[.slice none 0 0, .slice a3 h.calls.length k3] 78)
  have r4 := two_new w3 78 (.slice none 0 0) (.slice a3 h.calls.length k3)
  have hr4 := hr3.below N3
  have L4 := L3.trans (N3.mono L3.size)
  have y3 := L3.size
  have z1 := N1.size
  have O4 : Ord (fun _ => False) W1.heap.size w3.heap.size h.calls.length [] (.slice none 0 0) (.slice a3 h.calls.length k3) (w3.alloc (.cells #[.slice none 0 0, .slice a3 h.calls.length k3] 78)) :=
    ⟨L3.size, r4, IntRow.nil _ _, by rw [tabN_nil]; exact hr4.mono z1, fun e => by simp [Value.ownBlock] at e, fun e => by have := (hr3.lt _ e).2; omega, fun g e => by simp [Value.ownBlock] at e, fun g e => e.elim⟩
  generalize w3.alloc (.cells #[.slice none 0 0, .slice a3 h.calls.length k3] 78) = w4 at *
  generalize w3.heap.size = bo at *
  clear N1 c1 x0A hb3 hr3 hr4 L3 N3 r4
  have bx4 := row_below L4 bx
  obtain ⟨⟨y0, y1, y2, y3', y4⟩, yf⟩ := five_cells bx4
  clear yf
  go_wp2_with fail
  refine (come_any _ W1.heap.size bo _ [] _ _ h.now _ O4 (PsOk.nil _) (by omega)).mono ?_
  rintro e w5 ⟨rfl, ⟨vp5, O5⟩, C5⟩
  have L5 := L4.trans C5.b
  have P5 : PsOk h.calls.length (comeP h.calls.length [] h.now) := (PsOk.nil _).come _
  clear O4 C5 L4 bx4 y0 y1 y2 y3' y4
  go_wp2
  go_loopg [4] h.calls.length (fun g i wr => ∃ (j : Nat) (ps : List Nat) (vp : Value), j ≤ ps.length ∧ g = h.calls.length - j ∧ i = .int .i64 j ∧ PsOk h.calls.length ps ∧ F = foundF h.calls (h.calls.length - j) j ps ∧ Ord (fun _ => False) W1.heap.size bo h.calls.length ps vp (.slice a3 h.calls.length k3) wr ∧ Below W1.heap.size W1 wr)
  case atStart => exact ⟨0, _, vp5, Nat.zero_le _, rfl, rfl, P5, HF0.out, O5, L5⟩
  case round =>
    obtain ⟨j, ps, vp, hj, rfl, rfl, hps, hFF, hO, hL⟩ := hrel
    have HFF : Hid (F = foundF h.calls (h.calls.length - j) j ps) := hFF
    clear hFF
    have hpl := hps.len
    obtain ⟨ap, cp', hvp, _⟩ := hO.p.slice
    rw [nums_len] at hvp
    subst hvp
    obtain ⟨⟨o0, o1⟩, of0, of1⟩ := two_cells hO.box
    by_cases hlt : j < ps.length
    · have hjz : (j : Int) < (ps.length : Int) := by omega
      obtain ⟨gp, op, c1', e1, _⟩ := hO.p.form (by rw [nums_len]; omega)
      obtain rfl : ap = some ⟨gp, op, none⟩ := by injection e1
      clear e1
      have d1 := (hO.p.cell (i := j) (by rw [nums_len]; exact hlt)).1
      rw [nums_at] at d1
      have hpj : ps[j] < h.calls.length := hps.lt _ (List.getElem_mem hlt)
      have HST : Hid (F = foundF h.calls (h.calls.length - (j + 1)) (j + 1) (comeC h.calls.length ps h.calls[ps[j]])) := by show F = _; rw [HFF.out, foundF_step hps hlt hpj]
      generalize ps[j] = p at *
      clear HFF
      obtain ⟨b, o, vt, vs', hac, hc⟩ := hh.c.cl hpj
      subst hac
      obtain ⟨at', ct', hvt⟩ := hc.t.shape
      obtain ⟨as', ct2, hvs⟩ := hc.s.shape
      subst hvt hvs
      have hb : Below w.heap.size w wr := hA.trans (hL.mono zA)
      have q0 := cell_below hb hc.c0
      have q1 := cell_below hb hc.c1
      have q2 := cell_below hb hc.c2
      have q3 := cell_below hb hc.c3
      have q4 := cell_below hb hc.c4
      have q5 := cell_below hb hc.c5
      have hct := hc.t
      have hcs' := hc.s
      have w0x := (five_cells (row_below hL bx)).1.1
      have hpz : (p : Int) < (h.calls.length : Int) := by omega
      have HSZ : Hid (∀ f', bo < wr.heap.size ∧ (Value.slice (some ⟨gp, op, none⟩) ps.length cp').ownBlock ≠ some (wr.heap.size + f') ∧ (Value.slice a3 h.calls.length k3).ownBlock ≠ some (wr.heap.size + f')) := fun f' => ⟨hO.box.lt, fun e => by have := (hO.p.lt _ e).2; omega, fun e => by have := (hO.n.lt _ e).2; omega⟩
      generalize hce : h.calls[p] = cp at *
      clear hce hc
      have HS8 : ∀ w', Below wr.heap.size wr w' → (w'.cell? ⟨bo, 0, none⟩ = some (.slice (some ⟨gp, op, none⟩) ps.length cp') ∧ w'.cell? ⟨gp, op + j, none⟩ = some (.int .i64 (p : Int)) ∧ w'.cell? ⟨w.heap.size, 0, none⟩ = some (.slice (some ⟨b, o, none⟩) h.calls.length kc) ∧ w'.cell? ⟨b, o + p * 6, none⟩ = some (.int .i64 cp.m) ∧ w'.cell? ⟨b, o + p * 6 + 1, none⟩ = some (.int .i64 cp.pc) ∧ w'.cell? ⟨b, o + p * 6 + 2, none⟩ = some (.slice at' cp.temps.length ct') ∧ w'.cell? ⟨b, o + p * 6 + 3, none⟩ = some (.slice as' cp.stack.length ct2) ∧ w'.cell? ⟨b, o + p * 6 + 4, none⟩ = some (.int .i64 cp.sender) ∧ w'.cell? ⟨b, o + p * 6 + 5, none⟩ = some (.bool cp.dead)) := fun w' hB => ⟨cell_below hB o0, cell_below hB d1, cell_below hB w0x, cell_below hB q0, cell_below hB q1, cell_below hB q2, cell_below hB q3, cell_below hB q4, cell_below hB q5⟩
      go_wp2_with fail
      go_region_held3 (fun w' => w'.cell? ⟨bo, 0, none⟩ = some (.slice (some ⟨gp, op, none⟩) ps.length cp') ∧ w'.cell? ⟨gp, op + j, none⟩ = some (.int .i64 (p : Int)) ∧ w'.cell? ⟨w.heap.size, 0, none⟩ = some (.slice (some ⟨b, o, none⟩) h.calls.length kc) ∧ w'.cell? ⟨b, o + p * 6, none⟩ = some (.int .i64 cp.m) ∧ w'.cell? ⟨b, o + p * 6 + 1, none⟩ = some (.int .i64 cp.pc) ∧ w'.cell? ⟨b, o + p * 6 + 2, none⟩ = some (.slice at' cp.temps.length ct') ∧ w'.cell? ⟨b, o + p * 6 + 3, none⟩ = some (.slice as' cp.stack.length ct2) ∧ w'.cell? ⟨b, o + p * 6 + 4, none⟩ = some (.int .i64 cp.sender) ∧ w'.cell? ⟨b, o + p * 6 + 5, none⟩ = some (.bool cp.dead))
        ((refine HS8 _ ?_; first | (with_reducible exact (Below.refl _ _).alloc (Nat.le_refl _) _) | (with_reducible exact ((Below.refl _ _).alloc (Nat.le_refl _) _).drew) | (with_reducible exact (Below.refl _ _).drew.alloc (Nat.le_refl _) _) | (with_reducible exact (Below.refl _ _).drew) | (with_reducible exact Below.refl _ _)))
        (fail)
      have NN : Below wr.heap.size wr (wr.alloc (.cells #[.int .i64 cp.m, .int .i64 cp.pc, .slice at' cp.temps.length ct', .slice as' cp.stack.length ct2, .int .i64 cp.sender, .bool cp.dead] 40)).drew := ((Below.refl wr.heap.size wr).alloc (Nat.le_refl _) _).drew
      have r7 : (wr.alloc (.cells #[.int .i64 cp.m, .int .i64 cp.pc, .slice at' cp.temps.length ct', .slice as' cp.stack.length ct2, .int .i64 cp.sender, .bool cp.dead] 40)).drew.rowIs wr.heap.size 40 6 (six (.int .i64 cp.m) (.int .i64 cp.pc) (.slice at' cp.temps.length ct') (.slice as' cp.stack.length ct2) (.int .i64 cp.sender) (.bool cp.dead)) := six_new wr 40 _ _ _ _ _ _
      have O7 : Ord (fun g => g = wr.heap.size) W1.heap.size bo h.calls.length ps (.slice (some ⟨gp, op, none⟩) ps.length cp') (.slice a3 h.calls.length k3) (wr.alloc (.cells #[.int .i64 cp.m, .int .i64 cp.pc, .slice at' cp.temps.length ct', .slice as' cp.stack.length ct2, .int .i64 cp.sender, .bool cp.dead] 40)).drew := (hO.below NN).re (fun g e => by
        subst e
        obtain ⟨s1, s2, s3⟩ := HSZ.out 0
        exact ⟨by omega, r7.lt, s2, s3⟩)
      have L7 := hL.trans (NN.mono hL.size)
      generalize (wr.alloc (.cells #[.int .i64 cp.m, .int .i64 cp.pc, .slice at' cp.temps.length ct', .slice as' cp.stack.length ct2, .int .i64 cp.sender, .bool cp.dead] 40)).drew = w7 at *
      clear NN HS8 q0 q1 q2 q3 q4 q5 w0x d1 o0 o1 of0 of1 hO hL HSZ hb
      generalize wr.heap.size = cb at *
      obtain ⟨⟨x0', x1', x2', x3'', x4', x5'⟩, xf⟩ := six_cells r7
      clear xf
      go_wp2_with fail
      refine (come_any _ W1.heap.size bo _ ps _ _ cp.sender _ O7 hps (by omega)).mono ?_
      rintro e w8 ⟨rfl, ⟨vp8, O8⟩, C8⟩
      have r8 := r7.of_block (C8.a cb rfl)
      have L8 := L7.trans C8.b
      have P8 := hps.come cp.sender
      clear O7 C8 L7 r7 x0' x1' x2' x3'' x4' x5'
      obtain ⟨⟨x0', x1', x2', x3'', x4', x5'⟩, xf⟩ := six_cells r8
      clear xf
      go_wp2_with fail
      refine (comeToVals_any _ W1.heap.size bo _ _ _ _ _ cp.temps w _ O8 P8 (by omega) hct (hA.trans (L8.mono zA)) zA).mono ?_
      rintro e w9 ⟨rfl, ⟨vp9, O9⟩, C9⟩
      have r9 := r8.of_block (C9.a cb rfl)
      have L9 := L8.trans C9.b
      have P9 := P8.comeV cp.temps
      clear O8 C9 L8 r8 x0' x1' x2' x3'' x4' x5'
      obtain ⟨⟨x0', x1', x2', x3'', x4', x5'⟩, xf⟩ := six_cells r9
      clear xf
      go_wp2_with fail
      refine (comeToVals_any _ W1.heap.size bo _ _ _ _ _ cp.stack w _ O9 P9 (by omega) hcs' (hA.trans (L9.mono zA)) zA).mono ?_
      rintro e w10 ⟨rfl, ⟨vp10, O10⟩, C10⟩
      have L10 := L9.trans C10.b
      have P10 : PsOk h.calls.length (comeC h.calls.length ps cp) := P9.comeV cp.stack
      have O10' : Ord (fun _ => False) W1.heap.size bo h.calls.length (comeC h.calls.length ps cp) vp10 (.slice a3 h.calls.length k3) w10 := O10.re (fun g e => e.elim)
      obtain ⟨t, htt⟩ := comeC_pre h.calls.length ps cp
      have hlen2 : Hid (j + 1 ≤ (comeC h.calls.length ps cp).length) := by show _ ≤ _; rw [htt, List.length_append]; omega
      have HST2 : Hid (F = foundF h.calls (h.calls.length - (j + 1)) (j + 1) (comeC h.calls.length ps cp)) := HST.out
      clear htt HST O9 C10 L9 r9 O10 P8 P9 x0' x1' x2' x3'' x4' x5'
      go_wp2
      go_roundg (h.calls.length - (j + 1))
      case measure => omega
      case rel => exact ⟨j + 1, _, vp10, hlen2.out, rfl, by go_num, P10, HST2.out, O10', L10⟩
    · obtain rfl : j = ps.length := by omega
      have hE : Hid (F = ps) := by show F = ps; rw [HFF.out, foundF_end _ (by omega)]
      have hFe := hE.out
      subst hFe
      have HP : Hid (PsOk h.calls.length F) := hps
      have hb : Below w.heap.size w wr := hA.trans (hL.mono zA)
      have HO : Hid (OrdV w.heap.size h.calls.length F (.slice ap F.length cp') (.slice a3 h.calls.length k3) wr) := ⟨hO.p.mono zA, hO.n.mono zA, hO.pn⟩
      have HFd : Hid (found h = F) := HF.out.symm
      have hlr := rx.lt
      have HO6 : Hid (OrdV w.heap.size h.calls.length F (.slice ap F.length cp') (.slice a3 h.calls.length k3) ((wr.setCell ⟨w.heap.size + 1, 0, none⟩ (.slice ap F.length cp')).setCell ⟨w.heap.size + 1, 1, none⟩ (.slice a3 h.calls.length k3))) :=
        ⟨((hO.p.set_other (p := ⟨w.heap.size + 1, 0, none⟩) _ (fun e => by have := (hO.p.lt _ e).1; simp at this; omega)).set_other (p := ⟨w.heap.size + 1, 1, none⟩) _ (fun e => by have := (hO.p.lt _ e).1; simp at this; omega)).mono zA,
          ((hO.n.set_other (p := ⟨w.heap.size + 1, 0, none⟩) _ (fun e => by have := (hO.n.lt _ e).1; simp at this; omega)).set_other (p := ⟨w.heap.size + 1, 1, none⟩) _ (fun e => by have := (hO.n.lt _ e).1; simp at this; omega)).mono zA, hO.pn⟩
      have r5 := row_below hL rx
      have r6 := two_set1 (two_set0 r5 (.slice ap F.length cp')) (.slice a3 h.calls.length k3)
      have hb6 := (hb.setCell (p := ⟨w.heap.size + 1, 0, none⟩) (by simp) (.slice ap F.length cp')).setCell (p := ⟨w.heap.size + 1, 1, none⟩) (by simp) (.slice a3 h.calls.length k3)
      obtain ⟨⟨t0, t1⟩, tf0, tf1⟩ := two_cells r5
      obtain ⟨⟨s0, s1⟩, _⟩ := two_cells r6
      clear hE HFF hps hO HF P5 L5 O5 HF0 hlt hj hL r5 r6 HO
      go_wp2
      refine bodyPost_ret (v := .agg #[.slice ap F.length cp', .slice a3 h.calls.length k3]) (by simp [results, Tryz.results39, go_sem, s0, s1]) rfl ?_
      refine ⟨⟨_, _, rfl, ?_, ?_⟩, hb6⟩
      · rw [HFd.out]; exact HO6.out
      · rw [HFd.out]; exact HP.out

end Go.Proofs.YtoipocnagmpdiaaGreatDoor

/-
  What is seen of a heap, by the program: view, HeapView.
-/
namespace Go.Proofs.YtoipocnagmpdiaaGreatDoor
open Go.RowKit

set_option maxRecDepth 100000 in
set_option maxHeartbeats 4000000 in
theorem view_any (B bo : Nat) (F : List Nat) (vp vn vc vs : Value) (h : Hp) (w : World) (hh : HeapAt w vc vs h) (hsh : h.short) (hn : h.calls.length ≤ 30) (hO : Ord (fun _ => False) B bo h.calls.length F vp vn w) (hps : PsOk h.calls.length F) :
    Calls Tryz.prog 40 #[.pointer (some ⟨bo, 0, none⟩), .agg (hpCells vc vs h)] w fun e w' => (∃ v V, e = .returned v ∧ OwnCalls w.heap.size w' v (F.map fun p => viewC F (h.calls.getD p Cl.none)) V) ∧ Below w.heap.size w w' := by
  unfold hpCells
  obtain ⟨ac, kc, hvc⟩ := hh.c.shape
  obtain ⟨aD, kD, hvs⟩ := hh.s.shape
  subst hvc hvs
  obtain ⟨ap, cp', hvp, _⟩ := hO.p.slice
  rw [nums_len] at hvp
  subst hvp
  have hpl := hps.len
  obtain ⟨⟨o0, o1⟩, of0, of1⟩ := two_cells hO.box
  have hA : Below w.heap.size w (w.alloc (.cells #[.slice ac h.calls.length kc, .int .i64 h.now, .int .i64 h.born, .slice aD h.said.length kD, .int .i64 h.code] 29)) := (Below.refl _ _).alloc (Nat.le_refl _) _
  have bx := five_new w 29 (.slice ac h.calls.length kc) (.int .i64 h.now) (.int .i64 h.born) (.slice aD h.said.length kD) (.int .i64 h.code)
  have o0A := cell_below hA o0
  have o1A := cell_below hA o1
  go_enter Tryz.func40, Tryz.ntmps40
  go_wp2
  generalize w.alloc (.cells #[.slice ac h.calls.length kc, .int .i64 h.now, .int .i64 h.born, .slice aD h.said.length kD, .int .i64 h.code] 29) = W1 at *
  have zA := hA.size
  have yA := bx.lt
  clear o0A o1A
  go_loopg [5, 13] F.length (fun g o i wr2 => ∃ (k : Nat) (L : List (Cl × Value × Value)), k ≤ F.length ∧ g = F.length - k ∧ i = .int .i64 k ∧ L.map (·.1) = (F.take k).map (fun p => viewC F (h.calls.getD p Cl.none)) ∧ CallRow w.heap.size wr2 o L ∧
      (∀ j, (hj : j < L.length) → PairRow w.heap.size wr2 L[j].2.1 L[j].1.temps ∧ PairRow w.heap.size wr2 L[j].2.2 L[j].1.stack) ∧ ApartL L o ∧ Below W1.heap.size W1 wr2 ∧
      (∀ q, o.ownBlock = some q → W1.heap.size ≤ q))
  case atStart => exact ⟨0, [], Nat.zero_le _, rfl, rfl, rfl, CallRow.nil _ _, fun j hj => absurd hj (Nat.not_lt_zero _), fun q hq => absurd hq (Nat.not_lt_zero _), Below.refl _ _, fun q e => by simp [Value.ownBlock] at e⟩
  case round =>
    obtain ⟨k, L, hk, rfl, rfl, hmap, hrow, hls, hap, hL2, hon⟩ := hrel
    have HMAP : Hid (L.map (·.1) = (F.take k).map (fun p => viewC F (h.calls.getD p Cl.none))) := hmap
    have HLS : Hid (∀ j, (hj : j < L.length) → PairRow w.heap.size wr L[j].2.1 L[j].1.temps ∧ PairRow w.heap.size wr L[j].2.2 L[j].1.stack) := hls
    have hLl : L.length = k := by have := congrArg List.length hmap; simp at this; omega
    have HLL : Hid (L.length = k) := hLl
    obtain ⟨ao, co, hvo, _⟩ := hrow.slice
    subst hvo
    have HAP : Hid (ApartL L (.slice ao L.length co)) := hap
    have HON : Hid (∀ q, (Value.slice ao L.length co).ownBlock = some q → W1.heap.size ≤ q) := hon
    clear hmap hls hap hLl hon
    have hb : Below w.heap.size w wr := hA.trans (hL2.mono zA)
    have hO2 := hO.below hb
    by_cases hltk : k < F.length
    · have hkz : (k : Int) < (F.length : Int) := by omega
      obtain ⟨gp, op, c1', e1, _⟩ := hO2.p.form (by rw [nums_len]; omega)
      obtain rfl : ap = some ⟨gp, op, none⟩ := by injection e1
      clear e1
      have d1 := (hO2.p.cell (i := k) (by rw [nums_len]; exact hltk)).1
      rw [nums_at] at d1
      have hpk : F[k] < h.calls.length := hps.lt _ (List.getElem_mem hltk)
      have HMT := map_take (f := fun p => viewC F (h.calls.getD p Cl.none)) hltk
      generalize F[k] = p at *
      obtain ⟨b, o, vt, vs', hac, hc⟩ := hh.c.cl hpk
      subst hac
      obtain ⟨at', ct', hvt⟩ := hc.t.shape
      obtain ⟨as', ct2, hvs⟩ := hc.s.shape
      subst hvt hvs
      have q0 := cell_below hb hc.c0
      have q1 := cell_below hb hc.c1
      have q2 := cell_below hb hc.c2
      have q3 := cell_below hb hc.c3
      have q4 := cell_below hb hc.c4
      have q5 := cell_below hb hc.c5
      have hlen := hsh.2 p hpk
      have hgd : h.calls.getD p Cl.none = h.calls[p] := by simp [hpk]
      rw [hgd] at HMT
      have hct := hc.t.below hb
      have hcs' := hc.s.below hb
      have w0x := (five_cells (row_below hL2 bx)).1.1
      have hpz : (p : Int) < (h.calls.length : Int) := by omega
      have hLb : L.length ≤ 900000 := by rw [HLL.out]; omega
      have hLT := lists_lt HLS.out
      have HLT : Hid _ := hLT
      generalize hce : h.calls[p] = cp at *
      clear hce hc hgd hLT
      go_wp2_with fail
      refine (renumbered_any _ B bo _ F _ _ _ _ cp _ hO2 hps (by omega) hct hcs' hlen).mono ?_
      rintro e w8 ⟨vt8, vs8, rfl, ht8, hs8, hap8, hb8⟩
      obtain ⟨at8, kt8, hv8, _⟩ := ht8.slice
      obtain ⟨as8, ks8, hw8, _⟩ := hs8.slice
      rw [List.length_map] at hv8 hw8
      subst hv8 hw8
      unfold clCells
      simp only [viewC]
      have hz8 := hb8.size
      have hwz := hb.size
      have N15 := (Below.refl w8.heap.size w8).alloc (Nat.le_refl _) (.cells #[.int .i64 cp.m, .int .i64 cp.pc, .slice at8 cp.temps.length kt8, .slice as8 cp.stack.length ks8, .int .i64 (numOf F cp.sender), .bool cp.dead] 40)
      have s15 := six_new w8 40 (.int .i64 cp.m) (.int .i64 cp.pc) (.slice at8 cp.temps.length kt8) (.slice as8 cp.stack.length ks8) (.int .i64 (numOf F cp.sender)) (.bool cp.dead)
      have B15 := hb8.trans (N15.mono hz8)
      have hrow15 := hrow.below B15
      have hz15 : (w8.alloc (.cells #[.int .i64 cp.m, .int .i64 cp.pc, .slice at8 cp.temps.length kt8, .slice as8 cp.stack.length ks8, .int .i64 (numOf F cp.sender), .bool cp.dead] 40)).heap.size = w8.heap.size + 1 := by simp
      go_wp2_with (at_builtin; refine append_call _ (by rfl) _ _ (by rfl) w.heap.size _ L (viewC F cp, Value.slice at8 cp.temps.length kt8, Value.slice as8 cp.stack.length ks8) (by rfl) w8.heap.size 1 (by rfl) hrow15 rfl rfl (cells6_of s15) hLb (by omega) ?_; intro v16 w16 hrow16 hg16 hbk16)
      have hz16 := hg16.size
      have hbl : ∀ q, q < wr.heap.size → (Value.slice ao L.length co).ownBlock ≠ some q → w16.heap[q]? = wr.heap[q]? := fun q h1 h2 => (hg16.block q (by omega) (fun e => h2 e.symm)).trans (B15.block q h1)
      have hvn : ∀ q, v16.ownBlock = some q → (Value.slice ao L.length co).ownBlock = some q ∨ w8.heap.size + 1 ≤ q := fun q e => by
        rcases hbk16 with h1 | h1
        · exact .inl (by rw [← h1]; exact e)
        · exact .inr (by rw [h1] at e; simp at e; omega)
      have L16 : Below W1.heap.size W1 w16 := (hL2.trans (B15.mono hL2.size)).grown hg16 (by have := hL2.size; omega) (fun q e => HON.out q e)
      have hon16 : ∀ q, v16.ownBlock = some q → W1.heap.size ≤ q := fun q e => by
        rcases hvn q e with h1 | h1
        · exact HON.out q h1
        · have := hL2.size; omega
      have P16 : PairRow w.heap.size w16 (.slice at8 cp.temps.length kt8) (cp.temps.map (ren F)) := ((ht8.below N15).kept hz16 fun q e => hg16.block q (by have := (ht8.lt q e).2; omega) (fun e2 => by have h1 := (ht8.lt q e).1; have h2 := (hrow.lt q e2.symm).2; omega)).mono (by omega)
      have Q16 : PairRow w.heap.size w16 (.slice as8 cp.stack.length ks8) (cp.stack.map (ren F)) := ((hs8.below N15).kept hz16 fun q e => hg16.block q (by have := (hs8.lt q e).2; omega) (fun e2 => by have h1 := (hs8.lt q e).1; have h2 := (hrow.lt q e2.symm).2; omega)).mono (by omega)
      have hls16 : Hid (∀ j, (hj : j < (L ++ [(viewC F cp, Value.slice at8 cp.temps.length kt8, Value.slice as8 cp.stack.length ks8)]).length) → PairRow w.heap.size w16 (L ++ [(viewC F cp, Value.slice at8 cp.temps.length kt8, Value.slice as8 cp.stack.length ks8)])[j].2.1 (L ++ [(viewC F cp, Value.slice at8 cp.temps.length kt8, Value.slice as8 cp.stack.length ks8)])[j].1.temps ∧ PairRow w.heap.size w16 (L ++ [(viewC F cp, Value.slice at8 cp.temps.length kt8, Value.slice as8 cp.stack.length ks8)])[j].2.2 (L ++ [(viewC F cp, Value.slice at8 cp.temps.length kt8, Value.slice as8 cp.stack.length ks8)])[j].1.stack) := fun j hj => by
        by_cases e : j < L.length
        · rw [List.getElem_append_left e]
          obtain ⟨p1, p2⟩ := HLS.out j e
          have a0 := HAP.out (j * 2) (by omega)
          have a1 := HAP.out (j * 2 + 1) (by omega)
          have hget : L.getD j (Cl.none, .slice none 0 0, .slice none 0 0) = L[j] := by simp [e]
          rw [lst_0, hget] at a0
          rw [lst_1, hget] at a1
          exact ⟨p1.kept (by omega) fun q h1 => hbl q (p1.lt q h1).2 (a0 q h1).1, p2.kept (by omega) fun q h1 => hbl q (p2.lt q h1).2 (a1 q h1).1⟩
        · rw [List.getElem_append_right (by omega)]
          simp only [List.getElem_singleton]
          exact ⟨P16, Q16⟩
      have hap16 : Hid (ApartL (L ++ [(viewC F cp, Value.slice at8 cp.temps.length kt8, Value.slice as8 cp.stack.length ks8)]) v16) := apart_snoc (S := wr.heap.size) (S' := w8.heap.size + 1) HAP.out HLT.out (fun g e => ⟨(ht8.lt g e).1, by have := (ht8.lt g e).2; omega⟩) (fun g e => ⟨(hs8.lt g e).1, by have := (hs8.lt g e).2; omega⟩) hap8 (fun g e => (hrow.lt g e).2) hvn (by omega)
      have hmap16 : Hid ((L ++ [(viewC F cp, Value.slice at8 cp.temps.length kt8, Value.slice as8 cp.stack.length ks8)]).map (·.1) = (F.take (k + 1)).map (fun p => viewC F (h.calls.getD p Cl.none))) := by
        show _ = _
        rw [List.map_append, HMAP.out, ← HMT]
        rfl
      clear hbl hg16 hbk16 hvn hrow15 s15 P16 Q16 HLS HAP HON HMAP HMT HLT ht8 hs8 hb8 B15 N15 hrow hO2 hL2 hct hcs' q0 q1 q2 q3 q4 q5 d1 w0x
      go_wp2
      go_roundg (F.length - (k + 1))
      case measure => omega
      case rel => exact ⟨k + 1, _, by omega, rfl, by go_num, hmap16.out, hrow16, hls16.out, hap16.out, L16, hon16⟩
    · obtain rfl : k = F.length := by omega
      have hv := hrow.own HLS.out HAP.out
      rw [HMAP.out, List.take_length] at hv
      go_wp2
      go_ret
      exact ⟨⟨_, _, rfl, hv⟩, hb⟩


end Go.Proofs.YtoipocnagmpdiaaGreatDoor

/-
  What is seen of a heap, by the program: HeapView.
-/
namespace Go.Proofs.YtoipocnagmpdiaaGreatDoor
open Go.RowKit

theorem OwnCalls.mono {B B' : Nat} {w : World} {v : Value} {cs : List Cl} {V : Nat → Value × Value} (h : OwnCalls B w v cs V) (hB : B' ≤ B) : OwnCalls B' w v cs V := by
  refine ⟨?_, fun i hi => ⟨(h.lists i hi).1.mono hB, (h.lists i hi).2.mono hB⟩, h.apart⟩
  rcases h.row with h0 | ⟨g, off, cap, hv, hg, r⟩
  · exact .inl h0
  · exact .inr ⟨g, off, cap, hv, by omega, r⟩

set_option maxRecDepth 100000 in
set_option maxHeartbeats 4000000 in
theorem implHeapView_any (vc vs : Value) (h : Hp) (w : World) (hh : HeapAt w vc vs h) (hsh : h.short) (hn : h.calls.length ≤ 30) :
    Calls Tryz.prog 16 #[.agg (hpCells vc vs h)] w fun e w' => (∃ v V, e = .returned v ∧ OwnCalls w.heap.size w' v (viewL h) V) ∧ Below w.heap.size w w' := by
  have HH : Hid (HeapAt w vc vs h) := hh
  have hA : Below w.heap.size w (w.alloc (.cells (hpCells vc vs h) 29)) := (Below.refl _ _).alloc (Nat.le_refl _) _
  have bx : (w.alloc (.cells (hpCells vc vs h) 29)).rowIs w.heap.size 29 5 (five vc (.int .i64 h.now) (.int .i64 h.born) vs (.int .i64 h.code)) := five_new w 29 vc (.int .i64 h.now) (.int .i64 h.born) vs (.int .i64 h.code)
  unfold hpCells at *
  obtain ⟨ac, kc, hvc⟩ := hh.c.shape
  obtain ⟨aD, kD, hvs⟩ := hh.s.shape
  subst hvc hvs
  clear hh
  go_enter Tryz.func16, Tryz.ntmps16
  go_upto_region 1 with fail
  generalize w.alloc (.cells #[.slice ac h.calls.length kc, .int .i64 h.now, .int .i64 h.born, .slice aD h.said.length kD, .int .i64 h.code] 29) = W1 at *
  have zA := hA.size
  obtain ⟨⟨x0, x1, x2, x3, x4⟩, xf⟩ := five_cells bx
  clear xf
  have HO := orderOf_any _ _ h W1 (HH.out.below hA) hn
  unfold hpCells at HO
  go_wp2_with fail
  refine HO.mono ?_
  rintro e w2 ⟨⟨vp, vn, rfl, hV, hps⟩, hb2⟩
  obtain ⟨ap, kp, hvp, _⟩ := hV.p.slice
  obtain ⟨an, kn, hvn, _⟩ := hV.n.slice
  rw [nums_len] at hvp
  rw [tabN_len] at hvn
  subst hvp hvn
  have N2 := (Below.refl w2.heap.size w2).alloc (Nat.le_refl _) (.cells #[.slice ap (found h).length kp, .slice an h.calls.length kn] 78)
  have HOrd : Hid (Ord (fun _ => False) W1.heap.size w2.heap.size h.calls.length (found h) (.slice ap (found h).length kp) (.slice an h.calls.length kn) (w2.alloc (.cells #[.slice ap (found h).length kp, .slice an h.calls.length kn] 78))) :=
    ⟨hb2.size, two_new _ _ _ _, hV.p.below N2, hV.n.below N2, fun e => by have := (hV.p.lt _ e).2; omega, fun e => by have := (hV.n.lt _ e).2; omega, hV.pn, fun g e => e.elim⟩
  have B3 : Below W1.heap.size W1 (w2.alloc (.cells #[.slice ap (found h).length kp, .slice an h.calls.length kn] 78)) := hb2.trans (N2.mono hb2.size)
  have HPs : Hid (PsOk h.calls.length (found h)) := hps
  have bx3 := row_below B3 bx
  clear x0 x1 x2 x3 x4 HO hV hps hb2 N2
  obtain ⟨⟨x0, x1, x2, x3, x4⟩, xf⟩ := five_cells bx3
  clear xf bx3 bx
  generalize hF : found h = F at *
  have HF : Hid (found h = F) := hF
  clear hF
  go_upto_region 2 with fail
  generalize w2.alloc (.cells #[.slice ap F.length kp, .slice an h.calls.length kn] 78) = w3 at *
  generalize w2.heap.size = bo at *
  have HVw := view_any W1.heap.size bo F _ _ _ _ h w3 (HH.out.below (hA.trans (B3.mono zA))) hsh hn HOrd.out HPs.out
  unfold hpCells at HVw
  go_wp2_with fail
  refine HVw.mono ?_
  rintro e w4 ⟨⟨v, V, rfl, hv⟩, hb4⟩
  have hz := (hA.trans (B3.mono zA)).size
  go_wp2
  go_ret
  refine ⟨⟨v, V, rfl, ?_⟩, (hA.trans (B3.mono zA)).trans (hb4.mono hz)⟩
  have : viewL h = F.map fun p => viewC F (h.calls.getD p Cl.none) := by rw [← HF.out]; rfl
  rw [this]
  exact hv.mono hz

end Go.Proofs.YtoipocnagmpdiaaGreatDoor

/-
  HeapTrim of both sides: without what cannot be come to.
-/
namespace Go.Proofs.YtoipocnagmpdiaaGreatDoor
open Go.RowKit

/-- more elements behind them, where there may be more -/
theorem run_append_rows2 {P : Program} {t tx ty e : TypeId} {i : TypeInfo} {z : Value} {B : Nat} (ht : P.underlying t = some (.slice e)) (hi : P.info? e = some i) (hz : i.zero = some z) (hzs : z.cells.size = i.size) (hby : i.bytes ≤ 1000)
    {w : World} {v : Value} {n : Nat} {xs : List Value} (hown : CRow B i.size w v n xs) (x : Value) (m : Nat) (news : List Value) (hs : Src P i.size tx x m news w) (hL : n + m ≤ 2000000) (hB : B ≤ w.heap.size) :
    ∃ v' w', (Builtin.append_ #[t, tx] ty #[v, x]).run P w = .ok v' w' ∧ CRow B i.size w' v' (n + m) (xs ++ news) ∧ w.grownBy w' v.ownBlock ∧ (v'.ownBlock = v.ownBlock ∨ v'.ownBlock = some w.heap.size) := by
  obtain ⟨hxl, hown⟩ := hown
  have hll : (xs ++ news).length = (n + m) * i.size := by rw [List.length_append, hxl, hs.newsLen, Nat.add_mul]
  have hgrown : ∀ (k : Nat), n + m ≤ k → k ≤ maxLen →
      CRow B i.size (w.drew.alloc (.cells ((xs ++ news).toArray ++ Builtin.zeroCells z.cells (k - (n + m))) e)) (.slice (some ⟨w.heap.size, 0, none⟩) (n + m) k) (n + m) (xs ++ news) := by
    intro k hqk hk
    have hsz0 : (Builtin.zeroCells z.cells (k - (n + m))).size = (k - (n + m)) * i.size := by rw [size_zeroCells, hzs]
    have hblk : (w.drew.alloc (.cells ((xs ++ news).toArray ++ Builtin.zeroCells z.cells (k - (n + m))) e)).heap[w.heap.size]? = some (.cells ((xs ++ news).toArray ++ Builtin.zeroCells z.cells (k - (n + m))) e) := Go.Deep.blk_alloc_new w.drew _
    have hsum : (n + m) * i.size + (k - (n + m)) * i.size = k * i.size := by rw [← Nat.add_mul]; congr 1; omega
    refine ⟨hll, .inr ⟨w.heap.size, 0, k, rfl, hB, by simp, hqk, hk, fun j hj => ?_, fun j hj => ?_⟩⟩
    · refine ⟨?_, ?_⟩
      · rw [Nat.zero_add, cell_of_row _ _ _ _ _ _ hblk]
        rw [Array.getElem?_eq_getElem (by rw [Array.size_append, hsz0, List.size_toArray, hll]; omega)]; rfl
      · unfold World.frozen?
        rw [hblk]
        simp
    · rw [Nat.zero_add, cell_of_row _ _ _ _ _ _ hblk, Array.getElem?_append_left (by rw [List.size_toArray]; exact hj)]
      simp [List.getElem?_eq_getElem hj]
  have hgb : ∀ (o : Obj) (row : Option Nat), w.grownBy (w.drew.alloc o) row := fun o row =>
    ⟨rfl, rfl, rfl, Nat.le_of_lt (by rw [World.size_alloc]; exact Nat.lt_succ_self _), fun k hk _ => Below.heap_alloc w.drew _ k hk⟩
  rcases hown with ⟨rfl, rfl⟩ | ⟨g, off, cap, rfl, hBg, hg, hl, hmx, hsp, hx⟩
  · obtain rfl : xs = [] := List.eq_nil_of_length_eq_zero (by simpa using hxl)
    by_cases hm0 : m = 0
    · subst hm0
      obtain rfl : news = [] := List.eq_nil_of_length_eq_zero (by simpa using hs.newsLen)
      refine ⟨.slice none 0 0, w, ?_, CRow.nil _ _ _, World.grownBy.refl _ _, .inl rfl⟩
      rcases hs.kind with ⟨e', hk⟩ | hk <;> simp [Builtin.append_, run_underlying ht, run_underlying hk, sizeOf, typeInfo, hi, hs.len, hs.cells]
    · have hr := run_append_grow_src (P := P) w t tx ty e i z ht hi hz none 0 0 [] (run_firstCells_none _ _ _ _ _) x m news hs (by omega) (by omega) (growslice_fits (by omega) (by have := Nat.mul_le_mul (show 0 + m ≤ 2000000 by omega) hby; omega))
      refine ⟨_, _, hr, ?_, hgb _ _, .inr rfl⟩
      exact hgrown (grownCap w (0 + m) 0 e) (grownCap_ge _ _ _ _) (grownCap_le_maxLen _ _ _ _ (by unfold maxLen; omega))
  · by_cases hroom : n + m ≤ cap
    · have hle : n * i.size + news.length ≤ cap * i.size := by rw [hs.newsLen, ← Nat.add_mul]; exact Nat.mul_le_mul_right _ hroom
      have hc : ∀ j, j < news.length → (w.cell? ⟨g, off + n * i.size + j, none⟩).isSome = true := fun j hj => by
        have := (hsp (n * i.size + j) (by omega)).1
        rwa [← Nat.add_assoc] at this
      have hf : ∀ j, j < news.length → w.frozen? ⟨g, off + n * i.size + j, none⟩ = false := fun j hj => by
        have := (hsp (n * i.size + j) (by omega)).2
        rwa [← Nat.add_assoc] at this
      have hr := run_append_room_src (P := P) w t tx ty e i ht hi g off n cap x m news hs hroom hc hf
      obtain ⟨r1, r2, r3⟩ := setCells_rest g news (off + n * i.size) w
      refine ⟨_, _, hr, ⟨hll, .inr ⟨g, off, cap, rfl, hBg, by rw [setCells_size]; exact hg, hroom, hmx, fun j hj => ?_, fun j hj => ?_⟩⟩, ⟨r1, r2, r3, by rw [setCells_size]; exact Nat.le_refl _, fun k _ hk => setCells_other _ _ _ _ _ (fun e => hk (by rw [e]; rfl))⟩, .inl rfl⟩
      · rw [World.frozen?_setCells]
        refine ⟨?_, (hsp j hj).2⟩
        by_cases hin : n * i.size ≤ j ∧ j < n * i.size + news.length
        · have := World.cell?_setCells_in g news (off + n * i.size) w hc (j - n * i.size) (by omega)
          rw [show off + n * i.size + (j - n * i.size) = off + j by omega] at this
          rw [this]; rfl
        · rw [World.cell?_setCells_out g _ _ _ _ (fun _ _ => by simp; omega)]
          exact (hsp j hj).1
      · rw [List.length_append] at hj
        by_cases hin : j < xs.length
        · rw [World.cell?_setCells_out g _ _ _ _ (fun _ _ => by simp; omega), hx j hin]
          simp [hin]
        · have := World.cell?_setCells_in g news (off + n * i.size) w hc (j - n * i.size) (by omega)
          rw [show off + n * i.size + (j - n * i.size) = off + j by omega] at this
          rw [this, List.getElem_append_right (by omega)]
          simp only [hxl]
    · have hr := run_append_grow_src (P := P) w t tx ty e i z ht hi hz (some ⟨g, off, none⟩) n cap xs (run_firstCells_some _ _ _ _ _ _ _ hxl (fun j u hu => by
          by_cases hj : j < xs.length
          · rw [List.getElem?_eq_getElem hj] at hu
            have h1 := hx j hj
            rw [Addr.add_lit]
            show w.cell? _ = _
            rw [h1]
            simpa using hu
          · rw [List.getElem?_eq_none (by omega)] at hu; simp at hu)) x m news hs (by omega) (by omega) (growslice_fits (by omega) (by have := Nat.mul_le_mul (show n + m ≤ 2000000 by omega) hby; omega))
      refine ⟨_, _, hr, ?_, hgb _ _, .inr rfl⟩
      exact hgrown (grownCap w (n + m) cap e) (grownCap_ge _ _ _ _) (grownCap_le_maxLen _ _ _ _ (by unfold maxLen; omega))

theorem run_append_vals2 {ty : TypeId} {B : Nat} {w : World} {v xv : Value} {L M : List (Int × Int)} (hown : PairRow B w v L) (hM : OpsAt w xv M) (hL : L.length + M.length ≤ 2000000) (hB : B ≤ w.heap.size) :
    ∃ v' w', (Builtin.append_ #[27, 27] ty #[v, xv]).run Tryz.prog w = .ok v' w' ∧ PairRow B w' v' (L ++ M) ∧ w.grownBy w' v.ownBlock ∧ (v'.ownBlock = v.ownBlock ∨ v'.ownBlock = some w.heap.size) := by
  obtain ⟨i0, hi, hz0, hz1, hz2⟩ := info_parts Tryz.infoVal
  have h1 := hown.crow
  have h2 := src_vals (P := Tryz.prog) Tryz.underlying27 hM
  rw [← hz1] at h1 h2
  obtain ⟨v', w', hr, hc, hg, hb⟩ := run_append_rows2 (P := Tryz.prog) (ty := ty) Tryz.underlying27 hi hz0 (by rw [hz1]; rfl) (by rw [hz2]; omega) h1 xv M.length (pcells M) h2 hL hB
  refine ⟨v', w', hr, ?_, hg, hb⟩
  rw [hz1, ← pcells_append] at hc
  exact hc.pair (by simp)

theorem append_vals2 {ops : Array Oper} {rest : List Oper} {o : Oper} {act : Act} {Q : Exit → Act → World → Prop} (w : World) (hgd : o.guard = none) (s x : Operand)
    (ho : o.op = .call { callee := .builtin .append, args := #[s, x], argTypes := #[27, 27] }) (B : Nat) (v xv : Value) (L M : List (Int × Int)) (hs : act.eval s = v) (hx : act.eval x = xv) (hown : PairRow B w v L) (hM : OpsAt w xv M)
    (hL : L.length + M.length ≤ 2000000) (hB : B ≤ w.heap.size)
    (h : ∀ v' w', PairRow B w' v' (L ++ M) → w.grownBy w' v.ownBlock → (v'.ownBlock = v.ownBlock ∨ v'.ownBlock = some w.heap.size) → wpList Tryz.prog ops Q rest (act.put o.dst v') w') :
    wpList Tryz.prog ops Q (o :: rest) act w := by
  obtain ⟨v', w', hr, h2, h3, h4⟩ := run_append_vals2 (ty := o.type) hown hM hL hB
  refine wpList_plain hgd fun K hK => ?_
  unfold Oper.wp execOp
  simp only [ho, resolve, invoke, builtin, Sem.run_bind, Sem.run_pure, Result.andThen_ok, List.map_toArray, List.map_cons, List.map_nil, hs, hx, hr]
  exact hK _ _ (h v' w' h2 h3 h4)

theorem step_vals2 {ops : Array Oper} {o : Oper} {act : Act} {K : Act → World → Prop} {Q : Exit → Act → World → Prop} {E : Prop} (w : World) (hgd : o.guard = none) (s x : Operand)
    (ho : o.op = .call { callee := .builtin .append, args := #[s, x], argTypes := #[27, 27] }) (B : Nat) (v xv : Value) (L M : List (Int × Int)) (hs : act.eval s = v) (hx : act.eval x = xv) (hown : PairRow B w v L) (hM : OpsAt w xv M)
    (hL : L.length + M.length ≤ 2000000) (hB : B ≤ w.heap.size)
    (h : ∀ v' w', PairRow B w' v' (L ++ M) → w.grownBy w' v.ownBlock → (v'.ownBlock = v.ownBlock ∨ v'.ownBlock = some w.heap.size) → K (act.put o.dst v') w') :
    if Region.wanted o (yielded ops act.tmps) = true then Oper.wp Tryz.prog o act w K Q else E := by
  obtain ⟨v', w', hr, h2, h3, h4⟩ := run_append_vals2 (ty := o.type) hown hM hL hB
  rw [if_pos (by simp [Region.wanted, hgd])]
  unfold Oper.wp execOp
  simp only [ho, resolve, invoke, builtin, Sem.run_bind, Sem.run_pure, Result.andThen_ok, List.map_toArray, List.map_cons, List.map_nil, hs, hx, hr]
  exact h v' w' h2 h3 h4

set_option maxRecDepth 100000 in
set_option maxHeartbeats 1000000 in
theorem clone_big (v : Value) (xs : List (Int × Int)) (w : World) (h : OpsAt w v xs) (hl : xs.length ≤ 1048576) :
    Calls Tryz.prog 26 #[v] w fun e w' => ∃ v', e = .returned v' ∧ PairRow w.heap.size w' v' xs ∧ Below w.heap.size w w' := by
  obtain ⟨a, c, rfl, hlm, hc⟩ := id h
  have hnil : ∀ (W : World) (a : Option Addr) (n c : Nat), (binOp .eql 27 (.slice a n c) (.slice none 0 0)).run Tryz.prog W = .ok (.bool a.isNone) W := fun W a n c => Lib.run_eql_slice_nil W _ _ a n c 0 0 Tryz.underlying27
  cases a with
  | none =>
    have hx : xs = [] := by
      cases xs with
      | nil => rfl
      | cons y t => obtain ⟨b, o, e, _⟩ := hc 0 (by simp); cases e
    subst hx
    go_enter Tryz.func26, Tryz.ntmps26
    go_wp2
    go_ret
    exact ⟨_, rfl, PairRow.nil _ _, Below.refl _ _⟩
  | some ad =>
    have N1 := (Below.refl w.heap.size w).alloc (Nat.le_refl _) (.cells #[] 59)
    have mk := PairRow.made (B := w.heap.size) (w := w) (e := 59) (Nat.le_refl _)
    have h1 := h.below N1
    go_enter Tryz.func26, Tryz.ntmps26
    go_wp2_with (at_builtin; refine append_vals2 _ (by rfl) _ _ (by rfl) w.heap.size _ _ [] xs (by rfl) (by rfl) mk h1 (by simp; omega) N1.size ?_; intro v2 w2 hrow2 hg2 hb2; rw [List.nil_append] at hrow2)
    have B2 := N1.grown hg2 N1.size (fun q e => (mk.lt q e).1)
    clear hg2 hb2
    go_ret
    exact ⟨_, rfl, hrow2, B2⟩


/-- a heap without what cannot be come to -/
def trimH (ms : List (Int × Int × List (Int × Int))) (h : Hp) : Hp := if heapOk ms h = true then ⟨viewL h, if h.now = -1 then -1 else 0, h.born, h.said, h.code⟩ else ⟨[], 0, 0, [], 0⟩

structure OkParts (h : Hp) : Prop where
  sh : h.short
  n30 : h.calls.length ≤ 30
  sd : ∀ i, (hi : i < h.calls.length) → -1 ≤ h.calls[i].sender
  now0 : -1 ≤ h.now
  small : ∀ i, (hi : i < h.calls.length) → h.calls[i].temps.length ≤ 4 ∧ h.calls[i].stack.length ≤ 6

theorem ok_parts {ms : List (Int × Int × List (Int × Int))} {h : Hp} (e : heapOk ms h = true) : OkParts h := by
  unfold heapOk at e
  simp only [Bool.and_eq_true] at e
  obtain ⟨⟨eh, ec⟩, _⟩ := e
  have hcl : ∀ i, (hi : i < h.calls.length) → clOk ms h.calls.length h.calls[i] = true := fun i hi => List.all_eq_true.1 ec _ (List.getElem_mem hi)
  unfold headOk at eh
  simp only [Bool.and_eq_true, inR_true, decide_eq_true_iff] at eh
  obtain ⟨⟨⟨⟨⟨⟨ep, en⟩, eb⟩, ecb⟩, _⟩, _⟩, _⟩ := eh
  have hms : ∀ m ∈ ms, m.2.1 ≤ 4 := fun m hm => by
    unfold progOk at ep
    simp only [Bool.and_eq_true] at ep
    have := List.all_eq_true.1 ep.2 m hm
    unfold methOk at this
    simp only [Bool.and_eq_true, inR_true] at this
    omega
  have hsm : ∀ i, (hi : i < h.calls.length) → h.calls[i].temps.length ≤ 4 ∧ h.calls[i].stack.length ≤ 6 := fun i hi => by
    have hc := hcl i hi
    simp only [clOk, Bool.and_eq_true, inR_true, decide_eq_true_iff] at hc
    obtain ⟨⟨⟨⟨hm, _⟩, ht⟩, hst⟩, _⟩ := hc
    refine ⟨?_, hst⟩
    have hlt : h.calls[i].m.toNat < ms.length := by omega
    have hg : ms.getD h.calls[i].m.toNat (0, 0, []) = ms[h.calls[i].m.toNat] := by simp [hlt]
    rw [hg] at ht
    have := hms _ (List.getElem_mem hlt)
    omega
  exact ⟨⟨by omega, fun i hi => by have := hsm i hi; omega⟩, by omega, fun i hi => (clOk_sender (hcl i hi)).1, by omega, hsm⟩

end Go.Proofs.YtoipocnagmpdiaaGreatDoor
