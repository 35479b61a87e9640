/-
  slices.Repeat of the one number -1, at most 30 times, as the program calls it: a row of its own.
-/
import Derived.Test.YtldiccheboipeaaInts
import Derived.Test.YtldiccheboipeaaCRow
import Derived.Test.YtldiccheboipeaaHChain
import Derived.Laws.IdiomCopy
import Derived.Deep.RegionLaw
namespace Go.Proofs.Ytldiccheboipeaa
open Go.RowKit

set_option maxRecDepth 100000 in
set_option maxHeartbeats 4000000 in
theorem mul64_one (n : Nat) (h : n ≤ 30) (w : World) : Calls Try.prog 150 #[.int .u64 1, .int .u64 n] w fun e w' => e = .returned (.tuple #[.int .u64 0, .int .u64 n]) ∧ w' = w := by
  have h31 : n = 0 ∨ n = 1 ∨ n = 2 ∨ n = 3 ∨ n = 4 ∨ n = 5 ∨ n = 6 ∨ n = 7 ∨ n = 8 ∨ n = 9 ∨ n = 10 ∨ n = 11 ∨ n = 12 ∨ n = 13 ∨ n = 14 ∨ n = 15 ∨ n = 16 ∨ n = 17 ∨ n = 18 ∨ n = 19 ∨ n = 20 ∨ n = 21 ∨ n = 22 ∨ n = 23 ∨ n = 24 ∨ n = 25 ∨ n = 26 ∨ n = 27 ∨ n = 28 ∨ n = 29 ∨ n = 30 := by omega
  clear h
  rcases h31 with rfl | rfl | rfl | rfl | rfl | rfl | rfl | rfl | rfl | rfl | rfl | rfl | rfl | rfl | rfl | rfl | rfl | rfl | rfl | rfl | rfl | rfl | rfl | rfl | rfl | rfl | rfl | rfl | rfl | rfl | rfl
  all_goals
    go_enter Try.func150, Try.ntmps150
    go_wp2
    go_ret2
    exact ⟨rfl, rfl⟩

theorem mul_one' (n : Nat) (h : n ≤ 30) (w : World) : Calls Try.prog 135 #[.int .u64 1, .int .u64 n] w fun e w' => e = .returned (.tuple #[.int .u64 0, .int .u64 n]) ∧ w' = w := by
  go_enter Try.func135, Try.ntmps135
  go_wp2_with (go_at_call 150; refine (mul64_one n h _).mono ?_; rintro e w' ⟨rfl, hw⟩; obtain rfl := hw.symm)
  go_ret2
  exact ⟨rfl, rfl⟩

/-- k times -1, then 0, n in all -/
def mix (k n : Nat) : List Int := (List.range n).map fun i => if i < k then -1 else 0

theorem mix_length (k n : Nat) : (mix k n).length = n := by simp [mix]
theorem mix_at (k n i : Nat) (h : i < (mix k n).length) : (mix k n)[i] = if i < k then -1 else 0 := by simp [mix]
theorem mix_full (n : Nat) : mix n n = List.replicate n (-1) := by
  refine List.ext_getElem (by simp [mix]) fun i h1 h2 => ?_
  rw [mix_at]
  simp at h2
  simp [h2]

/-- the row as it is made -/
theorem mix_made (w : World) (n : Nat) (t : TypeId) (h : n ≤ 1000) : IntRow w.heap.size (w.alloc (.cells (madeCells #[.int .i64 0] n) t)) (.slice (some ⟨w.heap.size, 0, none⟩) n n) (mix 0 n) := by
  have hblk := Go.Deep.blk_alloc_new w (.cells (madeCells #[.int .i64 0] n) t)
  refine .inr ⟨w.heap.size, 0, n, by rw [mix_length], Nat.le_refl _, by simp, by rw [mix_length]; exact Nat.le_refl _, by unfold maxLen; omega, fun j hj => ⟨?_, ?_⟩, fun j hj => ?_⟩
  · rw [cell_of_row _ _ _ _ _ _ hblk]
    simp [madeCells, hj]
  · unfold World.frozen?; rw [hblk]; simp
  · rw [cell_of_row _ _ _ _ _ _ hblk, mix_at]
    rw [mix_length] at hj
    simp [madeCells, hj, Nat.mod_one]

theorem setCells_below (B g : Nat) (hB : B ≤ g) : ∀ (vs : List Value) (o : Nat) (W : World), Below B W (W.setCells g o vs) := by
  intro vs
  induction vs with
  | nil => intro o W; exact Below.refl _ _
  | cons v r ih => intro o W; rw [World.setCells]; exact ((Below.refl B W).setCell (p := ⟨g, o, none⟩) hB v).trans (ih _ _)

/-- m more are laid over it -/
theorem mix_copied {B g k n m : Nat} {w : World} (h : IntRow B w (.slice (some ⟨g, 0, none⟩) n n) (mix k n)) (hm : k + m ≤ n) : IntRow B (w.setCells g k (List.replicate m (.int .i64 (-1)))) (.slice (some ⟨g, 0, none⟩) n n) (mix (k + m) n) := by
  rcases h with ⟨h, _⟩ | ⟨g', off', cap', hv, hB, hg, hl, hc, hsp, hx⟩
  · cases h
  · rw [mix_length] at hv
    cases hv
    have hin := World.cell?_setCells_in g (List.replicate m (.int .i64 (-1))) k w (fun j hj => by
      simp at hj
      have := (hsp (k + j) (by omega)).1
      rwa [Nat.zero_add] at this)
    refine .inr ⟨g, 0, n, by rw [mix_length], hB, by rw [setCells_size]; exact hg, by rw [mix_length]; exact Nat.le_refl _, hc, fun j hj => ?_, fun j hj => ?_⟩
    · rw [World.frozen?_setCells]
      refine ⟨?_, (hsp j hj).2⟩
      by_cases hi : k ≤ j ∧ j < k + m
      · have := hin (j - k) (by simp; omega)
        rw [show k + (j - k) = 0 + j by omega] at this
        rw [this]; rfl
      · rw [World.cell?_setCells_out g _ _ _ _ (fun _ _ => by simp; omega)]
        exact (hsp j hj).1
    · rw [mix_at]
      rw [mix_length] at hj
      by_cases hi : k ≤ j ∧ j < k + m
      · have := hin (j - k) (by simp; omega)
        rw [show k + (j - k) = 0 + j by omega] at this
        rw [this, if_pos hi.2]
        simp
      · rw [World.cell?_setCells_out g _ _ _ _ (fun _ _ => by simp; omega)]
        have := hx j (by rw [mix_length]; exact hj)
        rw [this, mix_at]
        by_cases hk : j < k
        · rw [if_pos hk, if_pos (by omega)]
        · rw [if_neg hk, if_neg (by omega)]

/-- copy: -1, m times, over a row that holds them from its head on -/
theorem run_copy_mix {P : Program} {t e ty : TypeId} (ht : P.underlying t = some (.slice e)) (hi : (P.info? e).map (·.size) = some 1) {w : World} {B : Nat} (g k n dl dc m : Nat) (a : Addr) (sl sc : Nat) (hown : IntRow B w (.slice (some ⟨g, 0, none⟩) n n) (mix k n)) (hm : m = Nat.min sl dl) (hk : k + m ≤ n)
    (hsrc : ∀ j, j < m → w.cell? (a.add j) = some (.int .i64 (-1))) :
    (Builtin.copy_ #[t, t] ty #[.slice (some ⟨g, k, none⟩) dl dc, .slice (some a) sl sc]).run P w = .ok (goInt m) (w.setCells g k (List.replicate m (.int .i64 (-1)))) := by
  have hsp : ∀ j, j < m → (w.cell? ⟨g, k + j, none⟩).isSome = true ∧ w.frozen? ⟨g, k + j, none⟩ = false := by
    rcases hown with ⟨hn, _⟩ | ⟨g', off', cap', hv, _, _, _, _, hsp, _⟩
    · cases hn
    · rw [mix_length] at hv
      cases hv
      intro j hj
      have := hsp (k + j) (by omega)
      rwa [Nat.zero_add] at this
  have hr := run_copy_cells (P := P) w t t ty e g k dl dc a sl sc (List.replicate m (.int .i64 (-1))) ht hi (by simpa using hm)
    (fun j v hv => by
      rw [List.getElem?_replicate] at hv
      split at hv
      · rename_i hj; rw [hsrc j hj]; exact hv
      · cases hv)
    (fun j hj => (hsp j (by simpa using hj)).1) (fun j hj => (hsp j (by simpa using hj)).2) (fun v hv => by rw [List.mem_replicate] at hv; rw [hv.2]; rfl)
  rwa [List.length_replicate] at hr

theorem wp_copy_mix {P : Program} {t e : TypeId} (ht : P.underlying t = some (.slice e)) (hi : (P.info? e).map (·.size) = some 1) {o : Oper} {act : Act} {w : World} {K : Act → World → Prop} {Q : Exit → Act → World → Prop} (d s : Operand)
    (ho : o.op = .call { callee := .builtin .copy, args := #[d, s], argTypes := #[t, t] }) {B : Nat} (g k n dl dc m : Nat) (a : Addr) (sl sc : Nat) (hown : IntRow B w (.slice (some ⟨g, 0, none⟩) n n) (mix k n)) (hm : m = Nat.min sl dl) (hk : k + m ≤ n)
    (hsrc : ∀ j, j < m → w.cell? (a.add j) = some (.int .i64 (-1))) (hd : act.eval d = .slice (some ⟨g, k, none⟩) dl dc) (hs : act.eval s = .slice (some a) sl sc)
    (h : K (act.put o.dst (goInt m)) (w.setCells g k (List.replicate m (.int .i64 (-1))))) : o.wp P act w K Q := by
  have hr := run_copy_mix (P := P) (ty := o.type) ht hi g k n dl dc m a sl sc hown hm hk hsrc
  unfold Oper.wp execOp
  simp only [ho, resolve, invoke, builtin, Sem.run_bind, Sem.run_pure, Result.andThen_ok, List.map_toArray, List.map_cons, List.map_nil, hs, hd, hr]
  exact h

theorem step_copy_mix {P : Program} {t e : TypeId} (ht : P.underlying t = some (.slice e)) (hi : (P.info? e).map (·.size) = some 1) {ops : Array Oper} {o : Oper} {act : Act} {w : World} {K : Act → World → Prop} {Q : Exit → Act → World → Prop} {E : Prop} (hgd : o.guard = none) (d s : Operand)
    (ho : o.op = .call { callee := .builtin .copy, args := #[d, s], argTypes := #[t, t] }) {B : Nat} (g k n dl dc m : Nat) (a : Addr) (sl sc : Nat) (hown : IntRow B w (.slice (some ⟨g, 0, none⟩) n n) (mix k n)) (hm : m = Nat.min sl dl) (hk : k + m ≤ n)
    (hsrc : ∀ j, j < m → w.cell? (a.add j) = some (.int .i64 (-1))) (hd : act.eval d = .slice (some ⟨g, k, none⟩) dl dc) (hs : act.eval s = .slice (some a) sl sc)
    (h : K (act.put o.dst (goInt m)) (w.setCells g k (List.replicate m (.int .i64 (-1))))) : if Region.wanted o (yielded ops act.tmps) = true then Oper.wp P o act w K Q else E := by
  rw [if_pos (by simp [Region.wanted, hgd])]
  exact wp_copy_mix ht hi d s ho g k n dl dc m a sl sc hown hm hk hsrc hd hs h

theorem wrap_small (a b : Nat) (h : a + b ≤ 1000000) : IntKind.i64.wrap ((a : Int) + (b : Int)) = ((a + b : Nat) : Int) := by
  rw [IntKind.wrap_i64]; omega

set_option maxRecDepth 100000 in
set_option maxHeartbeats 1000000 in
theorem repeat_any (w : World) (b n : Nat) (hn : n ≤ 30) (hc : w.cell? ⟨b, 0, none⟩ = some (.int .i64 (-1))) :
    Calls Try.prog 102 #[.slice (some ⟨b, 0, none⟩) 1 1, .int .i64 n] w fun e w' => Below w.heap.size w w' ∧ ∃ v, e = .returned v ∧ IntRow w.heap.size w' v (List.replicate n (-1)) := by
  have hblt := World.block_lt_of_cell? _ _ hc
  obtain ⟨i0, hi, hz0, hz1, hz2⟩ := info_parts Try.infoInt2
  have hsz : Hid ((Try.prog.info? 3).map (·.size) = some 1) := by show _ = _; rw [hi]; simp [hz1]
  have hmk : ∀ w : World, (Instr.makeSlice 29 (.int .i64 (n : Int)) (.int .i64 (n : Int))).run Try.prog w = .ok (.slice (some ⟨w.heap.size, 0, none⟩) n n) (w.alloc (.cells (madeCells #[.int .i64 0] n) 3)) := by
    intro w
    have := run_make (P := Try.prog) w 29 3 i0 _ Try.underlying29 hi hz0 .i64 .i64 n n (by omega) (Int.le_refl _) (by rw [hz2]; omega) (by omega)
    simpa [hz1, Value.cells] using this
  obtain ⟨m, hm⟩ : ∃ m, m = Nat.min 1 n := ⟨_, rfl⟩
  have hm' : m ≤ n ∧ m ≤ 1 ∧ (0 < n → 0 < m) := by rw [hm]; simp only [Nat.min_def]; split <;> omega
  have Hm : Hid (m = Nat.min 1 n) := hm
  have hmade := mix_made w n 3 (by omega)
  have hcA : (w.alloc (.cells (madeCells #[.int .i64 0] n) 3)).cell? ⟨b, 0, none⟩ = some (.int .i64 (-1)) := cell_below ((Below.refl _ _).alloc (Nat.le_refl _) _) hc
  have hcB : ∀ j, j < m → (w.alloc (.cells (madeCells #[.int .i64 0] n) 3)).cell? ((⟨b, 0, none⟩ : Addr).add j) = some (.int .i64 (-1)) := fun j hj => by
    obtain rfl : j = 0 := by omega
    rw [Addr.add_lit]; exact hcA
  have hcp := run_copy_mix (P := Try.prog) (ty := 3) Try.underlying29 hsz.out w.heap.size 0 n n n m ⟨b, 0, none⟩ 1 1 hmade Hm.out (by omega) hcB
  clear hi hz0 hz1 hz2 hm
  go_enter Try.func102, Try.ntmps102
  go_wp2_with (go_at_call 135; refine (mul_one' n hn _).mono ?_; rintro e w' ⟨rfl, hw⟩; obtain rfl := hw.symm)
  clear hmk hcp hcB hcA
  go_loopg [8] (n - m) (fun g i wr => ∃ k : Nat, k ≤ n ∧ (0 < n → 0 < k) ∧ g = n - k ∧ i = .int .i64 k ∧ Below w.heap.size w wr ∧ IntRow w.heap.size wr (.slice (some ⟨w.heap.size, 0, none⟩) n n) (mix k n))
  case atStart => exact ⟨m, hm'.1, hm'.2.2, rfl, rfl, ((Below.refl _ _).alloc (Nat.le_refl _) _).trans (setCells_below _ _ (Nat.le_refl _) _ _ _), by have := mix_copied (m := m) hmade (by omega); rwa [Nat.zero_add] at this⟩
  case round =>
    obtain ⟨k, hk, hk0, rfl, rfl, hb, hrow⟩ := hrel
    by_cases hlt : k < n
    · have hkz : (k : Int) < (n : Int) := by omega
      obtain ⟨m2, hm2⟩ : ∃ m2, m2 = Nat.min k (n - k) := ⟨_, rfl⟩
      have hm2' : k + m2 ≤ n ∧ m2 ≤ k ∧ 0 < m2 := by rw [hm2]; simp only [Nat.min_def]; split <;> omega
      have Hm2 : Hid (m2 = Nat.min k (n - k)) := hm2
      clear hm2
      have hne : ¬ n = k := by omega
      have hne' : ¬ k = n := by omega
      have hsrc : ∀ j, j < m2 → wr.cell? ((⟨w.heap.size, 0, none⟩ : Addr).add j) = some (.int .i64 (-1)) := fun j hj => by
        have := (hrow.cell (i := j) (by rw [mix_length]; omega)).1
        rw [mix_at, if_pos (by omega)] at this
        rw [Addr.add_lit]; exact this
      go_wp2_with fail
      go_region_law (refine step_copy_mix Try.underlying29 hsz.out (by rfl) (.tmp 41) (.tmp 44) (by rfl) w.heap.size k n (n - k) (n - k) m2 ⟨w.heap.size, 0, none⟩ k n hrow Hm2.out (by omega) hsrc (by simp [Act.eval, Act.put]) (by simp [Act.eval, Act.put]) ?_)
      go_wp2
      go_roundg (n - (k + m2))
      case measure => omega
      case rel => exact ⟨k + m2, by omega, fun _ => by omega, rfl, by rw [wrap_small _ _ (by omega)], hb.drew.trans (setCells_below _ _ (Nat.le_refl _) _ _ _), mix_copied (w := wr.drew) hrow (by omega)⟩
    · obtain rfl : k = n := by omega
      go_wp2
      go_ret
      exact ⟨hb, _, rfl, by rw [← mix_full]; exact hrow⟩

end Go.Proofs.Ytldiccheboipeaa
