/-
  slices.Repeat, walked.
-/
import Derived.Test.YtehffhhiikahbaaDoorDeepC
namespace Go.Proofs.YtehffhhiikahbaaDoor
open Go.RowKit

/-- copy: -1, m times, over a row that holds them from its head on -/
theorem run_copy_mix {P : Program} {t e ty : TypeId} (ht : P.underlying t = some (.slice e)) (hi : (P.info? e).map (·.size) = some 1) {w : World} {B : Nat} (g k n dl dc m : Nat) (a : Addr) (sl sc : Nat) (hown : IntRow B w (.slice (some ⟨g, 0, none⟩) n n) (mix k n)) (hm : m = Nat.min sl dl) (hk : k + m ≤ n)
    (hsrc : ∀ j, j < m → w.cell? (a.add j) = some (.int .i64 (-1))) :
    (Builtin.copy_ #[t, t] ty #[.slice (some ⟨g, k, none⟩) dl dc, .slice (some a) sl sc]).run P w = .ok (goInt m) (w.setCells g k (List.replicate m (.int .i64 (-1)))) := by
  have hsp : ∀ j, j < m → (w.cell? ⟨g, k + j, none⟩).isSome = true ∧ w.frozen? ⟨g, k + j, none⟩ = false := by
    rcases hown with ⟨hn, _⟩ | ⟨g', off', cap', hv, _, _, _, _, hsp, _⟩
    · cases hn
    · rw [mix_length] at hv
      cases hv
      intro j hj
      have := hsp (k + j) (by omega)
      rwa [Nat.zero_add] at this
  have hr := run_copy_cells (P := P) w t t ty e g k dl dc a sl sc (List.replicate m (.int .i64 (-1))) ht hi (by simpa using hm)
    (fun j v hv => by
      rw [List.getElem?_replicate] at hv
      split at hv
      · rename_i hj; rw [hsrc j hj]; exact hv
      · cases hv)
    (fun j hj => (hsp j (by simpa using hj)).1) (fun j hj => (hsp j (by simpa using hj)).2) (fun v hv => by rw [List.mem_replicate] at hv; rw [hv.2]; rfl)
  rwa [List.length_replicate] at hr

theorem wp_copy_mix {P : Program} {t e : TypeId} (ht : P.underlying t = some (.slice e)) (hi : (P.info? e).map (·.size) = some 1) {o : Oper} {act : Act} {w : World} {K : Act → World → Prop} {Q : Exit → Act → World → Prop} (d s : Operand)
    (ho : o.op = .call { callee := .builtin .copy, args := #[d, s], argTypes := #[t, t] }) {B : Nat} (g k n dl dc m : Nat) (a : Addr) (sl sc : Nat) (hown : IntRow B w (.slice (some ⟨g, 0, none⟩) n n) (mix k n)) (hm : m = Nat.min sl dl) (hk : k + m ≤ n)
    (hsrc : ∀ j, j < m → w.cell? (a.add j) = some (.int .i64 (-1))) (hd : act.eval d = .slice (some ⟨g, k, none⟩) dl dc) (hs : act.eval s = .slice (some a) sl sc)
    (h : K (act.put o.dst (goInt m)) (w.setCells g k (List.replicate m (.int .i64 (-1))))) : o.wp P act w K Q := by
  have hr := run_copy_mix (P := P) (ty := o.type) ht hi g k n dl dc m a sl sc hown hm hk hsrc
  unfold Oper.wp execOp
  simp only [ho, resolve, invoke, builtin, Sem.run_bind, Sem.run_pure, Result.andThen_ok, List.map_toArray, List.map_cons, List.map_nil, hs, hd, hr]
  exact h

theorem step_copy_mix {P : Program} {t e : TypeId} (ht : P.underlying t = some (.slice e)) (hi : (P.info? e).map (·.size) = some 1) {ops : Array Oper} {o : Oper} {act : Act} {w : World} {K : Act → World → Prop} {Q : Exit → Act → World → Prop} {E : Prop} (hgd : o.guard = none) (d s : Operand)
    (ho : o.op = .call { callee := .builtin .copy, args := #[d, s], argTypes := #[t, t] }) {B : Nat} (g k n dl dc m : Nat) (a : Addr) (sl sc : Nat) (hown : IntRow B w (.slice (some ⟨g, 0, none⟩) n n) (mix k n)) (hm : m = Nat.min sl dl) (hk : k + m ≤ n)
    (hsrc : ∀ j, j < m → w.cell? (a.add j) = some (.int .i64 (-1))) (hd : act.eval d = .slice (some ⟨g, k, none⟩) dl dc) (hs : act.eval s = .slice (some a) sl sc)
    (h : K (act.put o.dst (goInt m)) (w.setCells g k (List.replicate m (.int .i64 (-1))))) : if Region.wanted o (yielded ops act.tmps) = true then Oper.wp P o act w K Q else E := by
  rw [if_pos (by simp [Region.wanted, hgd])]
  exact wp_copy_mix ht hi d s ho g k n dl dc m a sl sc hown hm hk hsrc hd hs h

theorem wrap_small (a b : Nat) (h : a + b ≤ 1000000) : IntKind.i64.wrap ((a : Int) + (b : Int)) = ((a + b : Nat) : Int) := by
  rw [IntKind.wrap_i64]; omega

set_option maxRecDepth 100000 in
set_option maxHeartbeats 1000000 in
theorem repeat_any (w : World) (b n : Nat) (hn : n ≤ 14) (hc : w.cell? ⟨b, 0, none⟩ = some (.int .i64 (-1))) :
    Calls Tryd.prog 32 #[.slice (some ⟨b, 0, none⟩) 1 1, .int .i64 n] w fun e w' => Below w.heap.size w w' ∧ ∃ v, e = .returned v ∧ IntRow w.heap.size w' v (List.replicate n (-1)) := by
  have hblt := World.block_lt_of_cell? _ _ hc
  obtain ⟨i0, hi, hz0, hz1, hz2⟩ := info_parts Tryd.infoInt
  have hsz : Hid ((Tryd.prog.info? 3).map (·.size) = some 1) := by show _ = _; rw [hi]; simp [hz1]
  have hmk : ∀ w : World, (Instr.makeSlice 38 (.int .i64 (n : Int)) (.int .i64 (n : Int))).run Tryd.prog w = .ok (.slice (some ⟨w.heap.size, 0, none⟩) n n) (w.alloc (.cells (madeCells #[.int .i64 0] n) 3)) := by
    intro w
    have := run_make (P := Tryd.prog) w 38 3 i0 _ Tryd.underlying38 hi hz0 .i64 .i64 n n (by omega) (Int.le_refl _) (by rw [hz2]; omega) (by omega)
    simpa [hz1, Value.cells] using this
  obtain ⟨m, hm⟩ : ∃ m, m = Nat.min 1 n := ⟨_, rfl⟩
  have hm' : m ≤ n ∧ m ≤ 1 ∧ (0 < n → 0 < m) := by rw [hm]; simp only [Nat.min_def]; split <;> omega
  have Hm : Hid (m = Nat.min 1 n) := hm
  have hmade := mix_made w n 3 (by omega)
  have hcA : (w.alloc (.cells (madeCells #[.int .i64 0] n) 3)).cell? ⟨b, 0, none⟩ = some (.int .i64 (-1)) := cell_below ((Below.refl _ _).alloc (Nat.le_refl _) _) hc
  have hcB : ∀ j, j < m → (w.alloc (.cells (madeCells #[.int .i64 0] n) 3)).cell? ((⟨b, 0, none⟩ : Addr).add j) = some (.int .i64 (-1)) := fun j hj => by
    obtain rfl : j = 0 := by omega
    rw [Addr.add_lit]; exact hcA
  have hcp := run_copy_mix (P := Tryd.prog) (ty := 3) Tryd.underlying38 hsz.out w.heap.size 0 n n n m ⟨b, 0, none⟩ 1 1 hmade Hm.out (by omega) hcB
  clear hi hz0 hz1 hz2 hm
  go_enter Tryd.func32, Tryd.ntmps32
  go_wp2_with (go_at_call 41; refine (mul_one' n hn _).mono ?_; rintro e w' ⟨rfl, hw⟩; obtain rfl := hw.symm)
  clear hmk hcp hcB hcA
  go_loopg [8] (n - m) (fun g i wr => ∃ k : Nat, k ≤ n ∧ (0 < n → 0 < k) ∧ g = n - k ∧ i = .int .i64 k ∧ Below w.heap.size w wr ∧ IntRow w.heap.size wr (.slice (some ⟨w.heap.size, 0, none⟩) n n) (mix k n))
  case atStart => exact ⟨m, hm'.1, hm'.2.2, rfl, rfl, ((Below.refl _ _).alloc (Nat.le_refl _) _).trans (setCells_below _ _ (Nat.le_refl _) _ _ _), by have := mix_copied (m := m) hmade (by omega); rwa [Nat.zero_add] at this⟩
  case round =>
    obtain ⟨k, hk, hk0, rfl, rfl, hb, hrow⟩ := hrel
    by_cases hlt : k < n
    · have hkz : (k : Int) < (n : Int) := by omega
      obtain ⟨m2, hm2⟩ : ∃ m2, m2 = Nat.min k (n - k) := ⟨_, rfl⟩
      have hm2' : k + m2 ≤ n ∧ m2 ≤ k ∧ 0 < m2 := by rw [hm2]; simp only [Nat.min_def]; split <;> omega
      have Hm2 : Hid (m2 = Nat.min k (n - k)) := hm2
      clear hm2
      have hne : ¬ n = k := by omega
      have hne' : ¬ k = n := by omega
      have hsrc : ∀ j, j < m2 → wr.cell? ((⟨w.heap.size, 0, none⟩ : Addr).add j) = some (.int .i64 (-1)) := fun j hj => by
        have := (hrow.cell (i := j) (by rw [mix_length]; omega)).1
        rw [mix_at, if_pos (by omega)] at this
        rw [Addr.add_lit]; exact this
      go_wp2_with fail
      go_region_law (refine step_copy_mix Tryd.underlying38 hsz.out (by rfl) (.tmp 41) (.tmp 44) (by rfl) w.heap.size k n (n - k) (n - k) m2 ⟨w.heap.size, 0, none⟩ k n hrow Hm2.out (by omega) hsrc (by simp [Act.eval, Act.put]) (by simp [Act.eval, Act.put]) ?_)
      go_wp2
      go_roundg (n - (k + m2))
      case measure => omega
      case rel => exact ⟨k + m2, by omega, fun _ => by omega, rfl, by rw [wrap_small _ _ (by omega)], hb.drew.trans (setCells_below _ _ (Nat.le_refl _) _ _ _), mix_copied (w := wr.drew) hrow (by omega)⟩
    · obtain rfl : k = n := by omega
      go_wp2
      go_ret
      exact ⟨hb, _, rfl, by rw [← mix_full]; exact hrow⟩

end Go.Proofs.YtehffhhiikahbaaDoor
