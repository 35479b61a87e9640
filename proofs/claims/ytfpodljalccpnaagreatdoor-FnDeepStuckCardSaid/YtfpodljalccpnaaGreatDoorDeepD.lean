/-
  slices.Repeat of the one number -1, at most 14 times, as the program calls it: a row of its own.
-/
import Derived.Test.YtfpodljalccpnaaGreatDoorDeepE
import Derived.Laws.IdiomCopy
import Derived.Deep.RegionLaw
import Derived.Test.YtfpodljalccpnaaGreatDoorImplOk3
import Derived.Deep.RegionHeld3

namespace Go.Proofs.YtfpodljalccpnaaGreatDoor
open Go.RowKit
set_option maxRecDepth 100000 in
set_option maxHeartbeats 4000000 in
theorem dd_mul64_one (n : Nat) (h : n ≤ 14) (w : World) : Calls Tryz.prog 116 #[.int .u64 1, .int .u64 n] w fun e w' => e = .returned (.tuple #[.int .u64 0, .int .u64 n]) ∧ w' = w := by
  match n, h with
  | 0, _ | 1, _ | 2, _ | 3, _ | 4, _ | 5, _ | 6, _ | 7, _ | 8, _ | 9, _ | 10, _ | 11, _ | 12, _ | 13, _ | 14, _ =>
    all_goals
      go_enter Tryz.func116, Tryz.ntmps116
      go_wp2
      go_ret2
      exact ⟨rfl, rfl⟩
theorem dd_mul_one' (n : Nat) (h : n ≤ 14) (w : World) : Calls Tryz.prog 95 #[.int .u64 1, .int .u64 n] w fun e w' => e = .returned (.tuple #[.int .u64 0, .int .u64 n]) ∧ w' = w := by
  go_enter Tryz.func95, Tryz.ntmps95
  go_wp2_with (go_at_call 116; refine (dd_mul64_one n h _).mono ?_; rintro e w' ⟨rfl, hw⟩; obtain rfl := hw.symm)
  go_ret2
  exact ⟨rfl, rfl⟩
def dd_mix (k n : Nat) : List Int := (List.range n).map fun i => if i < k then -1 else 0
theorem dd_mix_length (k n : Nat) : (dd_mix k n).length = n := by simp [dd_mix]
theorem dd_mix_at (k n i : Nat) (h : i < (dd_mix k n).length) : (dd_mix k n)[i] = if i < k then -1 else 0 := by simp [dd_mix]
theorem dd_mix_full (n : Nat) : dd_mix n n = List.replicate n (-1) := by
  refine List.ext_getElem (by simp [dd_mix]) fun i h1 h2 => ?_
  rw [dd_mix_at]
  simp at h2
  simp [h2]
theorem dd_mix_made (w : World) (n : Nat) (t : TypeId) (h : n ≤ 1000) : IntRow w.heap.size (w.alloc (.cells (madeCells #[.int .i64 0] n) t)) (.slice (some ⟨w.heap.size, 0, none⟩) n n) (dd_mix 0 n) := by
  have hblk := Go.Deep.blk_alloc_new w (.cells (madeCells #[.int .i64 0] n) t)
  refine .inr ⟨w.heap.size, 0, n, by rw [dd_mix_length], Nat.le_refl _, by simp, by rw [dd_mix_length]; exact Nat.le_refl _, by unfold maxLen; omega, fun j hj => ⟨?_, ?_⟩, fun j hj => ?_⟩
  · rw [cell_of_row _ _ _ _ _ _ hblk]
    simp [madeCells, hj]
  · unfold World.frozen?; rw [hblk]; simp
  · rw [cell_of_row _ _ _ _ _ _ hblk, dd_mix_at]
    rw [dd_mix_length] at hj
    simp [madeCells, hj, Nat.mod_one]
theorem dd_setCells_size (g : Nat) : ∀ (vs : List Value) (o : Nat) (W : World), (W.setCells g o vs).heap.size = W.heap.size := by
  intro vs
  induction vs with
  | nil => intro o W; rfl
  | cons v r ih => intro o W; rw [World.setCells, ih]; simp [World.setCell]
theorem dd_setCells_below (B g : Nat) (hB : B ≤ g) : ∀ (vs : List Value) (o : Nat) (W : World), Below B W (W.setCells g o vs) := by
  intro vs
  induction vs with
  | nil => intro o W; exact Below.refl _ _
  | cons v r ih => intro o W; rw [World.setCells]; exact (below_set (Below.refl B W) g o v hB).trans (ih _ _)
theorem dd_mix_copied {B g k n m : Nat} {w : World} (h : IntRow B w (.slice (some ⟨g, 0, none⟩) n n) (dd_mix k n)) (hm : k + m ≤ n) : IntRow B (w.setCells g k (List.replicate m (.int .i64 (-1)))) (.slice (some ⟨g, 0, none⟩) n n) (dd_mix (k + m) n) := by
  rcases h with ⟨h, _⟩ | ⟨g', off', cap', hv, hB, hg, hl, hc, hsp, hx⟩
  · cases h
  · rw [dd_mix_length] at hv
    cases hv
    have hin := World.cell?_setCells_in g (List.replicate m (.int .i64 (-1))) k w (fun j hj => by
      simp at hj
      have := (hsp (k + j) (by omega)).1
      rwa [Nat.zero_add] at this)
    refine .inr ⟨g, 0, n, by rw [dd_mix_length], hB, by rw [dd_setCells_size]; exact hg, by rw [dd_mix_length]; exact Nat.le_refl _, hc, fun j hj => ?_, fun j hj => ?_⟩
    · rw [World.frozen?_setCells]
      refine ⟨?_, (hsp j hj).2⟩
      by_cases hi : k ≤ j ∧ j < k + m
      · have := hin (j - k) (by simp; omega)
        rw [show k + (j - k) = 0 + j by omega] at this
        rw [this]; rfl
      · rw [World.cell?_setCells_out g _ _ _ _ (fun _ _ => by simp; omega)]
        exact (hsp j hj).1
    · rw [dd_mix_at]
      rw [dd_mix_length] at hj
      by_cases hi : k ≤ j ∧ j < k + m
      · have := hin (j - k) (by simp; omega)
        rw [show k + (j - k) = 0 + j by omega] at this
        rw [this, if_pos hi.2]
        simp
      · rw [World.cell?_setCells_out g _ _ _ _ (fun _ _ => by simp; omega)]
        have := hx j (by rw [dd_mix_length]; exact hj)
        rw [this, dd_mix_at]
        by_cases hk : j < k
        · rw [if_pos hk, if_pos (by omega)]
        · rw [if_neg hk, if_neg (by omega)]
end Go.Proofs.YtfpodljalccpnaaGreatDoor

/-
  slices.Repeat, walked.
-/
namespace Go.Proofs.YtfpodljalccpnaaGreatDoor
open Go.RowKit
theorem dd_run_copy_mix {P : Program} {t e ty : TypeId} (ht : P.underlying t = some (.slice e)) (hi : (P.info? e).map (·.size) = some 1) {w : World} {B : Nat} (g k n dl dc m : Nat) (a : Addr) (sl sc : Nat) (hown : IntRow B w (.slice (some ⟨g, 0, none⟩) n n) (dd_mix k n)) (hm : m = Nat.min sl dl) (hk : k + m ≤ n)
    (hsrc : ∀ j, j < m → w.cell? (a.add j) = some (.int .i64 (-1))) :
    (Builtin.copy_ #[t, t] ty #[.slice (some ⟨g, k, none⟩) dl dc, .slice (some a) sl sc]).run P w = .ok (goInt m) (w.setCells g k (List.replicate m (.int .i64 (-1)))) := by
  have hsp : ∀ j, j < m → (w.cell? ⟨g, k + j, none⟩).isSome = true ∧ w.frozen? ⟨g, k + j, none⟩ = false := by
    rcases hown with ⟨hn, _⟩ | ⟨g', off', cap', hv, _, _, _, _, hsp, _⟩
    · cases hn
    · rw [dd_mix_length] at hv
      cases hv
      intro j hj
      have := hsp (k + j) (by omega)
      rwa [Nat.zero_add] at this
  have hr := run_copy_cells (P := P) w t t ty e g k dl dc a sl sc (List.replicate m (.int .i64 (-1))) ht hi (by simpa using hm)
    (fun j v hv => by
      rw [List.getElem?_replicate] at hv
      split at hv
      · rename_i hj; rw [hsrc j hj]; exact hv
      · cases hv)
    (fun j hj => (hsp j (by simpa using hj)).1) (fun j hj => (hsp j (by simpa using hj)).2) (fun v hv => by rw [List.mem_replicate] at hv; rw [hv.2]; rfl)
  rwa [List.length_replicate] at hr
theorem dd_wp_copy_mix {P : Program} {t e : TypeId} (ht : P.underlying t = some (.slice e)) (hi : (P.info? e).map (·.size) = some 1) {o : Oper} {act : Act} {w : World} {K : Act → World → Prop} {Q : Exit → Act → World → Prop} (d s : Operand)
    (ho : o.op = .call { callee := .builtin .copy, args := #[d, s], argTypes := #[t, t] }) {B : Nat} (g k n dl dc m : Nat) (a : Addr) (sl sc : Nat) (hown : IntRow B w (.slice (some ⟨g, 0, none⟩) n n) (dd_mix k n)) (hm : m = Nat.min sl dl) (hk : k + m ≤ n)
    (hsrc : ∀ j, j < m → w.cell? (a.add j) = some (.int .i64 (-1))) (hd : act.eval d = .slice (some ⟨g, k, none⟩) dl dc) (hs : act.eval s = .slice (some a) sl sc)
    (h : K (act.put o.dst (goInt m)) (w.setCells g k (List.replicate m (.int .i64 (-1))))) : o.wp P act w K Q := by
  have hr := dd_run_copy_mix (P := P) (ty := o.type) ht hi g k n dl dc m a sl sc hown hm hk hsrc
  unfold Oper.wp execOp
  simp only [ho, resolve, invoke, builtin, Sem.run_bind, Sem.run_pure, Result.andThen_ok, List.map_toArray, List.map_cons, List.map_nil, hs, hd, hr]
  exact h
theorem dd_step_copy_mix {P : Program} {t e : TypeId} (ht : P.underlying t = some (.slice e)) (hi : (P.info? e).map (·.size) = some 1) {ops : Array Oper} {o : Oper} {act : Act} {w : World} {K : Act → World → Prop} {Q : Exit → Act → World → Prop} {E : Prop} (hgd : o.guard = none) (d s : Operand)
    (ho : o.op = .call { callee := .builtin .copy, args := #[d, s], argTypes := #[t, t] }) {B : Nat} (g k n dl dc m : Nat) (a : Addr) (sl sc : Nat) (hown : IntRow B w (.slice (some ⟨g, 0, none⟩) n n) (dd_mix k n)) (hm : m = Nat.min sl dl) (hk : k + m ≤ n)
    (hsrc : ∀ j, j < m → w.cell? (a.add j) = some (.int .i64 (-1))) (hd : act.eval d = .slice (some ⟨g, k, none⟩) dl dc) (hs : act.eval s = .slice (some a) sl sc)
    (h : K (act.put o.dst (goInt m)) (w.setCells g k (List.replicate m (.int .i64 (-1))))) : if Region.wanted o (yielded ops act.tmps) = true then Oper.wp P o act w K Q else E := by
  rw [if_pos (by simp [Region.wanted, hgd])]
  exact dd_wp_copy_mix ht hi d s ho g k n dl dc m a sl sc hown hm hk hsrc hd hs h
theorem dd_wrap_small (a b : Nat) (h : a + b ≤ 1000000) : IntKind.i64.wrap ((a : Int) + (b : Int)) = ((a + b : Nat) : Int) := by
  rw [IntKind.wrap_i64]; omega
set_option maxRecDepth 100000 in
set_option maxHeartbeats 1000000 in
theorem dd_repeat_any (w : World) (b n : Nat) (hn : n ≤ 14) (hc : w.cell? ⟨b, 0, none⟩ = some (.int .i64 (-1))) :
    Calls Tryz.prog 70 #[.slice (some ⟨b, 0, none⟩) 1 1, .int .i64 n] w fun e w' => Below w.heap.size w w' ∧ ∃ v, e = .returned v ∧ IntRow w.heap.size w' v (List.replicate n (-1)) := by
  have hblt := World.block_lt_of_cell? _ _ hc
  obtain ⟨i0, hi, hz0, hz1, hz2⟩ := info_parts Tryz.infoInt
  have hsz : Hid ((Tryz.prog.info? 3).map (·.size) = some 1) := by show _ = _; rw [hi]; simp [hz1]
  have hmk : ∀ w : World, (Instr.makeSlice 63 (.int .i64 (n : Int)) (.int .i64 (n : Int))).run Tryz.prog w = .ok (.slice (some ⟨w.heap.size, 0, none⟩) n n) (w.alloc (.cells (madeCells #[.int .i64 0] n) 3)) := by
    intro w
    have := run_make (P := Tryz.prog) w 63 3 i0 _ Tryz.underlying63 hi hz0 .i64 .i64 n n (by omega) (Int.le_refl _) (by rw [hz2]; omega) (by omega)
    simpa [hz1, Value.cells] using this
  obtain ⟨m, hm⟩ : ∃ m, m = Nat.min 1 n := ⟨_, rfl⟩
  have hm' : m ≤ n ∧ m ≤ 1 ∧ (0 < n → 0 < m) := by rw [hm]; simp only [Nat.min_def]; split <;> omega
  have Hm : Hid (m = Nat.min 1 n) := hm
  have hmade := dd_mix_made w n 3 (by omega)
  have hcA : (w.alloc (.cells (madeCells #[.int .i64 0] n) 3)).cell? ⟨b, 0, none⟩ = some (.int .i64 (-1)) := cell_below ((Below.refl _ _).alloc (Nat.le_refl _) _) hc
  have hcB : ∀ j, j < m → (w.alloc (.cells (madeCells #[.int .i64 0] n) 3)).cell? ((⟨b, 0, none⟩ : Addr).add j) = some (.int .i64 (-1)) := fun j hj => by
    obtain rfl : j = 0 := by omega
    rw [Addr.add_lit]; exact hcA
  have hcp := dd_run_copy_mix (P := Tryz.prog) (ty := 3) Tryz.underlying63 hsz.out w.heap.size 0 n n n m ⟨b, 0, none⟩ 1 1 hmade Hm.out (by omega) hcB
  clear hi hz0 hz1 hz2 hm
  go_enter Tryz.func70, Tryz.ntmps70
  go_wp2_with (go_at_call 95; refine (dd_mul_one' n hn _).mono ?_; rintro e w' ⟨rfl, hw⟩; obtain rfl := hw.symm)
  clear hmk hcp hcB hcA
  go_loopg [8] (n - m) (fun g i wr => ∃ k : Nat, k ≤ n ∧ (0 < n → 0 < k) ∧ g = n - k ∧ i = .int .i64 k ∧ Below w.heap.size w wr ∧ IntRow w.heap.size wr (.slice (some ⟨w.heap.size, 0, none⟩) n n) (dd_mix k n))
  case atStart => exact ⟨m, hm'.1, hm'.2.2, rfl, rfl, ((Below.refl _ _).alloc (Nat.le_refl _) _).trans (dd_setCells_below _ _ (Nat.le_refl _) _ _ _), by have := dd_mix_copied (m := m) hmade (by omega); rwa [Nat.zero_add] at this⟩
  case round =>
    obtain ⟨k, hk, hk0, rfl, rfl, hb, hrow⟩ := hrel
    by_cases hlt : k < n
    · have hkz : (k : Int) < (n : Int) := by omega
      obtain ⟨m2, hm2⟩ : ∃ m2, m2 = Nat.min k (n - k) := ⟨_, rfl⟩
      have hm2' : k + m2 ≤ n ∧ m2 ≤ k ∧ 0 < m2 := by rw [hm2]; simp only [Nat.min_def]; split <;> omega
      have Hm2 : Hid (m2 = Nat.min k (n - k)) := hm2
      clear hm2
      have hne : ¬ n = k := by omega
      have hne' : ¬ k = n := by omega
      have hsrc : ∀ j, j < m2 → wr.cell? ((⟨w.heap.size, 0, none⟩ : Addr).add j) = some (.int .i64 (-1)) := fun j hj => by
        have := (hrow.cell (i := j) (by rw [dd_mix_length]; omega)).1
        rw [dd_mix_at, if_pos (by omega)] at this
        rw [Addr.add_lit]; exact this
      go_wp2_with fail
      go_region_law (refine dd_step_copy_mix Tryz.underlying63 hsz.out (by rfl) (.tmp 41) (.tmp 44) (by rfl) w.heap.size k n (n - k) (n - k) m2 ⟨w.heap.size, 0, none⟩ k n hrow Hm2.out (by omega) hsrc (by simp [Act.eval, Act.put]) (by simp [Act.eval, Act.put]) ?_)
      go_wp2
      go_roundg (n - (k + m2))
      case measure => omega
      case rel => exact ⟨k + m2, by omega, fun _ => by omega, rfl, by rw [dd_wrap_small _ _ (by omega)], hb.drew.trans (dd_setCells_below _ _ (Nat.le_refl _) _ _ _), dd_mix_copied (w := wr.drew) hrow (by omega)⟩
    · obtain rfl : k = n := by omega
      go_wp2
      go_ret
      exact ⟨hb, _, rfl, by rw [← dd_mix_full]; exact hrow⟩
end Go.Proofs.YtfpodljalccpnaaGreatDoor

/-
  The program's DeepAt, walked: its answer is the right table, or that there is none; it writes to nothing that was there.
-/
namespace Go.Proofs.YtfpodljalccpnaaGreatDoor
open Go.RowKit
theorem todo_cons (ah q : List Int) (k : Int) : todo ah (k :: q) = todo ah q + 1 := by simp [todo]; omega
theorem todo_start (n : Nat) (h : 0 < n) : todo ((List.replicate n (-1 : Int)).set 0 0) [0] = n := by
  have := count_set (List.replicate n (-1 : Int)) 0 (by simpa using h) 0 (by simp) (by decide)
  rw [List.count_replicate_self] at this
  simp only [todo, List.length_singleton]
  omega
theorem come_first (n : Nat) (h : 0 < n) : dd_comeP (List.replicate n (-1 : Int)) [] 0 0 = (true, (List.replicate n (-1 : Int)).set 0 0, [0]) := by
  have := come_new (ah := List.replicate n (-1 : Int)) (q := []) (n := 0) (v := 0) (by simpa using h) (by simp)
  simpa using this
theorem come_first_no : dd_comeP [] [] 0 0 = (false, [], []) := by decide
def DeepAns (ms : List (Int × Int × List (Int × Int))) (m : Int) (B : Nat) (w : World) (v : Value) (r : Bool) : Prop := ∃ f, DeepRes ms m r f ∧ IntRow B w v f
def DeepEnd (ms : List (Int × Int × List (Int × Int))) (m : Int) (B : Nat) (e : Ending) (w : World) : Prop := ∃ v r, e = .returned (.tuple #[v, .bool r]) ∧ DeepAns ms m B w v r
theorem deepEnd {ms : List (Int × Int × List (Int × Int))} {m : Int} {B : Nat} {w : World} {v : Value} {r : Bool} {f : List Int} (h : DeepRes ms m r f) (hr : IntRow B w v f) : DeepEnd ms m B (.returned (.tuple #[v, .bool r])) w := ⟨v, r, rfl, f, h, hr⟩
theorem cell_b {B : Nat} {w w' : World} (hb : Below B w w') {p : Addr} {v : Value} (h : w.cell? p = some v) (hp : p.block < B) : w'.cell? p = some v := by
  rw [hb.cell hp]; exact h
theorem Walk.setq {B bw : Nat} {w : World} {va vq vq' : Value} {ah q q' : List Int} (h : Walk B bw w va vq ah q) (hr : IntRow B w vq' q') (ho : vq'.ownBlock = vq.ownBlock) : Walk B bw (w.setCell ⟨bw, 1, none⟩ vq') va vq' ah q' :=
  ⟨by rw [World.cell?_setCell_other _ _ _ _ (fun e => by have := congrArg Addr.off e; simp at this)]; exact h.a, World.cell?_setCell_same _ _ _ h.c, by rw [World.frozen?_setCell]; exact h.f,
    h.ra.set_other _ h.na, hr.set_other _ (by rw [ho]; exact h.nq), fun g e => by rw [ho]; exact h.apart g e, h.na, by rw [ho]; exact h.nq, h.hB⟩
theorem IntRow.gone {B : Nat} {w : World} {g off n cap : Nat} {x : Int} {xs : List Int} (h : IntRow B w (.slice (some ⟨g, off, none⟩) n cap) (x :: xs)) : IntRow B w (.slice (some ⟨g, off, none⟩) 0 0) [] := by
  rcases h with ⟨h, _⟩ | ⟨g', off', cap', hv, hB, hg, _⟩
  · cases h
  · cases hv
    exact .inr ⟨g, off, 0, rfl, hB, hg, Nat.zero_le _, Nat.zero_le _, fun i hi => absurd hi (Nat.not_lt_zero _), fun i hi => absurd hi (Nat.not_lt_zero _)⟩
set_option maxRecDepth 100000 in
set_option maxHeartbeats 2000000 in
theorem implDeepAt_any (v : Value) (ms : List (Int × Int × List (Int × Int))) (m : Int) (w : World) (h : MethsAt w v ms) (ht : TabAt w) :
    Calls Tryz.prog 36 #[.agg #[v], .int .i64 m] w fun e w' => Below w.heap.size w w' ∧ DeepEnd ms m w.heap.size e w' := by
  obtain ⟨a, cap, rfl, hl, hc⟩ := id h
  have hA : Below w.heap.size w (w.alloc (.cells #[.slice a ms.length cap] 25)) := (Below.refl _ _).alloc (Nat.le_refl _) _
  have bp : (w.alloc (.cells #[.slice a ms.length cap] 25)).cell? ⟨w.heap.size, 0, none⟩ = some (.slice a ms.length cap) := by simp [go_sem]
  go_enter Tryz.func36, Tryz.ntmps36
  go_wp2_with fail
  generalize w.alloc (.cells #[.slice a ms.length cap] 25) = W0 at *
  refine (implProgOk_any _ ms _ (h.below hA)).mono ?_
  rintro e w1 ⟨rfl, hb1⟩
  have B1 : Below w.heap.size w w1 := hA.trans (hb1.mono hA.size)
  have bp1 := cell_below hb1 bp
  have z1 := B1.size
  clear hA bp hb1
  unfold maxLen at hl
  cases hp : progOk ms
  · go_wp2
    go_ret2
    exact ⟨B1, deepEnd (.inr ⟨rfl, rfl, fun g hg => by have := hg.1; rw [hp] at this; cases this⟩) (IntRow.nil _ _)⟩
  cases hr : inR m 0 ((ms.length : Int) - 1)
  · go_wp2_with (go_at_call 64; refine (isPlace_any _ _ _).mono ?_; rintro e w' ⟨rfl, hw⟩; obtain rfl := hw.symm)
    go_ret2
    exact ⟨B1, deepEnd (.inr ⟨rfl, rfl, fun g hg => by have := hg.2.1; rw [hr] at this; cases this⟩) (IntRow.nil _ _)⟩
  have hr' := inR_true.1 hr
  obtain ⟨mn, rfl⟩ := Int.eq_ofNat_of_zero_le hr'.1
  have hmn : mn < ms.length := by omega
  have hmz : (mn : Int) < (ms.length : Int) := by omega
  obtain ⟨b, o, vo, rfl, c0, c1, c2, c3⟩ := hc mn hmn
  obtain ⟨ao, co, rfl, hlo, hco⟩ := id c3
  have hl14 := len_ok hp hmn
  have d2 := cell_below B1 c2
  have O1 := c3.below B1
  have M1 := h.below B1
  have T1 := ht.below B1
  have hops := opsOf_nat (ms := ms) hmn
  have HY : ∀ ah, Hid (Inv ms ms[mn].2.2 (fun _ => False) ah [] → DeepRes ms mn true ah) := fun ah hI => DeepRes.yes hp hr (by rw [hops]; exact hI)
  have HN : Hid ((∀ g, ¬ Closed ms ms[mn].2.2 g) → DeepRes ms mn false []) := fun hI => DeepRes.no (by rw [hops]; exact hI)
  have HT : Hid (∀ k a, 0 ≤ (takesOf ms k a).1 ∧ (takesOf ms k a).1 ≤ 2) := takes_ok hp
  clear hc c0 c1 c2 c3 hco h ht hops
  generalize hopsE : ms[mn].2.2 = ops at *
  go_wp2_with (first | (go_at_call 64; refine (isPlace_any _ _ _).mono ?_; rintro e w' ⟨rfl, hw⟩; obtain rfl := hw.symm))
  have cR : (w1.alloc (.cells #[.int .i64 (-1)] 3)).cell? ⟨w1.heap.size, 0, none⟩ = some (.int .i64 (-1)) := by simp [go_sem]
  have hBR : Below w1.heap.size w1 (w1.alloc (.cells #[.int .i64 (-1)] 3)) := (Below.refl _ _).alloc (Nat.le_refl _) _
  refine (dd_repeat_any _ w1.heap.size ops.length hl14 cR).mono ?_
  rintro e w2 ⟨hb2, vr, rfl, hrow2⟩
  have hrow2 := hrow2.mono hBR.size
  have B2 : Below w1.heap.size w1 w2 := hBR.trans (hb2.mono hBR.size)
  have z2 := B2.size
  clear cR hBR hb2
  obtain ⟨a2, cap2, rfl, _⟩ := hrow2.slice
  rw [List.length_replicate] at hrow2 ⊢
  go_wp2_with fail
  have W3 : Walk w1.heap.size w2.heap.size (w2.alloc (.cells #[.slice a2 ops.length cap2, .slice none 0 0] 105)) (.slice a2 ops.length cap2) (.slice none 0 0) (List.replicate ops.length (-1)) [] :=
    ⟨by simp [go_sem], by simp [go_sem], by simp [go_sem], hrow2.below ((Below.refl _ _).alloc (Nat.le_refl _) _), IntRow.nil _ _, fun g _ => by simp [Value.ownBlock], fun e => by have := hrow2.lt _ e; omega, by simp [Value.ownBlock], z2⟩
  have B3 := B2.alloc z2 (.cells #[.slice a2 ops.length cap2, .slice none 0 0] 105)
  generalize w2.alloc (.cells #[.slice a2 ops.length cap2, .slice none 0 0] 105) = w3 at *
  generalize w2.heap.size = bw at *
  have z3 := B3.size
  clear hrow2 B2
  refine (dd_come_any _ bw _ _ _ _ 0 0 _ W3 (by simpa using hl14) (by simp)).mono ?_
  rintro e w4 ⟨rfl, hb4, vq4, W4⟩
  have B4 : Below w1.heap.size w1 w4 := B3.trans hb4
  clear B3 hb4 W3 z3
  by_cases hn0 : ops.length = 0
  · obtain rfl : ops = [] := List.eq_nil_of_length_eq_zero hn0
    rw [show List.replicate ([] : List (Int × Int)).length (-1 : Int) = [] from rfl, come_first_no]
    have HNN := HN.out (fun g hg => absurd hg.pos (by simp))
    clear W4
    go_wp2
    go_ret2
    exact ⟨B1.trans (B4.mono z1), deepEnd HNN (IntRow.nil _ _)⟩
  have hpos : 0 < ops.length := by omega
  rw [come_first _ hpos] at W4 ⊢
  have HI : Hid (Inv ms ops (fun _ => False) ((List.replicate ops.length (-1)).set 0 0) [0]) := Inv.start ms ops hpos
  have HM : Hid (todo ((List.replicate ops.length (-1 : Int)).set 0 0) [0] = ops.length) := todo_start _ hpos
  dsimp only at W4 ⊢
  generalize (List.replicate ops.length (-1 : Int)).set 0 0 = ah0 at *
  go_wp2
  go_loopg [] ops.length (fun g wr => ∃ ah q vq, Inv ms ops (fun _ => False) ah q ∧ Walk w1.heap.size bw wr (.slice a2 ops.length cap2) vq ah q ∧ g = todo ah q ∧ todo ah q ≤ 14 ∧ Below w1.heap.size w1 wr)
  case atStart => exact ⟨_, _, vq4, HI.out, W4, HM.out.symm, by rw [HM.out]; exact hl14, B4⟩
  case round =>
    clear HI HM W4 B4 vq4 ah0 w4
    obtain ⟨ah, q, vq, hI, hW, rfl, h14, hB⟩ := hrel
    have z1r := hB.size
    have ha := hW.a
    have hcq := hW.c
    have hfq := hW.f
    cases q with
    | nil =>
      obtain ⟨aq, cq, rfl, _⟩ := hW.rq.slice
      have HD := (HY ah).out hI
      go_wp2
      go_ret2
      exact ⟨B1.trans (hB.mono z1), deepEnd HD (hW.ra.mono z1)⟩
    | cons k q =>
      obtain ⟨pl, rfl, hpl, h0⟩ := hI.queue k (List.mem_cons_self ..)
      obtain ⟨gq, oq, cq, rfl, hgq, _⟩ := hW.rq.form (by simp)
      have hx : wr.cell? ⟨gq, oq, none⟩ = some (.int .i64 (pl : Int)) := (hW.rq.cell (i := 0) (by simp)).1
      rw [List.length_cons] at hcq
      have hql : q.length ≤ 14 := by have := h14; simp only [todo, List.length_cons] at this; omega
      have hplz : (pl : Int) < (ops.length : Int) := by omega
      obtain ⟨R, hR⟩ : ∃ R, goP ms (opAt ops pl) ah q pl = R := ⟨_, rfl⟩
      have hst := go_step hI
      rw [hR] at hst
      have HG : Hid ((R.1 = false → ∀ g, ¬ Closed ms ops g) ∧ (R.1 = true → Inv ms ops (fun _ => False) R.2.1 R.2.2 ∧ todo R.2.1 R.2.2 = todo ah q)) := hst
      have HR : Hid (goP ms (ops[pl].1, ops[pl].2) ah q pl = R) := by show _ = _; rw [← hR, opAt_nat ops pl hpl]
      have HL : Hid (ah.length ≤ 14 ∧ pl < ah.length ∧ -1 ≤ gt ah pl ∧ gt ah pl ≤ 6) := ⟨by rw [hI.len]; exact hl14, by rw [hI.len]; exact hpl, hI.bnd pl hpl⟩
      obtain ⟨_, _, _, _, hop⟩ := id O1
      obtain ⟨bo, oo, hao, p0, p1⟩ := hop pl hpl
      clear hop
      subst hao
      have hlw : w.heap.size < w1.heap.size := World.block_lt_of_cell? _ _ bp1
      have hbo : bo < w1.heap.size := World.block_lt_of_cell? _ _ p0
      clear hI hst hR
      by_cases hcap : cq = 1
      · subst hcap
        have hq0 : q = [] := by
          rcases hW.rq with ⟨e, _⟩ | ⟨_, _, _, e, _, _, hl, _⟩
          · cases e
          · cases e
            simp at hl
            exact hl
        subst hq0
        go_wp2_with fail
        have B5 : Below w1.heap.size w1 (wr.setCell ⟨bw, 1, none⟩ (.slice (some ⟨gq, oq, none⟩) 0 0)) := below_set hB bw 1 _ hW.hB
        have W5 : Walk w1.heap.size bw (wr.setCell ⟨bw, 1, none⟩ (.slice (some ⟨gq, oq, none⟩) 0 0)) (.slice a2 ops.length cap2) (.slice (some ⟨gq, oq, none⟩) 0 0) ah [] := hW.setq hW.rq.gone rfl
        generalize wr.setCell ⟨bw, 1, none⟩ (.slice (some ⟨gq, oq, none⟩) 0 0) = w5 at *
        clear hW hB ha hcq hfq hx z1r
        have q0 := cell_below B5 p0
        have q1 := cell_below B5 p1
        have bp5 := cell_below B5 bp1
        have z5 : w1.heap.size ≤ w5.drew.heap.size := B5.size
        have M5 : MethsAt w5.drew _ ms := (M1.below B5).below (Below.refl _ _).drew
        have T5 : TabAt w5.drew := (T1.below B5).below (Below.refl _ _).drew
        have W5d := W5.below (Below.refl _ _).drew
        go_region_held3 (fun w' => w'.cell? ⟨w.heap.size, 0, none⟩ = some (.slice (some ⟨b, o, none⟩) ms.length cap) ∧ w'.cell? ⟨bo, oo + pl * 2, none⟩ = some (.int .i64 ops[pl].1) ∧ w'.cell? ⟨bo, oo + pl * 2 + 1, none⟩ = some (.int .i64 ops[pl].2))
          (first | go_keep | (refine ⟨cell_b hb6 ?_ hlw, cell_b hb6 ?_ hbo, cell_b hb6 ?_ hbo⟩ <;> assumption))
          ((go_at_call 72; refine (goOn_any _ bw _ _ _ ms ah [] _ _ pl _ W5d M5 T5 z5 HL.out.1 (by omega) HL.out.2.1 (HT.out _ _).1 (HT.out _ _).2 (leaves_nonneg _ _ _).1 (leaves_nonneg _ _ _).2 HL.out.2.2.1 HL.out.2.2.2 R HR).mono ?_; rintro e w6 ⟨rfl, hb6, vq6, W6⟩))
        have B6 : Below w1.heap.size w1 w6 := B5.drew.trans hb6
        clear hb6 W5 W5d M5 T5 B5 q0 q1 bp5 z5 HR HL
        obtain ⟨r, ah6, q6⟩ := R
        dsimp only at W6 HG ⊢
        cases r
        · have HNN := HN.out (HG.out.1 rfl)
          go_wp2
          go_ret2
          exact ⟨B1.trans (B6.mono z1), deepEnd HNN (IntRow.nil _ _)⟩
        · have HGi : Hid (Inv ms ops (fun _ => False) ah6 q6) := (HG.out.2 rfl).1
          have HGt : Hid (todo ah6 q6 + 1 = todo ah ((pl : Int) :: [])) := by show _ = _; rw [(HG.out.2 rfl).2, todo_cons]
          clear HG
          go_wp2
          go_roundg (todo ah6 q6)
          case measure => have := HGt.out; omega
          case rel => exact ⟨ah6, q6, vq6, HGi.out, W6, rfl, by have := HGt.out; omega, B6⟩
      · go_wp2_with fail
        have B5 : Below w1.heap.size w1 (wr.setCell ⟨bw, 1, none⟩ (.slice (some ⟨gq, oq + 1, none⟩) q.length (cq - 1))) := below_set hB bw 1 _ hW.hB
        have W5 : Walk w1.heap.size bw (wr.setCell ⟨bw, 1, none⟩ (.slice (some ⟨gq, oq + 1, none⟩) q.length (cq - 1))) (.slice a2 ops.length cap2) (.slice (some ⟨gq, oq + 1, none⟩) q.length (cq - 1)) ah q := hW.setq hW.rq.tail rfl
        generalize wr.setCell ⟨bw, 1, none⟩ (.slice (some ⟨gq, oq + 1, none⟩) q.length (cq - 1)) = w5 at *
        clear hW hB ha hcq hfq hx z1r
        have q0 := cell_below B5 p0
        have q1 := cell_below B5 p1
        have bp5 := cell_below B5 bp1
        have z5 : w1.heap.size ≤ w5.drew.heap.size := B5.size
        have M5 : MethsAt w5.drew _ ms := (M1.below B5).below (Below.refl _ _).drew
        have T5 : TabAt w5.drew := (T1.below B5).below (Below.refl _ _).drew
        have W5d := W5.below (Below.refl _ _).drew
        go_region_held3 (fun w' => w'.cell? ⟨w.heap.size, 0, none⟩ = some (.slice (some ⟨b, o, none⟩) ms.length cap) ∧ w'.cell? ⟨bo, oo + pl * 2, none⟩ = some (.int .i64 ops[pl].1) ∧ w'.cell? ⟨bo, oo + pl * 2 + 1, none⟩ = some (.int .i64 ops[pl].2))
          (first | go_keep | (refine ⟨cell_b hb6 ?_ hlw, cell_b hb6 ?_ hbo, cell_b hb6 ?_ hbo⟩ <;> assumption))
          ((go_at_call 72; refine (goOn_any _ bw _ _ _ ms ah q _ _ pl _ W5d M5 T5 z5 HL.out.1 (by omega) HL.out.2.1 (HT.out _ _).1 (HT.out _ _).2 (leaves_nonneg _ _ _).1 (leaves_nonneg _ _ _).2 HL.out.2.2.1 HL.out.2.2.2 R HR).mono ?_; rintro e w6 ⟨rfl, hb6, vq6, W6⟩))
        have B6 : Below w1.heap.size w1 w6 := B5.drew.trans hb6
        clear hb6 W5 W5d M5 T5 B5 q0 q1 bp5 z5 HR HL
        obtain ⟨r, ah6, q6⟩ := R
        dsimp only at W6 HG ⊢
        cases r
        · have HNN := HN.out (HG.out.1 rfl)
          go_wp2
          go_ret2
          exact ⟨B1.trans (B6.mono z1), deepEnd HNN (IntRow.nil _ _)⟩
        · have HGi : Hid (Inv ms ops (fun _ => False) ah6 q6) := (HG.out.2 rfl).1
          have HGt : Hid (todo ah6 q6 + 1 = todo ah ((pl : Int) :: q)) := by show _ = _; rw [(HG.out.2 rfl).2, todo_cons]
          clear HG
          go_wp2
          go_roundg (todo ah6 q6)
          case measure => have := HGt.out; omega
          case rel => exact ⟨ah6, q6, vq6, HGi.out, W6, rfl, by have := HGt.out; omega, B6⟩
end Go.Proofs.YtfpodljalccpnaaGreatDoor

/-
  The document's model of how many values there are: l2Deep and l2Next, walked; and what their answers are without memory.
-/
namespace Go.Proofs.YtfpodljalccpnaaGreatDoor
open Go.RowKit
def deepP (ms : List (Int × Int × List (Int × Int))) (op : Int × Int) (d : Int) : Int := if d < (takesOf ms op.1 op.2).1 ∨ 6 < behind ms op d then -1 else behind ms op d
set_option maxRecDepth 100000 in
set_option maxHeartbeats 1000000 in
theorem l2Deep_any (vp : Value) (ms : List (Int × Int × List (Int × Int))) (k a d D : Int) (w : World) (hM : MethsAt w vp ms) (ht0 : 0 ≤ (takesOf ms k a).1) (ht2 : (takesOf ms k a).1 ≤ 2) (hl0 : 0 ≤ (takesOf ms k a).2) (hl1 : (takesOf ms k a).2 ≤ 1) (hd0 : -1 ≤ d) (hd6 : d ≤ 6) (HD : Hid (deepP ms (k, a) d = D)) :
    Calls Tryz.prog 113 #[.agg #[vp], .agg #[.int .i64 k, .int .i64 a], .int .i64 d] w fun e w' => e = .returned (.int .i64 D) ∧ Below w.heap.size w w' := by
  have hA : Below w.heap.size w ((w.alloc (.cells #[vp] 25)).alloc (.cells #[.int .i64 k, .int .i64 a] 49)) := ((Below.refl _ _).alloc (Nat.le_refl _) _).alloc (by simp) _
  have hbh : behind ms (k, a) d = d - (takesOf ms k a).1 + (takesOf ms k a).2 := rfl
  unfold deepP at HD
  dsimp only at HD
  obtain ⟨tl, Htl'⟩ : ∃ tl, takesOf ms k a = tl := ⟨_, rfl⟩
  have Htl : Hid (takesOf ms k a = tl) := Htl'
  rw [Htl'] at HD hbh ht0 ht2 hl0 hl1
  clear Htl'
  obtain ⟨t, l⟩ := tl
  generalize behind ms (k, a) d = b at *
  dsimp only at HD hbh ht0 ht2 hl0 hl1
  go_enter Tryz.func113, Tryz.ntmps113
  go_wp2_with fail
  generalize (w.alloc (.cells #[vp] 25)).alloc (.cells #[.int .i64 k, .int .i64 a] 49) = W0 at *
  refine (specTakes_any _ ms _ _ _ (hM.below hA)).mono ?_
  rintro e w1 ⟨rfl, hb1⟩
  have B1 : Below w.heap.size w w1 := hA.trans (hb1.mono hA.size)
  rw [Htl.out]
  clear hM hA hb1 Htl
  by_cases hlt : d < t
  · have HD' := HD.out
    rw [if_pos (.inl hlt)] at HD'
    subst HD'
    go_wp2
    go_ret
    exact ⟨rfl, B1⟩
  by_cases h6 : 6 < d - t + l
  · have HD' := HD.out
    rw [if_pos (.inr (by omega))] at HD'
    subst HD'
    go_wp2
    go_ret
    exact ⟨rfl, B1⟩
  · have HD' := HD.out
    rw [if_neg (by omega)] at HD'
    subst HD'
    subst hbh
    clear HD
    go_wp2
    go_ret
    exact ⟨rfl, B1⟩
def nextsS (op : Int × Int) (i : Int) : List Int := if op.1 = 10 then [] else if op.1 = 7 then [op.2] else if op.1 = 8 then [i + 1, op.2] else [i + 1]
theorem nextsS_mem (op : Int × Int) (i k : Int) : k ∈ nextsS op i ↔ k ∈ nexts op i := by
  unfold nextsS nexts
  repeat' split
  all_goals simp [or_comm]
theorem nextsS_len (op : Int × Int) (i : Int) : (nextsS op i).length ≤ 2 := by
  unfold nextsS
  repeat' split
  all_goals simp
theorem IntRow.laid (w : World) (xs : List Int) (t : TypeId) (h : xs.length ≤ 1000) : IntRow w.heap.size (w.alloc (.cells (xs.map fun x => Value.int .i64 x).toArray t)) (.slice (some ⟨w.heap.size, 0, none⟩) xs.length xs.length) xs := by
  have hblk := Go.Deep.blk_alloc_new w (.cells (xs.map fun x => Value.int .i64 x).toArray t)
  refine .inr ⟨w.heap.size, 0, xs.length, rfl, Nat.le_refl _, by simp, Nat.le_refl _, by unfold maxLen; omega, fun j hj => ⟨?_, ?_⟩, fun j hj => ?_⟩
  · rw [cell_of_row _ _ _ _ _ _ hblk]
    simp [hj]
  · unfold World.frozen?; rw [hblk]; simp
  · rw [cell_of_row _ _ _ _ _ _ hblk]
    simp [hj]
set_option maxRecDepth 100000 in
set_option maxHeartbeats 1000000 in
theorem l2Next_any (k a : Int) (pl : Nat) (hpl : pl ≤ 1000) (w : World) :
    Calls Tryz.prog 114 #[.agg #[.int .i64 k, .int .i64 a], .int .i64 pl] w fun e w' => Below w.heap.size w w' ∧ ∃ v, e = .returned v ∧ IntRow w.heap.size w' v (nextsS (k, a) pl) := by
  have hA : ∀ o1 o2, Below w.heap.size w ((w.alloc o1).alloc o2) := fun o1 o2 => ((Below.refl _ _).alloc (Nat.le_refl _) _).alloc (by simp) _
  have hL : ∀ (xs : List Int) o1, xs.length ≤ 1000 → IntRow w.heap.size ((w.alloc o1).alloc (.cells (xs.map fun x => Value.int .i64 x).toArray 3)) (.slice (some ⟨w.heap.size + 1, 0, none⟩) xs.length xs.length) xs := fun xs o1 hx => by
    have := IntRow.laid (w.alloc o1) xs 3 hx
    rw [World.size_alloc] at this
    exact this.mono (by omega)
  by_cases h10 : k = 10
  · subst h10
    go_enter Tryz.func114, Tryz.ntmps114
    go_wp2
    go_ret
    exact ⟨hA _ _, _, rfl, hL [] _ (by simp)⟩
  have e10 : (k == 10) = false := beq_eq_false_iff_ne.2 h10
  by_cases h7 : k = 7
  · subst h7
    go_enter Tryz.func114, Tryz.ntmps114
    go_wp2
    go_ret
    exact ⟨hA _ _, _, rfl, hL [a] _ (by simp)⟩
  have e7 : (k == 7) = false := beq_eq_false_iff_ne.2 h7
  by_cases h8 : k = 8
  · subst h8
    go_enter Tryz.func114, Tryz.ntmps114
    go_wp2
    go_ret
    exact ⟨hA _ _, _, rfl, hL [(pl : Int) + 1, a] _ (by simp)⟩
  have e8 : (k == 8) = false := beq_eq_false_iff_ne.2 h8
  rw [show nextsS (k, a) pl = [(pl : Int) + 1] by simp [nextsS, h10, h7, h8]]
  go_enter Tryz.func114, Tryz.ntmps114
  go_wp2
  go_ret
  exact ⟨hA _ _, _, rfl, hL [(pl : Int) + 1] _ (by simp)⟩
theorem next_nonneg {ms : List (Int × Int × List (Int × Int))} (hp : progOk ms = true) {m : Nat} (h : m < ms.length) {pl : Nat} (hpl : pl < ms[m].2.2.length) : ∀ k ∈ nextsS (ms[m].2.2[pl].1, ms[m].2.2[pl].2) pl, 0 ≤ k := by
  have hall : ms.all (methOk ms.length) = true := by
    simp only [progOk, Bool.and_eq_true] at hp
    exact hp.2
  rw [List.all_eq_true] at hall
  have hm := hall ms[m] (List.getElem_mem h)
  simp only [methOk, Bool.and_eq_true] at hm
  have hops := hm.2
  simp only [opsOk, List.all_eq_true] at hops
  have hop := hops ms[m].2.2[pl] (List.getElem_mem hpl)
  intro k hk
  unfold nextsS at hk
  dsimp only at hk
  split at hk
  · simp at hk
  · split at hk
    · rename_i e
      rw [e, opOk_7, inR_true] at hop
      simp at hk
      omega
    · split at hk
      · rename_i e
        rw [e, opOk_8, inR_true] at hop
        simp at hk
        omega
      · simp at hk
        omega
end Go.Proofs.YtfpodljalccpnaaGreatDoor
