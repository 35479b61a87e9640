import Derived.Test.YthkjgfhheejaoaaGreatDoorInts
import Derived.Test.YthkjgfhheejaoaaGreatDoorCRow
import Derived.Test.YthkjgfhheejaoaaGreatDoorHWait
import Derived.Laws.IdiomCopy
import Derived.Deep.RegionLaw
import Derived.Test.YthkjgfhheejaoaaGreatDoorVImpl4
import Derived.Test.YthkjgfhheejaoaaGreatDoorVSpec4
import Derived.Deep.RegionHeld3
import Derived.Test.YthkjgfhheejaoaaGreatDoorVApart
import Derived.Test.YthkjgfhheejaoaaGreatDoorHNew
import Derived.Test.YthkjgfhheejaoaaGreatDoorHImpl6
import Derived.Lib.MinMax

/-
  slices.Repeat of the one number -1, at most 30 times, as the program calls it: a row of its own.
-/
namespace Go.Proofs.YthkjgfhheejaoaaGreatDoor
open Go.RowKit

/-- k times -1, then 0, n in all -/
def mix (k n : Nat) : List Int := (List.range n).map fun i => if i < k then -1 else 0

theorem mix_length (k n : Nat) : (mix k n).length = n := by simp [mix]
theorem mix_at (k n i : Nat) (h : i < (mix k n).length) : (mix k n)[i] = if i < k then -1 else 0 := by simp [mix]
theorem mix_full (n : Nat) : mix n n = List.replicate n (-1) := by
  refine List.ext_getElem (by simp [mix]) fun i h1 h2 => ?_
  rw [mix_at]
  simp at h2
  simp [h2]

/-- the row as it is made -/
theorem mix_made (w : World) (n : Nat) (t : TypeId) (h : n ≤ 1000) : IntRow w.heap.size (w.alloc (.cells (madeCells #[.int .i64 0] n) t)) (.slice (some ⟨w.heap.size, 0, none⟩) n n) (mix 0 n) := by
  have hblk := Go.Deep.blk_alloc_new w (.cells (madeCells #[.int .i64 0] n) t)
  refine .inr ⟨w.heap.size, 0, n, by rw [mix_length], Nat.le_refl _, by simp, by rw [mix_length]; exact Nat.le_refl _, by unfold maxLen; omega, fun j hj => ⟨?_, ?_⟩, fun j hj => ?_⟩
  · rw [cell_of_row _ _ _ _ _ _ hblk]
    simp [madeCells, hj]
  · unfold World.frozen?; rw [hblk]; simp
  · rw [cell_of_row _ _ _ _ _ _ hblk, mix_at]
    rw [mix_length] at hj
    simp [madeCells, hj, Nat.mod_one]

theorem setCells_below (B g : Nat) (hB : B ≤ g) : ∀ (vs : List Value) (o : Nat) (W : World), Below B W (W.setCells g o vs) := by
  intro vs
  induction vs with
  | nil => intro o W; exact Below.refl _ _
  | cons v r ih => intro o W; rw [World.setCells]; exact ((Below.refl B W).setCell (p := ⟨g, o, none⟩) hB v).trans (ih _ _)

/-- m more are laid over it -/
theorem mix_copied {B g k n m : Nat} {w : World} (h : IntRow B w (.slice (some ⟨g, 0, none⟩) n n) (mix k n)) (hm : k + m ≤ n) : IntRow B (w.setCells g k (List.replicate m (.int .i64 (-1)))) (.slice (some ⟨g, 0, none⟩) n n) (mix (k + m) n) := by
  rcases h with ⟨h, _⟩ | ⟨g', off', cap', hv, hB, hg, hl, hc, hsp, hx⟩
  · cases h
  · rw [mix_length] at hv
    cases hv
    have hin := World.cell?_setCells_in g (List.replicate m (.int .i64 (-1))) k w (fun j hj => by
      simp at hj
      have := (hsp (k + j) (by omega)).1
      rwa [Nat.zero_add] at this)
    refine .inr ⟨g, 0, n, by rw [mix_length], hB, by rw [setCells_size]; exact hg, by rw [mix_length]; exact Nat.le_refl _, hc, fun j hj => ?_, fun j hj => ?_⟩
    · rw [World.frozen?_setCells]
      refine ⟨?_, (hsp j hj).2⟩
      by_cases hi : k ≤ j ∧ j < k + m
      · have := hin (j - k) (by simp; omega)
        rw [show k + (j - k) = 0 + j by omega] at this
        rw [this]; rfl
      · rw [World.cell?_setCells_out g _ _ _ _ (fun _ _ => by simp; omega)]
        exact (hsp j hj).1
    · rw [mix_at]
      rw [mix_length] at hj
      by_cases hi : k ≤ j ∧ j < k + m
      · have := hin (j - k) (by simp; omega)
        rw [show k + (j - k) = 0 + j by omega] at this
        rw [this, if_pos hi.2]
        simp
      · rw [World.cell?_setCells_out g _ _ _ _ (fun _ _ => by simp; omega)]
        have := hx j (by rw [mix_length]; exact hj)
        rw [this, mix_at]
        by_cases hk : j < k
        · rw [if_pos hk, if_pos (by omega)]
        · rw [if_neg hk, if_neg (by omega)]

/-- copy: -1, m times, over a row that holds them from its head on -/
theorem run_copy_mix {P : Program} {t e ty : TypeId} (ht : P.underlying t = some (.slice e)) (hi : (P.info? e).map (·.size) = some 1) {w : World} {B : Nat} (g k n dl dc m : Nat) (a : Addr) (sl sc : Nat) (hown : IntRow B w (.slice (some ⟨g, 0, none⟩) n n) (mix k n)) (hm : m = Nat.min sl dl) (hk : k + m ≤ n)
    (hsrc : ∀ j, j < m → w.cell? (a.add j) = some (.int .i64 (-1))) :
    (Builtin.copy_ #[t, t] ty #[.slice (some ⟨g, k, none⟩) dl dc, .slice (some a) sl sc]).run P w = .ok (goInt m) (w.setCells g k (List.replicate m (.int .i64 (-1)))) := by
  have hsp : ∀ j, j < m → (w.cell? ⟨g, k + j, none⟩).isSome = true ∧ w.frozen? ⟨g, k + j, none⟩ = false := by
    rcases hown with ⟨hn, _⟩ | ⟨g', off', cap', hv, _, _, _, _, hsp, _⟩
    · cases hn
    · rw [mix_length] at hv
      cases hv
      intro j hj
      have := hsp (k + j) (by omega)
      rwa [Nat.zero_add] at this
  have hr := run_copy_cells (P := P) w t t ty e g k dl dc a sl sc (List.replicate m (.int .i64 (-1))) ht hi (by simpa using hm)
    (fun j v hv => by
      rw [List.getElem?_replicate] at hv
      split at hv
      · rename_i hj; rw [hsrc j hj]; exact hv
      · cases hv)
    (fun j hj => (hsp j (by simpa using hj)).1) (fun j hj => (hsp j (by simpa using hj)).2) (fun v hv => by rw [List.mem_replicate] at hv; rw [hv.2]; rfl)
  rwa [List.length_replicate] at hr

theorem wp_copy_mix {P : Program} {t e : TypeId} (ht : P.underlying t = some (.slice e)) (hi : (P.info? e).map (·.size) = some 1) {o : Oper} {act : Act} {w : World} {K : Act → World → Prop} {Q : Exit → Act → World → Prop} (d s : Operand)
    (ho : o.op = .call { callee := .builtin .copy, args := #[d, s], argTypes := #[t, t] }) {B : Nat} (g k n dl dc m : Nat) (a : Addr) (sl sc : Nat) (hown : IntRow B w (.slice (some ⟨g, 0, none⟩) n n) (mix k n)) (hm : m = Nat.min sl dl) (hk : k + m ≤ n)
    (hsrc : ∀ j, j < m → w.cell? (a.add j) = some (.int .i64 (-1))) (hd : act.eval d = .slice (some ⟨g, k, none⟩) dl dc) (hs : act.eval s = .slice (some a) sl sc)
    (h : K (act.put o.dst (goInt m)) (w.setCells g k (List.replicate m (.int .i64 (-1))))) : o.wp P act w K Q := by
  have hr := run_copy_mix (P := P) (ty := o.type) ht hi g k n dl dc m a sl sc hown hm hk hsrc
  unfold Oper.wp execOp
  simp only [ho, resolve, invoke, builtin, Sem.run_bind, Sem.run_pure, Result.andThen_ok, List.map_toArray, List.map_cons, List.map_nil, hs, hd, hr]
  exact h

theorem step_copy_mix {P : Program} {t e : TypeId} (ht : P.underlying t = some (.slice e)) (hi : (P.info? e).map (·.size) = some 1) {ops : Array Oper} {o : Oper} {act : Act} {w : World} {K : Act → World → Prop} {Q : Exit → Act → World → Prop} {E : Prop} (hgd : o.guard = none) (d s : Operand)
    (ho : o.op = .call { callee := .builtin .copy, args := #[d, s], argTypes := #[t, t] }) {B : Nat} (g k n dl dc m : Nat) (a : Addr) (sl sc : Nat) (hown : IntRow B w (.slice (some ⟨g, 0, none⟩) n n) (mix k n)) (hm : m = Nat.min sl dl) (hk : k + m ≤ n)
    (hsrc : ∀ j, j < m → w.cell? (a.add j) = some (.int .i64 (-1))) (hd : act.eval d = .slice (some ⟨g, k, none⟩) dl dc) (hs : act.eval s = .slice (some a) sl sc)
    (h : K (act.put o.dst (goInt m)) (w.setCells g k (List.replicate m (.int .i64 (-1))))) : if Region.wanted o (yielded ops act.tmps) = true then Oper.wp P o act w K Q else E := by
  rw [if_pos (by simp [Region.wanted, hgd])]
  exact wp_copy_mix ht hi d s ho g k n dl dc m a sl sc hown hm hk hsrc hd hs h

theorem wrap_small (a b : Nat) (h : a + b ≤ 1000000) : IntKind.i64.wrap ((a : Int) + (b : Int)) = ((a + b : Nat) : Int) := by
  rw [IntKind.wrap_i64]; omega

end Go.Proofs.YthkjgfhheejaoaaGreatDoor

/-
  What is seen of a heap, by the program: orderOf.
-/
namespace Go.Proofs.YthkjgfhheejaoaaGreatDoor
open Go.RowKit

theorem tabN_nil (n : Nat) : tabN n [] = List.replicate n (-1) := by
  refine List.ext_getElem (by simp [tabN]) fun i h1 h2 => ?_
  rw [tabN_at, numOf_none (fun j hj => absurd hj (Nat.not_lt_zero _))]
  simp

theorem two_set1 {w : World} {g : Nat} {t : TypeId} {x0 x1 : Value} (h : w.rowIs g t 2 (two x0 x1)) (v : Value) : (w.setCell ⟨g, 1, none⟩ v).rowIs g t 2 (two x0 v) :=
  (h.set 1 v).congr fun i hi => by match i, hi with | 0, _ => rfl | 1, _ => rfl

/-- an order as a value, in memory of its own -/
structure OrdV (B n : Nat) (ps : List Nat) (vp vn : Value) (w : World) : Prop where
  p : IntRow B w vp (nums ps)
  n : IntRow B w vn (tabN n ps)
  pn : ∀ g, vp.ownBlock = some g → vn.ownBlock ≠ some g

end Go.Proofs.YthkjgfhheejaoaaGreatDoor

/-
  What is seen of a heap, by the program: view, HeapView.
-/
namespace Go.Proofs.YthkjgfhheejaoaaGreatDoor
open Go.RowKit

end Go.Proofs.YthkjgfhheejaoaaGreatDoor

/-
  What is seen of a heap, by the program: HeapView.
-/
namespace Go.Proofs.YthkjgfhheejaoaaGreatDoor
open Go.RowKit

theorem OwnCalls.mono {B B' : Nat} {w : World} {v : Value} {cs : List Cl} {V : Nat → Value × Value} (h : OwnCalls B w v cs V) (hB : B' ≤ B) : OwnCalls B' w v cs V := by
  refine ⟨?_, fun i hi => ⟨(h.lists i hi).1.mono hB, (h.lists i hi).2.mono hB⟩, h.apart⟩
  rcases h.row with h0 | ⟨g, off, cap, hv, hg, r⟩
  · exact .inl h0
  · exact .inr ⟨g, off, cap, hv, by omega, r⟩

end Go.Proofs.YthkjgfhheejaoaaGreatDoor

/-
  HeapTrim of both sides: without what cannot be come to.
-/
namespace Go.Proofs.YthkjgfhheejaoaaGreatDoor
open Go.RowKit

/-- more elements behind them, where there may be more -/
theorem run_append_rows2 {P : Program} {t tx ty e : TypeId} {i : TypeInfo} {z : Value} {B : Nat} (ht : P.underlying t = some (.slice e)) (hi : P.info? e = some i) (hz : i.zero = some z) (hzs : z.cells.size = i.size) (hby : i.bytes ≤ 1000)
    {w : World} {v : Value} {n : Nat} {xs : List Value} (hown : CRow B i.size w v n xs) (x : Value) (m : Nat) (news : List Value) (hs : Src P i.size tx x m news w) (hL : n + m ≤ 2000000) (hB : B ≤ w.heap.size) :
    ∃ v' w', (Builtin.append_ #[t, tx] ty #[v, x]).run P w = .ok v' w' ∧ CRow B i.size w' v' (n + m) (xs ++ news) ∧ w.grownBy w' v.ownBlock ∧ (v'.ownBlock = v.ownBlock ∨ v'.ownBlock = some w.heap.size) := by
  obtain ⟨hxl, hown⟩ := hown
  have hll : (xs ++ news).length = (n + m) * i.size := by rw [List.length_append, hxl, hs.newsLen, Nat.add_mul]
  have hgrown : ∀ (k : Nat), n + m ≤ k → k ≤ maxLen →
      CRow B i.size (w.drew.alloc (.cells ((xs ++ news).toArray ++ Builtin.zeroCells z.cells (k - (n + m))) e)) (.slice (some ⟨w.heap.size, 0, none⟩) (n + m) k) (n + m) (xs ++ news) := by
    intro k hqk hk
    have hsz0 : (Builtin.zeroCells z.cells (k - (n + m))).size = (k - (n + m)) * i.size := by rw [size_zeroCells, hzs]
    have hblk : (w.drew.alloc (.cells ((xs ++ news).toArray ++ Builtin.zeroCells z.cells (k - (n + m))) e)).heap[w.heap.size]? = some (.cells ((xs ++ news).toArray ++ Builtin.zeroCells z.cells (k - (n + m))) e) := Go.Deep.blk_alloc_new w.drew _
    have hsum : (n + m) * i.size + (k - (n + m)) * i.size = k * i.size := by rw [← Nat.add_mul]; congr 1; omega
    refine ⟨hll, .inr ⟨w.heap.size, 0, k, rfl, hB, by simp, hqk, hk, fun j hj => ?_, fun j hj => ?_⟩⟩
    · refine ⟨?_, ?_⟩
      · rw [Nat.zero_add, cell_of_row _ _ _ _ _ _ hblk]
        rw [Array.getElem?_eq_getElem (by rw [Array.size_append, hsz0, List.size_toArray, hll]; omega)]; rfl
      · unfold World.frozen?
        rw [hblk]
        simp
    · rw [Nat.zero_add, cell_of_row _ _ _ _ _ _ hblk, Array.getElem?_append_left (by rw [List.size_toArray]; exact hj)]
      simp [List.getElem?_eq_getElem hj]
  have hgb : ∀ (o : Obj) (row : Option Nat), w.grownBy (w.drew.alloc o) row := fun o row =>
    ⟨rfl, rfl, rfl, Nat.le_of_lt (by rw [World.size_alloc]; exact Nat.lt_succ_self _), fun k hk _ => Below.heap_alloc w.drew _ k hk⟩
  rcases hown with ⟨rfl, rfl⟩ | ⟨g, off, cap, rfl, hBg, hg, hl, hmx, hsp, hx⟩
  · obtain rfl : xs = [] := List.eq_nil_of_length_eq_zero (by simpa using hxl)
    by_cases hm0 : m = 0
    · subst hm0
      obtain rfl : news = [] := List.eq_nil_of_length_eq_zero (by simpa using hs.newsLen)
      refine ⟨.slice none 0 0, w, ?_, CRow.nil _ _ _, World.grownBy.refl _ _, .inl rfl⟩
      rcases hs.kind with ⟨e', hk⟩ | hk <;> simp [Builtin.append_, run_underlying ht, run_underlying hk, sizeOf, typeInfo, hi, hs.len, hs.cells]
    · have hr := run_append_grow_src (P := P) w t tx ty e i z ht hi hz none 0 0 [] (run_firstCells_none _ _ _ _ _) x m news hs (by omega) (by omega) (growslice_fits (by omega) (by have := Nat.mul_le_mul (show 0 + m ≤ 2000000 by omega) hby; omega))
      refine ⟨_, _, hr, ?_, hgb _ _, .inr rfl⟩
      exact hgrown (grownCap w (0 + m) 0 e) (grownCap_ge _ _ _ _) (grownCap_le_maxLen _ _ _ _ (by unfold maxLen; omega))
  · by_cases hroom : n + m ≤ cap
    · have hle : n * i.size + news.length ≤ cap * i.size := by rw [hs.newsLen, ← Nat.add_mul]; exact Nat.mul_le_mul_right _ hroom
      have hc : ∀ j, j < news.length → (w.cell? ⟨g, off + n * i.size + j, none⟩).isSome = true := fun j hj => by
        have := (hsp (n * i.size + j) (by omega)).1
        rwa [← Nat.add_assoc] at this
      have hf : ∀ j, j < news.length → w.frozen? ⟨g, off + n * i.size + j, none⟩ = false := fun j hj => by
        have := (hsp (n * i.size + j) (by omega)).2
        rwa [← Nat.add_assoc] at this
      have hr := run_append_room_src (P := P) w t tx ty e i ht hi g off n cap x m news hs hroom hc hf
      obtain ⟨r1, r2, r3⟩ := setCells_rest g news (off + n * i.size) w
      refine ⟨_, _, hr, ⟨hll, .inr ⟨g, off, cap, rfl, hBg, by rw [setCells_size]; exact hg, hroom, hmx, fun j hj => ?_, fun j hj => ?_⟩⟩, ⟨r1, r2, r3, by rw [setCells_size]; exact Nat.le_refl _, fun k _ hk => setCells_other _ _ _ _ _ (fun e => hk (by rw [e]; rfl))⟩, .inl rfl⟩
      · rw [World.frozen?_setCells]
        refine ⟨?_, (hsp j hj).2⟩
        by_cases hin : n * i.size ≤ j ∧ j < n * i.size + news.length
        · have := World.cell?_setCells_in g news (off + n * i.size) w hc (j - n * i.size) (by omega)
          rw [show off + n * i.size + (j - n * i.size) = off + j by omega] at this
          rw [this]; rfl
        · rw [World.cell?_setCells_out g _ _ _ _ (fun _ _ => by simp; omega)]
          exact (hsp j hj).1
      · rw [List.length_append] at hj
        by_cases hin : j < xs.length
        · rw [World.cell?_setCells_out g _ _ _ _ (fun _ _ => by simp; omega), hx j hin]
          simp [hin]
        · have := World.cell?_setCells_in g news (off + n * i.size) w hc (j - n * i.size) (by omega)
          rw [show off + n * i.size + (j - n * i.size) = off + j by omega] at this
          rw [this, List.getElem_append_right (by omega)]
          simp only [hxl]
    · have hr := run_append_grow_src (P := P) w t tx ty e i z ht hi hz (some ⟨g, off, none⟩) n cap xs (run_firstCells_some _ _ _ _ _ _ _ hxl (fun j u hu => by
          by_cases hj : j < xs.length
          · rw [List.getElem?_eq_getElem hj] at hu
            have h1 := hx j hj
            rw [Addr.add_lit]
            show w.cell? _ = _
            rw [h1]
            simpa using hu
          · rw [List.getElem?_eq_none (by omega)] at hu; simp at hu)) x m news hs (by omega) (by omega) (growslice_fits (by omega) (by have := Nat.mul_le_mul (show n + m ≤ 2000000 by omega) hby; omega))
      refine ⟨_, _, hr, ?_, hgb _ _, .inr rfl⟩
      exact hgrown (grownCap w (n + m) cap e) (grownCap_ge _ _ _ _) (grownCap_le_maxLen _ _ _ _ (by unfold maxLen; omega))

theorem run_append_vals2 {ty : TypeId} {B : Nat} {w : World} {v xv : Value} {L M : List (Int × Int)} (hown : PairRow B w v L) (hM : OpsAt w xv M) (hL : L.length + M.length ≤ 2000000) (hB : B ≤ w.heap.size) :
    ∃ v' w', (Builtin.append_ #[27, 27] ty #[v, xv]).run Tryz.prog w = .ok v' w' ∧ PairRow B w' v' (L ++ M) ∧ w.grownBy w' v.ownBlock ∧ (v'.ownBlock = v.ownBlock ∨ v'.ownBlock = some w.heap.size) := by
  obtain ⟨i0, hi, hz0, hz1, hz2⟩ := info_parts Tryz.infoVal
  have h1 := hown.crow
  have h2 := src_vals (P := Tryz.prog) Tryz.underlying27 hM
  rw [← hz1] at h1 h2
  obtain ⟨v', w', hr, hc, hg, hb⟩ := run_append_rows2 (P := Tryz.prog) (ty := ty) Tryz.underlying27 hi hz0 (by rw [hz1]; rfl) (by rw [hz2]; omega) h1 xv M.length (pcells M) h2 hL hB
  refine ⟨v', w', hr, ?_, hg, hb⟩
  rw [hz1, ← pcells_append] at hc
  exact hc.pair (by simp)

theorem append_vals2 {ops : Array Oper} {rest : List Oper} {o : Oper} {act : Act} {Q : Exit → Act → World → Prop} (w : World) (hgd : o.guard = none) (s x : Operand)
    (ho : o.op = .call { callee := .builtin .append, args := #[s, x], argTypes := #[27, 27] }) (B : Nat) (v xv : Value) (L M : List (Int × Int)) (hs : act.eval s = v) (hx : act.eval x = xv) (hown : PairRow B w v L) (hM : OpsAt w xv M)
    (hL : L.length + M.length ≤ 2000000) (hB : B ≤ w.heap.size)
    (h : ∀ v' w', PairRow B w' v' (L ++ M) → w.grownBy w' v.ownBlock → (v'.ownBlock = v.ownBlock ∨ v'.ownBlock = some w.heap.size) → wpList Tryz.prog ops Q rest (act.put o.dst v') w') :
    wpList Tryz.prog ops Q (o :: rest) act w := by
  obtain ⟨v', w', hr, h2, h3, h4⟩ := run_append_vals2 (ty := o.type) hown hM hL hB
  refine wpList_plain hgd fun K hK => ?_
  unfold Oper.wp execOp
  simp only [ho, resolve, invoke, builtin, Sem.run_bind, Sem.run_pure, Result.andThen_ok, List.map_toArray, List.map_cons, List.map_nil, hs, hx, hr]
  exact hK _ _ (h v' w' h2 h3 h4)

theorem step_vals2 {ops : Array Oper} {o : Oper} {act : Act} {K : Act → World → Prop} {Q : Exit → Act → World → Prop} {E : Prop} (w : World) (hgd : o.guard = none) (s x : Operand)
    (ho : o.op = .call { callee := .builtin .append, args := #[s, x], argTypes := #[27, 27] }) (B : Nat) (v xv : Value) (L M : List (Int × Int)) (hs : act.eval s = v) (hx : act.eval x = xv) (hown : PairRow B w v L) (hM : OpsAt w xv M)
    (hL : L.length + M.length ≤ 2000000) (hB : B ≤ w.heap.size)
    (h : ∀ v' w', PairRow B w' v' (L ++ M) → w.grownBy w' v.ownBlock → (v'.ownBlock = v.ownBlock ∨ v'.ownBlock = some w.heap.size) → K (act.put o.dst v') w') :
    if Region.wanted o (yielded ops act.tmps) = true then Oper.wp Tryz.prog o act w K Q else E := by
  obtain ⟨v', w', hr, h2, h3, h4⟩ := run_append_vals2 (ty := o.type) hown hM hL hB
  rw [if_pos (by simp [Region.wanted, hgd])]
  unfold Oper.wp execOp
  simp only [ho, resolve, invoke, builtin, Sem.run_bind, Sem.run_pure, Result.andThen_ok, List.map_toArray, List.map_cons, List.map_nil, hs, hx, hr]
  exact h v' w' h2 h3 h4

set_option maxRecDepth 100000 in
set_option maxHeartbeats 1000000 in
theorem clone_big (v : Value) (xs : List (Int × Int)) (w : World) (h : OpsAt w v xs) (hl : xs.length ≤ 1048576) :
    Calls Tryz.prog 33 #[v] w fun e w' => ∃ v', e = .returned v' ∧ PairRow w.heap.size w' v' xs ∧ Below w.heap.size w w' := by
  obtain ⟨a, c, rfl, hlm, hc⟩ := id h
  have hnil : ∀ (W : World) (a : Option Addr) (n c : Nat), (binOp .eql 27 (.slice a n c) (.slice none 0 0)).run Tryz.prog W = .ok (.bool a.isNone) W := fun W a n c => Lib.run_eql_slice_nil W _ _ a n c 0 0 Tryz.underlying27
  cases a with
  | none =>
    have hx : xs = [] := by
      cases xs with
      | nil => rfl
      | cons y t => obtain ⟨b, o, e, _⟩ := hc 0 (by simp); cases e
    subst hx
    go_enter Tryz.func33, Tryz.ntmps33
    go_wp2
    go_ret
    exact ⟨_, rfl, PairRow.nil _ _, Below.refl _ _⟩
  | some ad =>
    have N1 := (Below.refl w.heap.size w).alloc (Nat.le_refl _) (.cells #[] 43)
    have mk := PairRow.made (B := w.heap.size) (w := w) (e := 43) (Nat.le_refl _)
    have h1 := h.below N1
    go_enter Tryz.func33, Tryz.ntmps33
    go_wp2_with (at_builtin; refine append_vals2 _ (by rfl) _ _ (by rfl) w.heap.size _ _ [] xs (by rfl) (by rfl) mk h1 (by simp; omega) N1.size ?_; intro v2 w2 hrow2 hg2 hb2; rw [List.nil_append] at hrow2)
    have B2 := N1.grown hg2 N1.size (fun q e => (mk.lt q e).1)
    clear hg2 hb2
    go_ret
    exact ⟨_, rfl, hrow2, B2⟩


/-- a heap without what cannot be come to -/
def trimH (ms : List (Int × Int × List (Int × Int))) (h : Hp) : Hp := if heapOk ms h = true then ⟨viewL h, if h.now = -1 then -1 else 0, h.born, h.said, h.code⟩ else ⟨[], 0, 0, [], 0⟩

structure OkParts (h : Hp) : Prop where
  sh : h.short
  n30 : h.calls.length ≤ 30
  sd : ∀ i, (hi : i < h.calls.length) → -1 ≤ h.calls[i].sender
  now0 : -1 ≤ h.now
  small : ∀ i, (hi : i < h.calls.length) → h.calls[i].temps.length ≤ 4 ∧ h.calls[i].stack.length ≤ 6

theorem ok_parts {ms : List (Int × Int × List (Int × Int))} {h : Hp} (e : heapOk ms h = true) : OkParts h := by
  unfold heapOk at e
  simp only [Bool.and_eq_true] at e
  obtain ⟨⟨eh, ec⟩, _⟩ := e
  have hcl : ∀ i, (hi : i < h.calls.length) → clOk ms h.calls.length h.calls[i] = true := fun i hi => List.all_eq_true.1 ec _ (List.getElem_mem hi)
  unfold headOk at eh
  simp only [Bool.and_eq_true, inR_true, decide_eq_true_iff] at eh
  obtain ⟨⟨⟨⟨⟨⟨ep, en⟩, eb⟩, ecb⟩, _⟩, _⟩, _⟩ := eh
  have hms : ∀ m ∈ ms, m.2.1 ≤ 4 := fun m hm => by
    unfold progOk at ep
    simp only [Bool.and_eq_true] at ep
    have := List.all_eq_true.1 ep.2 m hm
    unfold methOk at this
    simp only [Bool.and_eq_true, inR_true] at this
    omega
  have hsm : ∀ i, (hi : i < h.calls.length) → h.calls[i].temps.length ≤ 4 ∧ h.calls[i].stack.length ≤ 6 := fun i hi => by
    have hc := hcl i hi
    simp only [clOk, Bool.and_eq_true, inR_true, decide_eq_true_iff] at hc
    obtain ⟨⟨⟨⟨hm, _⟩, ht⟩, hst⟩, _⟩ := hc
    refine ⟨?_, hst⟩
    have hlt : h.calls[i].m.toNat < ms.length := by omega
    have hg : ms.getD h.calls[i].m.toNat (0, 0, []) = ms[h.calls[i].m.toNat] := by simp [hlt]
    rw [hg] at ht
    have := hms _ (List.getElem_mem hlt)
    omega
  exact ⟨⟨by omega, fun i hi => by have := hsm i hi; omega⟩, by omega, fun i hi => (clOk_sender (hcl i hi)).1, by omega, hsm⟩

end Go.Proofs.YthkjgfhheejaoaaGreatDoor
