/-
  Rows of cells of one's own, elements of any size: more is appended to them. Nothing of the translation is used here.
-/
import Derived.Test.YtldiccheboipeaaOwn
import Derived.Deep.AppendSrc

namespace Go.Proofs.Ytldiccheboipeaa
open Go.RowKit
def CRow (B sz : Nat) (w : World) (v : Value) (n : Nat) (xs : List Value) : Prop :=
  xs.length = n * sz ∧ ((v = .slice none 0 0 ∧ n = 0) ∨
  ∃ (g off cap : Nat), v = .slice (some ⟨g, off, none⟩) n cap ∧ B ≤ g ∧ g < w.heap.size ∧ n ≤ cap ∧ cap ≤ maxLen ∧
    (∀ i, i < cap * sz → (w.cell? ⟨g, off + i, none⟩).isSome = true ∧ w.frozen? ⟨g, off + i, none⟩ = false) ∧
    ∀ i, (h : i < xs.length) → w.cell? ⟨g, off + i, none⟩ = some xs[i])
theorem CRow.nil (B sz : Nat) (w : World) : CRow B sz w (.slice none 0 0) 0 [] := ⟨by simp, .inl ⟨rfl, rfl⟩⟩
theorem CRow.made {B sz : Nat} {w : World} {e : TypeId} (hB : B ≤ w.heap.size) : CRow B sz (w.alloc (.cells #[] e)) (.slice (some ⟨w.heap.size, 0, none⟩) 0 0) 0 [] :=
  ⟨by simp, .inr ⟨w.heap.size, 0, 0, rfl, hB, by simp, Nat.le_refl _, Nat.zero_le _, fun i hi => by simp at hi, fun i hi => by simp at hi⟩⟩
theorem CRow.lt {B sz n : Nat} {w : World} {v : Value} {xs : List Value} (h : CRow B sz w v n xs) : ∀ k, v.ownBlock = some k → B ≤ k ∧ k < w.heap.size := by
  intro k hk
  rcases h.2 with ⟨rfl, _⟩ | ⟨g, off, cap, rfl, hB, hg, _⟩
  · simp [Value.ownBlock] at hk
  · simp [Value.ownBlock] at hk
    omega
theorem CRow.kept {B sz n : Nat} {w w' : World} {v : Value} {xs : List Value} (h : CRow B sz w v n xs) (hsz : w.heap.size ≤ w'.heap.size) (hb : ∀ g, v.ownBlock = some g → w'.heap[g]? = w.heap[g]?) : CRow B sz w' v n xs := by
  refine ⟨h.1, ?_⟩
  rcases h.2 with h | ⟨g, off, cap, rfl, hB, hg, hl, hc, hsp, hx⟩
  · exact .inl h
  · have hbk := hb g rfl
    refine .inr ⟨g, off, cap, rfl, hB, by omega, hl, hc, fun i hi => ?_, fun i hi => ?_⟩
    · rw [World.cell?_of_block (a := ⟨g, off + i, none⟩) hbk, World.frozen?_of_block (a := ⟨g, off + i, none⟩) hbk]; exact hsp i hi
    · rw [World.cell?_of_block (a := ⟨g, off + i, none⟩) hbk]; exact hx i hi
theorem CRow.below {B sz n : Nat} {w w' : World} {v : Value} {xs : List Value} (h : CRow B sz w v n xs) (hb : Below w.heap.size w w') : CRow B sz w' v n xs :=
  h.kept hb.size fun g hg => hb.block g (h.lt g hg).2
theorem setCells_size (g : Nat) : ∀ (vs : List Value) (o : Nat) (W : World), (W.setCells g o vs).heap.size = W.heap.size
  | [], _, _ => rfl
  | v :: r, o, W => by rw [World.setCells, setCells_size g r]; simp [World.setCell]
theorem setCells_other (g : Nat) : ∀ (vs : List Value) (o : Nat) (W : World) (k : Nat), k ≠ g → (W.setCells g o vs).heap[k]? = W.heap[k]?
  | [], _, _, _, _ => rfl
  | v :: r, o, W, k, hk => by rw [World.setCells, setCells_other g r _ _ _ hk]; exact Below.heap_setCell _ _ _ _ hk
theorem setCells_rest (g : Nat) : ∀ (vs : List Value) (o : Nat) (W : World), (W.setCells g o vs).os = W.os ∧ (W.setCells g o vs).tape = W.tape ∧ (W.setCells g o vs).output = W.output
  | [], _, _ => ⟨rfl, rfl, rfl⟩
  | v :: r, o, W => by rw [World.setCells]; exact setCells_rest g r _ _
theorem run_append_rows {P : Program} {t tx ty e : TypeId} {i : TypeInfo} {z : Value} {B : Nat} (ht : P.underlying t = some (.slice e)) (hi : P.info? e = some i) (hz : i.zero = some z) (hzs : z.cells.size = i.size) (hby : i.bytes ≤ 1000)
    {w : World} {v : Value} {n : Nat} {xs : List Value} (hown : CRow B i.size w v n xs) (x : Value) (m : Nat) (news : List Value) (hs : Src P i.size tx x m news w) (hL : n + m ≤ 3000000) (hB : B ≤ w.heap.size) :
    ∃ v' w', (Builtin.append_ #[t, tx] ty #[v, x]).run P w = .ok v' w' ∧ CRow B i.size w' v' (n + m) (xs ++ news) ∧ w.grownBy w' v.ownBlock ∧ (v'.ownBlock = v.ownBlock ∨ v'.ownBlock = some w.heap.size) := by
  obtain ⟨hxl, hown⟩ := hown
  have hll : (xs ++ news).length = (n + m) * i.size := by rw [List.length_append, hxl, hs.newsLen, Nat.add_mul]
  have hgrown : ∀ (k : Nat), n + m ≤ k → k ≤ maxLen →
      CRow B i.size (w.drew.alloc (.cells ((xs ++ news).toArray ++ Builtin.zeroCells z.cells (k - (n + m))) e)) (.slice (some ⟨w.heap.size, 0, none⟩) (n + m) k) (n + m) (xs ++ news) := by
    intro k hqk hk
    have hsz0 : (Builtin.zeroCells z.cells (k - (n + m))).size = (k - (n + m)) * i.size := by rw [size_zeroCells, hzs]
    have hblk : (w.drew.alloc (.cells ((xs ++ news).toArray ++ Builtin.zeroCells z.cells (k - (n + m))) e)).heap[w.heap.size]? = some (.cells ((xs ++ news).toArray ++ Builtin.zeroCells z.cells (k - (n + m))) e) := Go.Deep.blk_alloc_new w.drew _
    have hsum : (n + m) * i.size + (k - (n + m)) * i.size = k * i.size := by rw [← Nat.add_mul]; congr 1; omega
    refine ⟨hll, .inr ⟨w.heap.size, 0, k, rfl, hB, by simp, hqk, hk, fun j hj => ?_, fun j hj => ?_⟩⟩
    · refine ⟨?_, ?_⟩
      · rw [Nat.zero_add, cell_of_row _ _ _ _ _ _ hblk]
        rw [Array.getElem?_eq_getElem (by rw [Array.size_append, hsz0, List.size_toArray, hll]; omega)]; rfl
      · unfold World.frozen?
        rw [hblk]
        simp
    · rw [Nat.zero_add, cell_of_row _ _ _ _ _ _ hblk, Array.getElem?_append_left (by rw [List.size_toArray]; exact hj)]
      simp [List.getElem?_eq_getElem hj]
  have hgb : ∀ (o : Obj) (row : Option Nat), w.grownBy (w.drew.alloc o) row := fun o row =>
    ⟨rfl, rfl, rfl, Nat.le_of_lt (by rw [World.size_alloc]; exact Nat.lt_succ_self _), fun k hk _ => Below.heap_alloc w.drew _ k hk⟩
  rcases hown with ⟨rfl, rfl⟩ | ⟨g, off, cap, rfl, hBg, hg, hl, hmx, hsp, hx⟩
  · obtain rfl : xs = [] := List.eq_nil_of_length_eq_zero (by simpa using hxl)
    by_cases hm0 : m = 0
    · subst hm0
      obtain rfl : news = [] := List.eq_nil_of_length_eq_zero (by simpa using hs.newsLen)
      refine ⟨.slice none 0 0, w, ?_, CRow.nil _ _ _, World.grownBy.refl _ _, .inl rfl⟩
      rcases hs.kind with ⟨e', hk⟩ | hk <;> simp [Builtin.append_, run_underlying ht, run_underlying hk, sizeOf, typeInfo, hi, hs.len, hs.cells]
    · have hr := run_append_grow_src (P := P) w t tx ty e i z ht hi hz none 0 0 [] (run_firstCells_none _ _ _ _ _) x m news hs (by omega) (by omega) (growslice_fits (by omega) (by have := Nat.mul_le_mul (show 0 + m ≤ 3000000 by omega) hby; omega))
      refine ⟨_, _, hr, ?_, hgb _ _, .inr rfl⟩
      exact hgrown (grownCap w (0 + m) 0 e) (grownCap_ge _ _ _ _) (grownCap_le_maxLen _ _ _ _ (by unfold maxLen; omega))
  · by_cases hroom : n + m ≤ cap
    · have hle : n * i.size + news.length ≤ cap * i.size := by rw [hs.newsLen, ← Nat.add_mul]; exact Nat.mul_le_mul_right _ hroom
      have hc : ∀ j, j < news.length → (w.cell? ⟨g, off + n * i.size + j, none⟩).isSome = true := fun j hj => by
        have := (hsp (n * i.size + j) (by omega)).1
        rwa [← Nat.add_assoc] at this
      have hf : ∀ j, j < news.length → w.frozen? ⟨g, off + n * i.size + j, none⟩ = false := fun j hj => by
        have := (hsp (n * i.size + j) (by omega)).2
        rwa [← Nat.add_assoc] at this
      have hr := run_append_room_src (P := P) w t tx ty e i ht hi g off n cap x m news hs hroom hc hf
      obtain ⟨r1, r2, r3⟩ := setCells_rest g news (off + n * i.size) w
      refine ⟨_, _, hr, ⟨hll, .inr ⟨g, off, cap, rfl, hBg, by rw [setCells_size]; exact hg, hroom, hmx, fun j hj => ?_, fun j hj => ?_⟩⟩, ⟨r1, r2, r3, by rw [setCells_size]; exact Nat.le_refl _, fun k _ hk => setCells_other _ _ _ _ _ (fun e => hk (by rw [e]; rfl))⟩, .inl rfl⟩
      · rw [World.frozen?_setCells]
        refine ⟨?_, (hsp j hj).2⟩
        by_cases hin : n * i.size ≤ j ∧ j < n * i.size + news.length
        · have := World.cell?_setCells_in g news (off + n * i.size) w hc (j - n * i.size) (by omega)
          rw [show off + n * i.size + (j - n * i.size) = off + j by omega] at this
          rw [this]; rfl
        · rw [World.cell?_setCells_out g _ _ _ _ (fun _ _ => by simp; omega)]
          exact (hsp j hj).1
      · rw [List.length_append] at hj
        by_cases hin : j < xs.length
        · rw [World.cell?_setCells_out g _ _ _ _ (fun _ _ => by simp; omega), hx j hin]
          simp [hin]
        · have := World.cell?_setCells_in g news (off + n * i.size) w hc (j - n * i.size) (by omega)
          rw [show off + n * i.size + (j - n * i.size) = off + j by omega] at this
          rw [this, List.getElem_append_right (by omega)]
          simp only [hxl]
    · have hr := run_append_grow_src (P := P) w t tx ty e i z ht hi hz (some ⟨g, off, none⟩) n cap xs (run_firstCells_some _ _ _ _ _ _ _ hxl (fun j u hu => by
          by_cases hj : j < xs.length
          · rw [List.getElem?_eq_getElem hj] at hu
            have h1 := hx j hj
            rw [Addr.add_lit]
            show w.cell? _ = _
            rw [h1]
            simpa using hu
          · rw [List.getElem?_eq_none (by omega)] at hu; simp at hu)) x m news hs (by omega) (by omega) (growslice_fits (by omega) (by have := Nat.mul_le_mul (show n + m ≤ 3000000 by omega) hby; omega))
      refine ⟨_, _, hr, ?_, hgb _ _, .inr rfl⟩
      exact hgrown (grownCap w (n + m) cap e) (grownCap_ge _ _ _ _) (grownCap_le_maxLen _ _ _ _ (by unfold maxLen; omega))
end Go.Proofs.Ytldiccheboipeaa
