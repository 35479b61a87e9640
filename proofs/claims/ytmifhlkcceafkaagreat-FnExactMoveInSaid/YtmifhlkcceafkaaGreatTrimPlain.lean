/-
  HeapTrim of both sides: without what cannot be come to.
-/
import Derived.Test.YtmifhlkcceafkaaGreatVImpl5
import Derived.Test.YtmifhlkcceafkaaGreatMThing4
import Derived.Test.YtmifhlkcceafkaaGreatHImpl4
import Derived.Lib.MinMax
import Derived.Test.YtmifhlkcceafkaaGreatRunPlain
import Derived.Test.YtmifhlkcceafkaaGreatHImpl3

namespace Go.Proofs.YtmifhlkcceafkaaGreat
open Go.RowKit
theorem run_append_rows2 {P : Program} {t tx ty e : TypeId} {i : TypeInfo} {z : Value} {B : Nat} (ht : P.underlying t = some (.slice e)) (hi : P.info? e = some i) (hz : i.zero = some z) (hzs : z.cells.size = i.size) (hby : i.bytes ≤ 1000)
    {w : World} {v : Value} {n : Nat} {xs : List Value} (hown : CRow B i.size w v n xs) (x : Value) (m : Nat) (news : List Value) (hs : Src P i.size tx x m news w) (hL : n + m ≤ 2000000) (hB : B ≤ w.heap.size) :
    ∃ v' w', (Builtin.append_ #[t, tx] ty #[v, x]).run P w = .ok v' w' ∧ CRow B i.size w' v' (n + m) (xs ++ news) ∧ w.grownBy w' v.ownBlock ∧ (v'.ownBlock = v.ownBlock ∨ v'.ownBlock = some w.heap.size) := by
  obtain ⟨hxl, hown⟩ := hown
  have hll : (xs ++ news).length = (n + m) * i.size := by rw [List.length_append, hxl, hs.newsLen, Nat.add_mul]
  have hgrown : ∀ (k : Nat), n + m ≤ k → k ≤ maxLen →
      CRow B i.size (w.drew.alloc (.cells ((xs ++ news).toArray ++ Builtin.zeroCells z.cells (k - (n + m))) e)) (.slice (some ⟨w.heap.size, 0, none⟩) (n + m) k) (n + m) (xs ++ news) := by
    intro k hqk hk
    have hsz0 : (Builtin.zeroCells z.cells (k - (n + m))).size = (k - (n + m)) * i.size := by rw [size_zeroCells, hzs]
    have hblk : (w.drew.alloc (.cells ((xs ++ news).toArray ++ Builtin.zeroCells z.cells (k - (n + m))) e)).heap[w.heap.size]? = some (.cells ((xs ++ news).toArray ++ Builtin.zeroCells z.cells (k - (n + m))) e) := Go.Deep.blk_alloc_new w.drew _
    have hsum : (n + m) * i.size + (k - (n + m)) * i.size = k * i.size := by rw [← Nat.add_mul]; congr 1; omega
    refine ⟨hll, .inr ⟨w.heap.size, 0, k, rfl, hB, by simp, hqk, hk, fun j hj => ?_, fun j hj => ?_⟩⟩
    · refine ⟨?_, ?_⟩
      · rw [Nat.zero_add, cell_of_row _ _ _ _ _ _ hblk]
        rw [Array.getElem?_eq_getElem (by rw [Array.size_append, hsz0, List.size_toArray, hll]; omega)]; rfl
      · unfold World.frozen?
        rw [hblk]
        simp
    · rw [Nat.zero_add, cell_of_row _ _ _ _ _ _ hblk, Array.getElem?_append_left (by rw [List.size_toArray]; exact hj)]
      simp [List.getElem?_eq_getElem hj]
  have hgb : ∀ (o : Obj) (row : Option Nat), w.grownBy (w.drew.alloc o) row := fun o row =>
    ⟨rfl, rfl, rfl, Nat.le_of_lt (by rw [World.size_alloc]; exact Nat.lt_succ_self _), fun k hk _ => Below.heap_alloc w.drew _ k hk⟩
  rcases hown with ⟨rfl, rfl⟩ | ⟨g, off, cap, rfl, hBg, hg, hl, hmx, hsp, hx⟩
  · obtain rfl : xs = [] := List.eq_nil_of_length_eq_zero (by simpa using hxl)
    by_cases hm0 : m = 0
    · subst hm0
      obtain rfl : news = [] := List.eq_nil_of_length_eq_zero (by simpa using hs.newsLen)
      refine ⟨.slice none 0 0, w, ?_, CRow.nil _ _ _, World.grownBy.refl _ _, .inl rfl⟩
      rcases hs.kind with ⟨e', hk⟩ | hk <;> simp [Builtin.append_, run_underlying ht, run_underlying hk, sizeOf, typeInfo, hi, hs.len, hs.cells]
    · have hr := run_append_grow_src (P := P) w t tx ty e i z ht hi hz none 0 0 [] (run_firstCells_none _ _ _ _ _) x m news hs (by omega) (by omega) (growslice_fits (by omega) (by have := Nat.mul_le_mul (show 0 + m ≤ 2000000 by omega) hby; omega))
      refine ⟨_, _, hr, ?_, hgb _ _, .inr rfl⟩
      exact hgrown (grownCap w (0 + m) 0 e) (grownCap_ge _ _ _ _) (grownCap_le_maxLen _ _ _ _ (by unfold maxLen; omega))
  · by_cases hroom : n + m ≤ cap
    · have hle : n * i.size + news.length ≤ cap * i.size := by rw [hs.newsLen, ← Nat.add_mul]; exact Nat.mul_le_mul_right _ hroom
      have hc : ∀ j, j < news.length → (w.cell? ⟨g, off + n * i.size + j, none⟩).isSome = true := fun j hj => by
        have := (hsp (n * i.size + j) (by omega)).1
        rwa [← Nat.add_assoc] at this
      have hf : ∀ j, j < news.length → w.frozen? ⟨g, off + n * i.size + j, none⟩ = false := fun j hj => by
        have := (hsp (n * i.size + j) (by omega)).2
        rwa [← Nat.add_assoc] at this
      have hr := run_append_room_src (P := P) w t tx ty e i ht hi g off n cap x m news hs hroom hc hf
      obtain ⟨r1, r2, r3⟩ := setCells_rest g news (off + n * i.size) w
      refine ⟨_, _, hr, ⟨hll, .inr ⟨g, off, cap, rfl, hBg, by rw [setCells_size]; exact hg, hroom, hmx, fun j hj => ?_, fun j hj => ?_⟩⟩, ⟨r1, r2, r3, by rw [setCells_size]; exact Nat.le_refl _, fun k _ hk => setCells_other _ _ _ _ _ (fun e => hk (by rw [e]; rfl))⟩, .inl rfl⟩
      · rw [World.frozen?_setCells]
        refine ⟨?_, (hsp j hj).2⟩
        by_cases hin : n * i.size ≤ j ∧ j < n * i.size + news.length
        · have := World.cell?_setCells_in g news (off + n * i.size) w hc (j - n * i.size) (by omega)
          rw [show off + n * i.size + (j - n * i.size) = off + j by omega] at this
          rw [this]; rfl
        · rw [World.cell?_setCells_out g _ _ _ _ (fun _ _ => by simp; omega)]
          exact (hsp j hj).1
      · rw [List.length_append] at hj
        by_cases hin : j < xs.length
        · rw [World.cell?_setCells_out g _ _ _ _ (fun _ _ => by simp; omega), hx j hin]
          simp [hin]
        · have := World.cell?_setCells_in g news (off + n * i.size) w hc (j - n * i.size) (by omega)
          rw [show off + n * i.size + (j - n * i.size) = off + j by omega] at this
          rw [this, List.getElem_append_right (by omega)]
          simp only [hxl]
    · have hr := run_append_grow_src (P := P) w t tx ty e i z ht hi hz (some ⟨g, off, none⟩) n cap xs (run_firstCells_some _ _ _ _ _ _ _ hxl (fun j u hu => by
          by_cases hj : j < xs.length
          · rw [List.getElem?_eq_getElem hj] at hu
            have h1 := hx j hj
            rw [Addr.add_lit]
            show w.cell? _ = _
            rw [h1]
            simpa using hu
          · rw [List.getElem?_eq_none (by omega)] at hu; simp at hu)) x m news hs (by omega) (by omega) (growslice_fits (by omega) (by have := Nat.mul_le_mul (show n + m ≤ 2000000 by omega) hby; omega))
      refine ⟨_, _, hr, ?_, hgb _ _, .inr rfl⟩
      exact hgrown (grownCap w (n + m) cap e) (grownCap_ge _ _ _ _) (grownCap_le_maxLen _ _ _ _ (by unfold maxLen; omega))
theorem run_append_vals2 {ty : TypeId} {B : Nat} {w : World} {v xv : Value} {L M : List (Int × Int)} (hown : PairRow B w v L) (hM : OpsAt w xv M) (hL : L.length + M.length ≤ 2000000) (hB : B ≤ w.heap.size) :
    ∃ v' w', (Builtin.append_ #[34, 34] ty #[v, xv]).run Tryz.prog w = .ok v' w' ∧ PairRow B w' v' (L ++ M) ∧ w.grownBy w' v.ownBlock ∧ (v'.ownBlock = v.ownBlock ∨ v'.ownBlock = some w.heap.size) := by
  obtain ⟨i0, hi, hz0, hz1, hz2⟩ := info_parts Tryz.infoVal
  have h1 := hown.crow
  have h2 := src_vals (P := Tryz.prog) Tryz.underlying34 hM
  rw [← hz1] at h1 h2
  obtain ⟨v', w', hr, hc, hg, hb⟩ := run_append_rows2 (P := Tryz.prog) (ty := ty) Tryz.underlying34 hi hz0 (by rw [hz1]; rfl) (by rw [hz2]; omega) h1 xv M.length (pcells M) h2 hL hB
  refine ⟨v', w', hr, ?_, hg, hb⟩
  rw [hz1, ← pcells_append] at hc
  exact hc.pair (by simp)
theorem append_vals2 {ops : Array Oper} {rest : List Oper} {o : Oper} {act : Act} {Q : Exit → Act → World → Prop} (w : World) (hgd : o.guard = none) (s x : Operand)
    (ho : o.op = .call { callee := .builtin .append, args := #[s, x], argTypes := #[34, 34] }) (B : Nat) (v xv : Value) (L M : List (Int × Int)) (hs : act.eval s = v) (hx : act.eval x = xv) (hown : PairRow B w v L) (hM : OpsAt w xv M)
    (hL : L.length + M.length ≤ 2000000) (hB : B ≤ w.heap.size)
    (h : ∀ v' w', PairRow B w' v' (L ++ M) → w.grownBy w' v.ownBlock → (v'.ownBlock = v.ownBlock ∨ v'.ownBlock = some w.heap.size) → wpList Tryz.prog ops Q rest (act.put o.dst v') w') :
    wpList Tryz.prog ops Q (o :: rest) act w := by
  obtain ⟨v', w', hr, h2, h3, h4⟩ := run_append_vals2 (ty := o.type) hown hM hL hB
  refine wpList_plain hgd fun K hK => ?_
  unfold Oper.wp execOp
  simp only [ho, resolve, invoke, builtin, Sem.run_bind, Sem.run_pure, Result.andThen_ok, List.map_toArray, List.map_cons, List.map_nil, hs, hx, hr]
  exact hK _ _ (h v' w' h2 h3 h4)
set_option maxRecDepth 100000 in
set_option maxHeartbeats 1000000 in
theorem clone_big (v : Value) (xs : List (Int × Int)) (w : World) (h : OpsAt w v xs) (hl : xs.length ≤ 1048576) :
    Calls Tryz.prog 34 #[v] w fun e w' => ∃ v', e = .returned v' ∧ PairRow w.heap.size w' v' xs ∧ Below w.heap.size w w' := by
  obtain ⟨a, c, rfl, hlm, hc⟩ := id h
  have hnil : ∀ (W : World) (a : Option Addr) (n c : Nat), (binOp .eql 34 (.slice a n c) (.slice none 0 0)).run Tryz.prog W = .ok (.bool a.isNone) W := fun W a n c => Lib.run_eql_slice_nil W _ _ a n c 0 0 Tryz.underlying34
  cases a with
  | none =>
    have hx : xs = [] := by
      cases xs with
      | nil => rfl
      | cons y t => obtain ⟨b, o, e, _⟩ := hc 0 (by simp); cases e
    subst hx
    go_enter Tryz.func34, Tryz.ntmps34
    go_wp2
    go_ret
    exact ⟨_, rfl, PairRow.nil _ _, Below.refl _ _⟩
  | some ad =>
    have N1 := (Below.refl w.heap.size w).alloc (Nat.le_refl _) (.cells #[] 82)
    have mk := PairRow.made (B := w.heap.size) (w := w) (e := 82) (Nat.le_refl _)
    have h1 := h.below N1
    go_enter Tryz.func34, Tryz.ntmps34
    go_wp2_with (at_builtin; refine append_vals2 _ (by rfl) _ _ (by rfl) w.heap.size _ _ [] xs (by rfl) (by rfl) mk h1 (by simp; omega) N1.size ?_; intro v2 w2 hrow2 hg2 hb2; rw [List.nil_append] at hrow2)
    have B2 := N1.grown hg2 N1.size (fun q e => (mk.lt q e).1)
    clear hg2 hb2
    go_ret
    exact ⟨_, rfl, hrow2, B2⟩
structure OkParts (h : Hp) : Prop where
  sh : h.short
  n30 : h.calls.length ≤ 30
  sd : ∀ i, (hi : i < h.calls.length) → -1 ≤ h.calls[i].sender
  now0 : -1 ≤ h.now
  small : ∀ i, (hi : i < h.calls.length) → h.calls[i].temps.length ≤ 4 ∧ h.calls[i].stack.length ≤ 6
theorem ok_parts {ms : List (Int × Int × List (Int × Int))} {h : Hp} (e : heapOk ms h = true) : OkParts h := by
  unfold heapOk at e
  simp only [Bool.and_eq_true] at e
  obtain ⟨⟨eh, ec⟩, _⟩ := e
  have hcl : ∀ i, (hi : i < h.calls.length) → clOk ms h.calls.length h.calls[i] = true := fun i hi => List.all_eq_true.1 ec _ (List.getElem_mem hi)
  unfold headOk at eh
  simp only [Bool.and_eq_true, inR_true, decide_eq_true_iff] at eh
  obtain ⟨⟨⟨⟨⟨⟨ep, en⟩, eb⟩, ecb⟩, _⟩, _⟩, _⟩ := eh
  have hms : ∀ m ∈ ms, m.2.1 ≤ 4 := fun m hm => by
    unfold progOk at ep
    simp only [Bool.and_eq_true] at ep
    have := List.all_eq_true.1 ep.2 m hm
    unfold methOk at this
    simp only [Bool.and_eq_true, inR_true] at this
    omega
  have hsm : ∀ i, (hi : i < h.calls.length) → h.calls[i].temps.length ≤ 4 ∧ h.calls[i].stack.length ≤ 6 := fun i hi => by
    have hc := hcl i hi
    simp only [clOk, Bool.and_eq_true, inR_true, decide_eq_true_iff] at hc
    obtain ⟨⟨⟨⟨hm, _⟩, ht⟩, hst⟩, _⟩ := hc
    refine ⟨?_, hst⟩
    have hlt : h.calls[i].m.toNat < ms.length := by omega
    have hg : ms.getD h.calls[i].m.toNat (0, 0, []) = ms[h.calls[i].m.toNat] := by simp [hlt]
    rw [hg] at ht
    have := hms _ (List.getElem_mem hlt)
    omega
  exact ⟨⟨by omega, fun i hi => by have := hsm i hi; omega⟩, by omega, fun i hi => (clOk_sender (hcl i hi)).1, by omega, hsm⟩
end Go.Proofs.YtmifhlkcceafkaaGreat

/-
  A heap without what cannot be come to, in plain words: it is ok, all that wait are seen, and it is its own trimmed heap.
-/
namespace Go.Proofs.YtmifhlkcceafkaaGreat
open Go.RowKit
end Go.Proofs.YtmifhlkcceafkaaGreat

/-
  A heap within another: its calls are some of the greater one's, by other numbers, and tell of one another alone. What is done in the one is done in the other, and the same is seen of both. Nothing of the translation is used here.
-/
namespace Go.Proofs.YtmifhlkcceafkaaGreat
open Go.RowKit
def up (φ : Nat → Nat) (a : Int) : Int := if 0 ≤ a then (φ a.toNat : Int) else a
end Go.Proofs.YtmifhlkcceafkaaGreat

/-
  What is said of a heap without what cannot be come to, in plain words. Nothing of the translation is used here.
-/
namespace Go.Proofs.YtmifhlkcceafkaaGreat
open Go.RowKit
end Go.Proofs.YtmifhlkcceafkaaGreat
