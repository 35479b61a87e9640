/-
  Rows of numbers in memory of one's own: read, written, resliced, more behind them.
-/
import Derived.Test.YtmifhlkcceafkaaGreatHPlain
import Derived.Laws.AppendOwn
import Derived.ArgAppend
import Derived.Deep.AppendLies
import Derived.BigQuiet

namespace Go.Proofs.YtmifhlkcceafkaaGreat
open Go.RowKit
def IntRow (B : Nat) (w : World) (v : Value) (xs : List Int) : Prop :=
  (v = .slice none 0 0 ∧ xs = []) ∨
  ∃ (g off cap : Nat), v = .slice (some ⟨g, off, none⟩) xs.length cap ∧ B ≤ g ∧ g < w.heap.size ∧ xs.length ≤ cap ∧ cap ≤ maxLen ∧
    (∀ i, i < cap → (w.cell? ⟨g, off + i, none⟩).isSome = true ∧ w.frozen? ⟨g, off + i, none⟩ = false) ∧
    ∀ i, (h : i < xs.length) → w.cell? ⟨g, off + i, none⟩ = some (.int .i64 xs[i])
theorem IntRow.nil (B : Nat) (w : World) : IntRow B w (.slice none 0 0) [] := .inl ⟨rfl, rfl⟩
theorem IntRow.form {B : Nat} {w : World} {v : Value} {xs : List Int} (h : IntRow B w v xs) (hx : 0 < xs.length) : ∃ g off cap, v = .slice (some ⟨g, off, none⟩) xs.length cap ∧ B ≤ g ∧ g < w.heap.size := by
  rcases h with ⟨_, rfl⟩ | ⟨g, off, cap, hv, hB, hg, _⟩
  · simp at hx
  · exact ⟨g, off, cap, hv, hB, hg⟩
theorem IntRow.slice {B : Nat} {w : World} {v : Value} {xs : List Int} (h : IntRow B w v xs) : ∃ a cap, v = .slice a xs.length cap ∧ xs.length ≤ maxLen := by
  rcases h with ⟨rfl, rfl⟩ | ⟨g, off, cap, hv, hB, hg, hl, hc, _⟩
  · exact ⟨none, 0, rfl, by simp⟩
  · exact ⟨_, cap, hv, by omega⟩
theorem IntRow.mono {B B' : Nat} {w : World} {v : Value} {xs : List Int} (h : IntRow B w v xs) (hB : B' ≤ B) : IntRow B' w v xs := by
  rcases h with h | ⟨g, off, cap, hv, hg, r⟩
  · exact .inl h
  · exact .inr ⟨g, off, cap, hv, by omega, r⟩
theorem IntRow.lt {B : Nat} {w : World} {v : Value} {xs : List Int} (h : IntRow B w v xs) : ∀ k, v.ownBlock = some k → B ≤ k ∧ k < w.heap.size := by
  intro k hk
  rcases h with ⟨rfl, _⟩ | ⟨g, off, cap, rfl, hB, hg, _⟩
  · simp [Value.ownBlock] at hk
  · simp [Value.ownBlock] at hk
    omega
theorem IntRow.kept {B : Nat} {w w' : World} {v : Value} {xs : List Int} (h : IntRow B w v xs) (hsz : w.heap.size ≤ w'.heap.size) (hb : ∀ g, v.ownBlock = some g → w'.heap[g]? = w.heap[g]?) : IntRow B w' v xs := by
  rcases h with h | ⟨g, off, cap, rfl, hB, hg, hl, hc, hsp, hx⟩
  · exact .inl h
  · have hbk := hb g rfl
    refine .inr ⟨g, off, cap, rfl, hB, by omega, hl, hc, fun i hi => ?_, fun i hi => ?_⟩
    · rw [World.cell?_of_block (a := ⟨g, off + i, none⟩) hbk, World.frozen?_of_block (a := ⟨g, off + i, none⟩) hbk]; exact hsp i hi
    · rw [World.cell?_of_block (a := ⟨g, off + i, none⟩) hbk]; exact hx i hi
theorem IntRow.below {B : Nat} {w w' : World} {v : Value} {xs : List Int} (h : IntRow B w v xs) (hb : Below w.heap.size w w') : IntRow B w' v xs :=
  h.kept hb.size fun g hg => hb.block g (h.lt g hg).2
theorem IntRow.cell {B : Nat} {w : World} {g off n cap : Nat} {xs : List Int} (h : IntRow B w (.slice (some ⟨g, off, none⟩) n cap) xs) {i : Nat} (hi : i < xs.length) : w.cell? ⟨g, off + i, none⟩ = some (.int .i64 xs[i]) ∧ w.frozen? ⟨g, off + i, none⟩ = false := by
  rcases h with ⟨h, _⟩ | ⟨g', off', cap', hv, _, _, hl, _, hsp, hx⟩
  · cases h
  · cases hv
    exact ⟨hx i hi, (hsp i (by omega)).2⟩
theorem IntRow.set {B : Nat} {w : World} {g off n cap : Nat} {xs : List Int} (h : IntRow B w (.slice (some ⟨g, off, none⟩) n cap) xs) (i : Nat) (hi : i < xs.length) (x : Int) :
    IntRow B (w.setCell ⟨g, off + i, none⟩ (.int .i64 x)) (.slice (some ⟨g, off, none⟩) n cap) (xs.set i x) := by
  have hc := (h.cell hi).1
  rcases h with ⟨h, _⟩ | ⟨g', off', cap', hv, hB, hg, hl, hm, hsp, hx⟩
  · cases h
  · cases hv
    refine .inr ⟨g, off, cap, by simp, hB, by simp [World.setCell]; exact hg, by simpa using hl, hm, fun j hj => ?_, fun j hj => ?_⟩
    · rw [World.frozen?_setCell]
      refine ⟨?_, (hsp j hj).2⟩
      by_cases e : j = i
      · subst e; rw [World.cell?_setCell_same _ _ _ hc]; rfl
      · rw [World.cell?_setCell_other _ _ _ _ (fun q => by have := congrArg Addr.off q; simp at this; omega)]; exact (hsp j hj).1
    · rw [List.length_set] at hj
      by_cases e : j = i
      · subst e; rw [World.cell?_setCell_same _ _ _ hc]; simp
      · rw [World.cell?_setCell_other _ _ _ _ (fun q => by have := congrArg Addr.off q; simp at this; omega), hx j hj]
        simp [Ne.symm e]
theorem intCells_length (M : List Int) : (M.map fun x => Value.int .i64 x).length = M.length := by simp
theorem run_append_ints {P : Program} {t ty e : TypeId} {i : TypeInfo} {B : Nat} (ht : P.underlying t = some (.slice e)) (hi : P.info? e = some i) (hz : i.zero = some (.int .i64 0)) (hs : i.size = 1) (hby : i.bytes = 8)
    {w : World} {v : Value} {L : List Int} (hown : IntRow B w v L) (ad : Addr) (m c : Nat) (M : List Int) (hm : M.length = m) (hnews : ∀ j, (h : j < M.length) → w.cell? (ad.add j) = some (.int .i64 M[j]))
    (hpos : 0 < m ∨ ∃ a n k, v = .slice (some a) n k) (hL : L.length + m ≤ 1000000) (hB : B ≤ w.heap.size) :
    ∃ g off cap w', (Builtin.append_ #[t, t] ty #[v, .slice (some ad) m c]).run P w = .ok (.slice (some ⟨g, off, none⟩) (L.length + m) cap) w' ∧
      IntRow B w' (.slice (some ⟨g, off, none⟩) (L.length + m) cap) (L ++ M) ∧ w.grownBy w' v.ownBlock ∧ (v.ownBlock = some g ∨ g = w.heap.size) := by
  have hnews' : ∀ j u, (M.map fun x => Value.int .i64 x)[j]? = some u → w.cell? (ad.add j) = some u := by
    intro j u hu
    rw [List.getElem?_map] at hu
    by_cases hj : j < M.length
    · rw [List.getElem?_eq_getElem hj] at hu
      rw [hnews j hj]
      simpa using hu
    · rw [List.getElem?_eq_none (by omega)] at hu; simp at hu
  have h1 : ∀ u ∈ (M.map fun x => Value.int .i64 x), u.oneCell' = true := by
    intro u hu
    simp at hu
    obtain ⟨x, _, rfl⟩ := hu
    rfl
  have hgrown : ∀ (xs : List Int) (k : Nat) (W : World) (q : Nat), W.heap.size = w.heap.size → xs.length = q → q ≤ k → k ≤ maxLen →
      IntRow B (W.alloc (.cells ((xs.map fun x => Value.int .i64 x).toArray ++ Builtin.zeroCells (Value.int .i64 0).cells (k - q)) e)) (.slice (some ⟨w.heap.size, 0, none⟩) q k) xs := by
    intro xs k W q hW hq hqk hk
    subst hq
    have hsz0 : (Builtin.zeroCells (Value.int .i64 0).cells (k - xs.length)).size = k - xs.length := by
      simp [Builtin.zeroCells, Value.cells]
    have hblk : (W.alloc (.cells ((xs.map fun x => Value.int .i64 x).toArray ++ Builtin.zeroCells (Value.int .i64 0).cells (k - xs.length)) e)).heap[w.heap.size]? = some (.cells ((xs.map fun x => Value.int .i64 x).toArray ++ Builtin.zeroCells (Value.int .i64 0).cells (k - xs.length)) e) := by
      rw [← hW]; exact Go.Deep.blk_alloc_new _ _
    refine .inr ⟨w.heap.size, 0, k, rfl, hB, by simp [hW], hqk, hk, fun j hj => ?_, fun j hj => ?_⟩
    · refine ⟨?_, ?_⟩
      · rw [Nat.zero_add, cell_of_row _ _ _ _ _ _ hblk]
        rw [Array.getElem?_eq_getElem (by simp [hsz0]; omega)]; rfl
      · simp [World.frozen?, hblk]
    · rw [Nat.zero_add, cell_of_row _ _ _ _ _ _ hblk]
      simp [Array.getElem?_append, hj]
  rcases hown with ⟨rfl, rfl⟩ | ⟨g, off, cap, rfl, hBg, hg, hl, hmx, hsp, hx⟩
  · have hm0 : 0 < m := by
      rcases hpos with h | ⟨_, _, _, h⟩
      · exact h
      · cases h
    have hr := run_append_nil (P := P) w t ty e i _ ht hi hz ad m c _ (by simp [hs, hm]) hnews' hm0 (by simp at hL; omega) (by simp at hL; rw [hby]; omega)
    refine ⟨w.heap.size, 0, grownCap w m 0 e, _, by simpa using hr, ?_, ?_, .inr rfl⟩
    · have := hgrown M (grownCap w m 0 e) w.drew m rfl hm (grownCap_ge _ _ _ _) (grownCap_le_maxLen _ _ _ _ (by simp at hL; unfold maxLen; omega))
      simpa using this
    · exact ⟨rfl, rfl, rfl, Nat.le_of_lt (by rw [World.size_alloc]; exact Nat.lt_succ_self _), fun k hk _ => Below.heap_alloc w.drew _ k hk⟩
  · by_cases hroom : L.length + m ≤ cap
    · have hc : ∀ j, j < (M.map fun x => Value.int .i64 x).length → (w.cell? ⟨g, off + L.length * i.size + j, none⟩).isSome = true := fun j hj => by
        rw [intCells_length] at hj
        have := (hsp (L.length + j) (by omega)).1
        rwa [hs, Nat.mul_one, Nat.add_assoc]
      have hf : ∀ j, j < (M.map fun x => Value.int .i64 x).length → w.frozen? ⟨g, off + L.length * i.size + j, none⟩ = false := fun j hj => by
        rw [intCells_length] at hj
        have := (hsp (L.length + j) (by omega)).2
        rwa [hs, Nat.mul_one, Nat.add_assoc]
      have hr := run_append_room_cells (P := P) w t ty e i ht hi g off L.length cap ad m c _ (by simp [hs, hm]) hnews' h1 hroom hc hf
      rw [hs, Nat.mul_one] at hr hc
      have hszc : (w.setCells g (off + L.length) (M.map fun x => Value.int .i64 x)).heap.size = w.heap.size := by
        have key : ∀ (vs : List Value) (o : Nat) (W : World), (W.setCells g o vs).heap.size = W.heap.size := by
          intro vs
          induction vs with
          | nil => intro o W; rfl
          | cons v r ih => intro o W; rw [World.setCells, ih]; simp [World.setCell]
        exact key _ _ _
      have hoth : ∀ k, k ≠ g → (w.setCells g (off + L.length) (M.map fun x => Value.int .i64 x)).heap[k]? = w.heap[k]? := by
        have key : ∀ (vs : List Value) (o : Nat) (W : World) (k : Nat), k ≠ g → (W.setCells g o vs).heap[k]? = W.heap[k]? := by
          intro vs
          induction vs with
          | nil => intro o W k _; rfl
          | cons v r ih => intro o W k hk; rw [World.setCells, ih _ _ _ hk]; exact Below.heap_setCell _ _ _ _ hk
        exact key _ _ _
      have hwt : (w.setCells g (off + L.length) (M.map fun x => Value.int .i64 x)).os = w.os ∧ (w.setCells g (off + L.length) (M.map fun x => Value.int .i64 x)).tape = w.tape ∧ (w.setCells g (off + L.length) (M.map fun x => Value.int .i64 x)).output = w.output := by
        have key : ∀ (vs : List Value) (o : Nat) (W : World), (W.setCells g o vs).os = W.os ∧ (W.setCells g o vs).tape = W.tape ∧ (W.setCells g o vs).output = W.output := by
          intro vs
          induction vs with
          | nil => intro o W; exact ⟨rfl, rfl, rfl⟩
          | cons v r ih => intro o W; rw [World.setCells]; exact ih _ _
        exact key _ _ _
      refine ⟨g, off, cap, _, hr, .inr ⟨g, off, cap, by simp [hm], hBg, by rw [hszc]; exact hg, by simp [hm]; omega, hmx, fun j hj => ?_, fun j hj => ?_⟩, ⟨hwt.1, hwt.2.1, hwt.2.2, by rw [hszc]; exact Nat.le_refl _, fun k _ hk => hoth k (fun e => hk (by rw [e]; rfl))⟩, .inl rfl⟩
      · rw [World.frozen?_setCells]
        refine ⟨?_, (hsp j hj).2⟩
        by_cases hin : L.length ≤ j ∧ j < L.length + M.length
        · have := World.cell?_setCells_in g (M.map fun x => Value.int .i64 x) (off + L.length) w hc (j - L.length) (by simp; omega)
          rw [show off + L.length + (j - L.length) = off + j by omega] at this
          rw [this]; rfl
        · rw [World.cell?_setCells_out g _ _ _ _ (fun _ _ => by simp; omega)]
          exact (hsp j hj).1
      · rw [List.length_append] at hj
        by_cases hin : j < L.length
        · rw [World.cell?_setCells_out g _ _ _ _ (fun _ _ => by simp; omega), hx j hin]
          simp [hin]
        · have := World.cell?_setCells_in g (M.map fun x => Value.int .i64 x) (off + L.length) w hc (j - L.length) (by simp; omega)
          rw [show off + L.length + (j - L.length) = off + j by omega] at this
          rw [this]
          simp [List.getElem_append, hin]
    · have hr := run_append_grow (P := P) w t ty e i _ ht hi hz ⟨g, off, none⟩ L.length cap (L.map fun x => Value.int .i64 x) (by simp [hs]) (fun j u hu => by
          rw [List.getElem?_map] at hu
          by_cases hj : j < L.length
          · rw [List.getElem?_eq_getElem hj] at hu
            rw [Addr.add_lit, hx j hj]
            simpa using hu
          · rw [List.getElem?_eq_none (by omega)] at hu; simp at hu)
        ad m c _ (by simp [hs, hm]) hnews' (by omega) (by omega) (growslice_fits (by omega) (by rw [hby]; omega))
      refine ⟨w.heap.size, 0, grownCap w (L.length + m) cap e, _, hr, ?_, ?_, .inr rfl⟩
      · have := hgrown (L ++ M) (grownCap w (L.length + m) cap e) w.drew (L.length + m) rfl (by simp [hm]) (grownCap_ge _ _ _ _) (grownCap_le_maxLen _ _ _ _ (by unfold maxLen; omega))
        simpa using this
      · exact ⟨rfl, rfl, rfl, Nat.le_of_lt (by rw [World.size_alloc]; exact Nat.lt_succ_self _), fun k hk _ => Below.heap_alloc w.drew _ k hk⟩
theorem append_ints {P : Program} {t e : TypeId} {i : TypeInfo} {B : Nat} (ht : P.underlying t = some (.slice e)) (hi : P.info? e = some i) (hz : i.zero = some (.int .i64 0)) (hsz : i.size = 1) (hby : i.bytes = 8)
    {ops : Array Oper} {rest : List Oper} {o : Oper} {act : Act} {Q : Exit → Act → World → Prop} (w : World) (hgd : o.guard = none) (s x : Operand)
    (ho : o.op = .call { callee := .builtin .append, args := #[s, x], argTypes := #[t, t] }) (v : Value) (L : List Int) (hs : act.eval s = v) (hown : IntRow B w v L) (ad : Addr) (m c : Nat) (M : List Int) (hm : M.length = m)
    (hx : act.eval x = .slice (some ad) m c) (hnews : ∀ j, (h : j < M.length) → w.cell? (ad.add j) = some (.int .i64 M[j])) (hpos : 0 < m ∨ ∃ a n k, v = .slice (some a) n k) (hL : L.length + m ≤ 1000000) (hB : B ≤ w.heap.size)
    (h : ∀ g off cap w', IntRow B w' (.slice (some ⟨g, off, none⟩) (L.length + m) cap) (L ++ M) → w.grownBy w' v.ownBlock → (v.ownBlock = some g ∨ g = w.heap.size) →
      wpList P ops Q rest (act.put o.dst (.slice (some ⟨g, off, none⟩) (L.length + m) cap)) w') :
    wpList P ops Q (o :: rest) act w := by
  obtain ⟨g, off, cap, w', hr, h2, h3, h4⟩ := run_append_ints (P := P) (ty := o.type) ht hi hz hsz hby hown ad m c M hm hnews hpos hL hB
  refine wpList_plain hgd fun K hK => ?_
  unfold Oper.wp execOp
  simp only [ho, resolve, invoke, builtin, Sem.run_bind, Sem.run_pure, Result.andThen_ok, List.map_toArray, List.map_cons, List.map_nil, hs, hx, hr]
  exact hK _ _ (h g off cap w' h2 h3 h4)
theorem append_int {P : Program} {t e : TypeId} {i : TypeInfo} {B : Nat} (ht : P.underlying t = some (.slice e)) (hi : P.info? e = some i) (hz : i.zero = some (.int .i64 0)) (hsz : i.size = 1) (hby : i.bytes = 8)
    {ops : Array Oper} {rest : List Oper} {o : Oper} {act : Act} {Q : Exit → Act → World → Prop} (w : World) (hgd : o.guard = none) (s x : Operand)
    (ho : o.op = .call { callee := .builtin .append, args := #[s, x], argTypes := #[t, t] }) (v : Value) (L : List Int) (hs : act.eval s = v) (hown : IntRow B w v L) (k : Int) (H c : Nat) (hH : w.heap.size = H)
    (hx : act.eval x = .slice (some ⟨H, 0, none⟩) 1 c) (hL : L.length ≤ 900000) (hB : B ≤ H)
    (h : ∀ g off cap w', IntRow B w' (.slice (some ⟨g, off, none⟩) (L.length + 1) cap) (L ++ [k]) → w.grownBy w' v.ownBlock → (v.ownBlock = some g ∨ H ≤ g) → g < w'.heap.size →
      wpList P ops Q rest (act.put o.dst (.slice (some ⟨g, off, none⟩) (L.length + 1) cap)) w') :
    wpList P ops Q (o :: rest) act (w.alloc (.cells #[.int .i64 k] e)) := by
  subst hH
  refine append_ints ht hi hz hsz hby _ hgd s x ho v L hs (hown.below ((Below.refl _ _).alloc (Nat.le_refl _) _)) ⟨w.heap.size, 0, none⟩ 1 c [k] rfl hx (fun j hj => ?_) (.inl (by omega)) (by omega) (by simp; omega) fun g off cap w' h1 h2 h3 => ?_
  · obtain rfl : j = 0 := by simpa using hj
    simp [Addr.add_lit, go_sem]
  · have hA := World.grownBy_alloc w (.cells #[.int .i64 k] e) v.ownBlock
    refine h g off cap w' h1 ⟨h2.os.trans hA.os, h2.tape.trans hA.tape, h2.output.trans hA.output, Nat.le_trans hA.size h2.size, fun i hi hn => (h2.block i (Nat.lt_of_lt_of_le hi hA.size) hn).trans (hA.block i hi hn)⟩ ?_ (h1.lt g rfl).2
    rcases h3 with h3 | h3
    · exact .inl h3
    · right; rw [h3]; simp
end Go.Proofs.YtmifhlkcceafkaaGreat
