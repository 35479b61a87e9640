/-
  Rows of numbers in memory of one's own: read, written, resliced, more behind them.
-/
import Derived.Test.YtnffknlgaiehdaaGreatDoorCopy2
import Derived.Laws.AppendOwn
import Derived.ArgAppend
import Derived.Deep.AppendLies
import Derived.BigQuiet

namespace Go.Proofs.YtnffknlgaiehdaaGreatDoor
open Go.RowKit
def IntRow (B : Nat) (w : World) (v : Value) (xs : List Int) : Prop :=
  (v = .slice none 0 0 ∧ xs = []) ∨
  ∃ (g off cap : Nat), v = .slice (some ⟨g, off, none⟩) xs.length cap ∧ B ≤ g ∧ g < w.heap.size ∧ xs.length ≤ cap ∧ cap ≤ maxLen ∧
    (∀ i, i < cap → (w.cell? ⟨g, off + i, none⟩).isSome = true ∧ w.frozen? ⟨g, off + i, none⟩ = false) ∧
    ∀ i, (h : i < xs.length) → w.cell? ⟨g, off + i, none⟩ = some (.int .i64 xs[i])
theorem IntRow.nil (B : Nat) (w : World) : IntRow B w (.slice none 0 0) [] := .inl ⟨rfl, rfl⟩
theorem IntRow.form {B : Nat} {w : World} {v : Value} {xs : List Int} (h : IntRow B w v xs) (hx : 0 < xs.length) : ∃ g off cap, v = .slice (some ⟨g, off, none⟩) xs.length cap ∧ B ≤ g ∧ g < w.heap.size := by
  rcases h with ⟨_, rfl⟩ | ⟨g, off, cap, hv, hB, hg, _⟩
  · simp at hx
  · exact ⟨g, off, cap, hv, hB, hg⟩
theorem IntRow.slice {B : Nat} {w : World} {v : Value} {xs : List Int} (h : IntRow B w v xs) : ∃ a cap, v = .slice a xs.length cap ∧ xs.length ≤ maxLen := by
  rcases h with ⟨rfl, rfl⟩ | ⟨g, off, cap, hv, hB, hg, hl, hc, _⟩
  · exact ⟨none, 0, rfl, by simp⟩
  · exact ⟨_, cap, hv, by omega⟩
theorem IntRow.mono {B B' : Nat} {w : World} {v : Value} {xs : List Int} (h : IntRow B w v xs) (hB : B' ≤ B) : IntRow B' w v xs := by
  rcases h with h | ⟨g, off, cap, hv, hg, r⟩
  · exact .inl h
  · exact .inr ⟨g, off, cap, hv, by omega, r⟩
theorem IntRow.lt {B : Nat} {w : World} {v : Value} {xs : List Int} (h : IntRow B w v xs) : ∀ k, v.ownBlock = some k → B ≤ k ∧ k < w.heap.size := by
  intro k hk
  rcases h with ⟨rfl, _⟩ | ⟨g, off, cap, rfl, hB, hg, _⟩
  · simp [Value.ownBlock] at hk
  · simp [Value.ownBlock] at hk
    omega
theorem IntRow.kept {B : Nat} {w w' : World} {v : Value} {xs : List Int} (h : IntRow B w v xs) (hsz : w.heap.size ≤ w'.heap.size) (hb : ∀ g, v.ownBlock = some g → w'.heap[g]? = w.heap[g]?) : IntRow B w' v xs := by
  rcases h with h | ⟨g, off, cap, rfl, hB, hg, hl, hc, hsp, hx⟩
  · exact .inl h
  · have hbk := hb g rfl
    refine .inr ⟨g, off, cap, rfl, hB, by omega, hl, hc, fun i hi => ?_, fun i hi => ?_⟩
    · rw [World.cell?_of_block (a := ⟨g, off + i, none⟩) hbk, World.frozen?_of_block (a := ⟨g, off + i, none⟩) hbk]; exact hsp i hi
    · rw [World.cell?_of_block (a := ⟨g, off + i, none⟩) hbk]; exact hx i hi
theorem IntRow.below {B : Nat} {w w' : World} {v : Value} {xs : List Int} (h : IntRow B w v xs) (hb : Below w.heap.size w w') : IntRow B w' v xs :=
  h.kept hb.size fun g hg => hb.block g (h.lt g hg).2
theorem IntRow.drewN {B : Nat} {w : World} {v : Value} {xs : List Int} (h : IntRow B w v xs) (n : Nat) : IntRow B (w.drewN n) v xs := h
theorem IntRow.set_other {B : Nat} {w : World} {v : Value} {xs : List Int} (h : IntRow B w v xs) {p : Addr} (u : Value) (hp : v.ownBlock ≠ some p.block) : IntRow B (w.setCell p u) v xs :=
  h.kept (by simp [World.setCell]) fun g hg => Below.heap_setCell _ _ _ _ (fun e => hp (by rw [hg, e]))
theorem IntRow.cell {B : Nat} {w : World} {g off n cap : Nat} {xs : List Int} (h : IntRow B w (.slice (some ⟨g, off, none⟩) n cap) xs) {i : Nat} (hi : i < xs.length) : w.cell? ⟨g, off + i, none⟩ = some (.int .i64 xs[i]) ∧ w.frozen? ⟨g, off + i, none⟩ = false := by
  rcases h with ⟨h, _⟩ | ⟨g', off', cap', hv, _, _, hl, _, hsp, hx⟩
  · cases h
  · cases hv
    exact ⟨hx i hi, (hsp i (by omega)).2⟩
theorem IntRow.set {B : Nat} {w : World} {g off n cap : Nat} {xs : List Int} (h : IntRow B w (.slice (some ⟨g, off, none⟩) n cap) xs) (i : Nat) (hi : i < xs.length) (x : Int) :
    IntRow B (w.setCell ⟨g, off + i, none⟩ (.int .i64 x)) (.slice (some ⟨g, off, none⟩) n cap) (xs.set i x) := by
  have hc := (h.cell hi).1
  rcases h with ⟨h, _⟩ | ⟨g', off', cap', hv, hB, hg, hl, hm, hsp, hx⟩
  · cases h
  · cases hv
    refine .inr ⟨g, off, cap, by simp, hB, by simp [World.setCell]; exact hg, by simpa using hl, hm, fun j hj => ?_, fun j hj => ?_⟩
    · rw [World.frozen?_setCell]
      refine ⟨?_, (hsp j hj).2⟩
      by_cases e : j = i
      · subst e; rw [World.cell?_setCell_same _ _ _ hc]; rfl
      · rw [World.cell?_setCell_other _ _ _ _ (fun q => by have := congrArg Addr.off q; simp at this; omega)]; exact (hsp j hj).1
    · rw [List.length_set] at hj
      by_cases e : j = i
      · subst e; rw [World.cell?_setCell_same _ _ _ hc]; simp
      · rw [World.cell?_setCell_other _ _ _ _ (fun q => by have := congrArg Addr.off q; simp at this; omega), hx j hj]
        simp [Ne.symm e]
theorem IntRow.tail {B : Nat} {w : World} {g off n cap : Nat} {x : Int} {xs : List Int} (h : IntRow B w (.slice (some ⟨g, off, none⟩) n cap) (x :: xs)) :
    IntRow B w (.slice (some ⟨g, off + 1, none⟩) xs.length (cap - 1)) xs := by
  rcases h with ⟨h, _⟩ | ⟨g', off', cap', hv, hB, hg, hl, hm, hsp, hx⟩
  · cases h
  · cases hv
    simp at hl
    refine .inr ⟨g, off + 1, cap - 1, rfl, hB, hg, by omega, by omega, fun j hj => ?_, fun j hj => ?_⟩
    · have := hsp (j + 1) (by omega)
      rwa [show off + (j + 1) = off + 1 + j by omega] at this
    · have := hx (j + 1) (by simp; omega)
      rw [show off + (j + 1) = off + 1 + j by omega] at this
      simpa using this
theorem intCells_length (M : List Int) : (M.map fun x => Value.int .i64 x).length = M.length := by simp
theorem run_append_ints {P : Program} {t ty e : TypeId} {i : TypeInfo} {B : Nat} (ht : P.underlying t = some (.slice e)) (hi : P.info? e = some i) (hz : i.zero = some (.int .i64 0)) (hs : i.size = 1) (hby : i.bytes = 8)
    {w : World} {v : Value} {L : List Int} (hown : IntRow B w v L) (ad : Addr) (m c : Nat) (M : List Int) (hm : M.length = m) (hnews : ∀ j, (h : j < M.length) → w.cell? (ad.add j) = some (.int .i64 M[j]))
    (hpos : 0 < m ∨ ∃ a n k, v = .slice (some a) n k) (hL : L.length + m ≤ 1000000) (hB : B ≤ w.heap.size) :
    ∃ g off cap w', (Builtin.append_ #[t, t] ty #[v, .slice (some ad) m c]).run P w = .ok (.slice (some ⟨g, off, none⟩) (L.length + m) cap) w' ∧
      IntRow B w' (.slice (some ⟨g, off, none⟩) (L.length + m) cap) (L ++ M) ∧ w.grownBy w' v.ownBlock ∧ (v.ownBlock = some g ∨ g = w.heap.size) := by
  have hnews' : ∀ j u, (M.map fun x => Value.int .i64 x)[j]? = some u → w.cell? (ad.add j) = some u := by
    intro j u hu
    rw [List.getElem?_map] at hu
    by_cases hj : j < M.length
    · rw [List.getElem?_eq_getElem hj] at hu
      rw [hnews j hj]
      simpa using hu
    · rw [List.getElem?_eq_none (by omega)] at hu; simp at hu
  have h1 : ∀ u ∈ (M.map fun x => Value.int .i64 x), u.oneCell' = true := by
    intro u hu
    simp at hu
    obtain ⟨x, _, rfl⟩ := hu
    rfl
  have hgrown : ∀ (xs : List Int) (k : Nat) (W : World) (q : Nat), W.heap.size = w.heap.size → xs.length = q → q ≤ k → k ≤ maxLen →
      IntRow B (W.alloc (.cells ((xs.map fun x => Value.int .i64 x).toArray ++ Builtin.zeroCells (Value.int .i64 0).cells (k - q)) e)) (.slice (some ⟨w.heap.size, 0, none⟩) q k) xs := by
    intro xs k W q hW hq hqk hk
    subst hq
    have hsz0 : (Builtin.zeroCells (Value.int .i64 0).cells (k - xs.length)).size = k - xs.length := by
      simp [Builtin.zeroCells, Value.cells]
    have hblk : (W.alloc (.cells ((xs.map fun x => Value.int .i64 x).toArray ++ Builtin.zeroCells (Value.int .i64 0).cells (k - xs.length)) e)).heap[w.heap.size]? = some (.cells ((xs.map fun x => Value.int .i64 x).toArray ++ Builtin.zeroCells (Value.int .i64 0).cells (k - xs.length)) e) := by
      rw [← hW]; exact Go.Deep.blk_alloc_new _ _
    refine .inr ⟨w.heap.size, 0, k, rfl, hB, by simp [hW], hqk, hk, fun j hj => ?_, fun j hj => ?_⟩
    · refine ⟨?_, ?_⟩
      · rw [Nat.zero_add, cell_of_row _ _ _ _ _ _ hblk]
        rw [Array.getElem?_eq_getElem (by simp [hsz0]; omega)]; rfl
      · simp [World.frozen?, hblk]
    · rw [Nat.zero_add, cell_of_row _ _ _ _ _ _ hblk]
      simp [Array.getElem?_append, hj]
  rcases hown with ⟨rfl, rfl⟩ | ⟨g, off, cap, rfl, hBg, hg, hl, hmx, hsp, hx⟩
  · have hm0 : 0 < m := by
      rcases hpos with h | ⟨_, _, _, h⟩
      · exact h
      · cases h
    have hr := run_append_nil (P := P) w t ty e i _ ht hi hz ad m c _ (by simp [hs, hm]) hnews' hm0 (by simp at hL; omega) (by simp at hL; rw [hby]; omega)
    refine ⟨w.heap.size, 0, grownCap w m 0 e, _, by simpa using hr, ?_, ?_, .inr rfl⟩
    · have := hgrown M (grownCap w m 0 e) w.drew m rfl hm (grownCap_ge _ _ _ _) (grownCap_le_maxLen _ _ _ _ (by simp at hL; unfold maxLen; omega))
      simpa using this
    · exact ⟨rfl, rfl, rfl, Nat.le_of_lt (by rw [World.size_alloc]; exact Nat.lt_succ_self _), fun k hk _ => Below.heap_alloc w.drew _ k hk⟩
  · by_cases hroom : L.length + m ≤ cap
    · have hc : ∀ j, j < (M.map fun x => Value.int .i64 x).length → (w.cell? ⟨g, off + L.length * i.size + j, none⟩).isSome = true := fun j hj => by
        rw [intCells_length] at hj
        have := (hsp (L.length + j) (by omega)).1
        rwa [hs, Nat.mul_one, Nat.add_assoc]
      have hf : ∀ j, j < (M.map fun x => Value.int .i64 x).length → w.frozen? ⟨g, off + L.length * i.size + j, none⟩ = false := fun j hj => by
        rw [intCells_length] at hj
        have := (hsp (L.length + j) (by omega)).2
        rwa [hs, Nat.mul_one, Nat.add_assoc]
      have hr := run_append_room_cells (P := P) w t ty e i ht hi g off L.length cap ad m c _ (by simp [hs, hm]) hnews' h1 hroom hc hf
      rw [hs, Nat.mul_one] at hr hc
      have hszc : (w.setCells g (off + L.length) (M.map fun x => Value.int .i64 x)).heap.size = w.heap.size := by
        have key : ∀ (vs : List Value) (o : Nat) (W : World), (W.setCells g o vs).heap.size = W.heap.size := by
          intro vs
          induction vs with
          | nil => intro o W; rfl
          | cons v r ih => intro o W; rw [World.setCells, ih]; simp [World.setCell]
        exact key _ _ _
      have hoth : ∀ k, k ≠ g → (w.setCells g (off + L.length) (M.map fun x => Value.int .i64 x)).heap[k]? = w.heap[k]? := by
        have key : ∀ (vs : List Value) (o : Nat) (W : World) (k : Nat), k ≠ g → (W.setCells g o vs).heap[k]? = W.heap[k]? := by
          intro vs
          induction vs with
          | nil => intro o W k _; rfl
          | cons v r ih => intro o W k hk; rw [World.setCells, ih _ _ _ hk]; exact Below.heap_setCell _ _ _ _ hk
        exact key _ _ _
      have hwt : (w.setCells g (off + L.length) (M.map fun x => Value.int .i64 x)).os = w.os ∧ (w.setCells g (off + L.length) (M.map fun x => Value.int .i64 x)).tape = w.tape ∧ (w.setCells g (off + L.length) (M.map fun x => Value.int .i64 x)).output = w.output := by
        have key : ∀ (vs : List Value) (o : Nat) (W : World), (W.setCells g o vs).os = W.os ∧ (W.setCells g o vs).tape = W.tape ∧ (W.setCells g o vs).output = W.output := by
          intro vs
          induction vs with
          | nil => intro o W; exact ⟨rfl, rfl, rfl⟩
          | cons v r ih => intro o W; rw [World.setCells]; exact ih _ _
        exact key _ _ _
      refine ⟨g, off, cap, _, hr, .inr ⟨g, off, cap, by simp [hm], hBg, by rw [hszc]; exact hg, by simp [hm]; omega, hmx, fun j hj => ?_, fun j hj => ?_⟩, ⟨hwt.1, hwt.2.1, hwt.2.2, by rw [hszc]; exact Nat.le_refl _, fun k _ hk => hoth k (fun e => hk (by rw [e]; rfl))⟩, .inl rfl⟩
      · rw [World.frozen?_setCells]
        refine ⟨?_, (hsp j hj).2⟩
        by_cases hin : L.length ≤ j ∧ j < L.length + M.length
        · have := World.cell?_setCells_in g (M.map fun x => Value.int .i64 x) (off + L.length) w hc (j - L.length) (by simp; omega)
          rw [show off + L.length + (j - L.length) = off + j by omega] at this
          rw [this]; rfl
        · rw [World.cell?_setCells_out g _ _ _ _ (fun _ _ => by simp; omega)]
          exact (hsp j hj).1
      · rw [List.length_append] at hj
        by_cases hin : j < L.length
        · rw [World.cell?_setCells_out g _ _ _ _ (fun _ _ => by simp; omega), hx j hin]
          simp [hin]
        · have := World.cell?_setCells_in g (M.map fun x => Value.int .i64 x) (off + L.length) w hc (j - L.length) (by simp; omega)
          rw [show off + L.length + (j - L.length) = off + j by omega] at this
          rw [this]
          simp [List.getElem_append, hin]
    · have hr := run_append_grow (P := P) w t ty e i _ ht hi hz ⟨g, off, none⟩ L.length cap (L.map fun x => Value.int .i64 x) (by simp [hs]) (fun j u hu => by
          rw [List.getElem?_map] at hu
          by_cases hj : j < L.length
          · rw [List.getElem?_eq_getElem hj] at hu
            rw [Addr.add_lit, hx j hj]
            simpa using hu
          · rw [List.getElem?_eq_none (by omega)] at hu; simp at hu)
        ad m c _ (by simp [hs, hm]) hnews' (by omega) (by omega) (growslice_fits (by omega) (by rw [hby]; omega))
      refine ⟨w.heap.size, 0, grownCap w (L.length + m) cap e, _, hr, ?_, ?_, .inr rfl⟩
      · have := hgrown (L ++ M) (grownCap w (L.length + m) cap e) w.drew (L.length + m) rfl (by simp [hm]) (grownCap_ge _ _ _ _) (grownCap_le_maxLen _ _ _ _ (by unfold maxLen; omega))
        simpa using this
      · exact ⟨rfl, rfl, rfl, Nat.le_of_lt (by rw [World.size_alloc]; exact Nat.lt_succ_self _), fun k hk _ => Below.heap_alloc w.drew _ k hk⟩
theorem append_ints {P : Program} {t e : TypeId} {i : TypeInfo} {B : Nat} (ht : P.underlying t = some (.slice e)) (hi : P.info? e = some i) (hz : i.zero = some (.int .i64 0)) (hsz : i.size = 1) (hby : i.bytes = 8)
    {ops : Array Oper} {rest : List Oper} {o : Oper} {act : Act} {Q : Exit → Act → World → Prop} (w : World) (hgd : o.guard = none) (s x : Operand)
    (ho : o.op = .call { callee := .builtin .append, args := #[s, x], argTypes := #[t, t] }) (v : Value) (L : List Int) (hs : act.eval s = v) (hown : IntRow B w v L) (ad : Addr) (m c : Nat) (M : List Int) (hm : M.length = m)
    (hx : act.eval x = .slice (some ad) m c) (hnews : ∀ j, (h : j < M.length) → w.cell? (ad.add j) = some (.int .i64 M[j])) (hpos : 0 < m ∨ ∃ a n k, v = .slice (some a) n k) (hL : L.length + m ≤ 1000000) (hB : B ≤ w.heap.size)
    (h : ∀ g off cap w', IntRow B w' (.slice (some ⟨g, off, none⟩) (L.length + m) cap) (L ++ M) → w.grownBy w' v.ownBlock → (v.ownBlock = some g ∨ g = w.heap.size) →
      wpList P ops Q rest (act.put o.dst (.slice (some ⟨g, off, none⟩) (L.length + m) cap)) w') :
    wpList P ops Q (o :: rest) act w := by
  obtain ⟨g, off, cap, w', hr, h2, h3, h4⟩ := run_append_ints (P := P) (ty := o.type) ht hi hz hsz hby hown ad m c M hm hnews hpos hL hB
  refine wpList_plain hgd fun K hK => ?_
  unfold Oper.wp execOp
  simp only [ho, resolve, invoke, builtin, Sem.run_bind, Sem.run_pure, Result.andThen_ok, List.map_toArray, List.map_cons, List.map_nil, hs, hx, hr]
  exact hK _ _ (h g off cap w' h2 h3 h4)
theorem append_int {P : Program} {t e : TypeId} {i : TypeInfo} {B : Nat} (ht : P.underlying t = some (.slice e)) (hi : P.info? e = some i) (hz : i.zero = some (.int .i64 0)) (hsz : i.size = 1) (hby : i.bytes = 8)
    {ops : Array Oper} {rest : List Oper} {o : Oper} {act : Act} {Q : Exit → Act → World → Prop} (w : World) (hgd : o.guard = none) (s x : Operand)
    (ho : o.op = .call { callee := .builtin .append, args := #[s, x], argTypes := #[t, t] }) (v : Value) (L : List Int) (hs : act.eval s = v) (hown : IntRow B w v L) (k : Int) (H c : Nat) (hH : w.heap.size = H)
    (hx : act.eval x = .slice (some ⟨H, 0, none⟩) 1 c) (hL : L.length ≤ 900000) (hB : B ≤ H)
    (h : ∀ g off cap w', IntRow B w' (.slice (some ⟨g, off, none⟩) (L.length + 1) cap) (L ++ [k]) → w.grownBy w' v.ownBlock → (v.ownBlock = some g ∨ H ≤ g) → g < w'.heap.size →
      wpList P ops Q rest (act.put o.dst (.slice (some ⟨g, off, none⟩) (L.length + 1) cap)) w') :
    wpList P ops Q (o :: rest) act (w.alloc (.cells #[.int .i64 k] e)) := by
  subst hH
  refine append_ints ht hi hz hsz hby _ hgd s x ho v L hs (hown.below ((Below.refl _ _).alloc (Nat.le_refl _) _)) ⟨w.heap.size, 0, none⟩ 1 c [k] rfl hx (fun j hj => ?_) (.inl (by omega)) (by omega) (by simp; omega) fun g off cap w' h1 h2 h3 => ?_
  · obtain rfl : j = 0 := by simpa using hj
    simp [Addr.add_lit, go_sem]
  · have hA := World.grownBy_alloc w (.cells #[.int .i64 k] e) v.ownBlock
    refine h g off cap w' h1 ⟨h2.os.trans hA.os, h2.tape.trans hA.tape, h2.output.trans hA.output, Nat.le_trans hA.size h2.size, fun i hi hn => (h2.block i (Nat.lt_of_lt_of_le hi hA.size) hn).trans (hA.block i hi hn)⟩ ?_ (h1.lt g rfl).2
    rcases h3 with h3 | h3
    · exact .inl h3
    · right; rw [h3]; simp
end Go.Proofs.YtnffknlgaiehdaaGreatDoor

/-
  markProg of the exact laws: it writes into the blocks of the program that it is handed, and nowhere else.
-/
namespace Go.Proofs.YtnffknlgaiehdaaGreatDoor
open Go.RowKit
def IP (w w' : World) : Prop := ∀ p x, w.cell? p = some (.int .i64 x) → ∃ y, w'.cell? p = some (.int .i64 y)
theorem IP.refl (w : World) : IP w w := fun _ x h => ⟨x, h⟩
theorem IP.trans {a b c : World} (h : IP a b) (k : IP b c) : IP a c := fun p x hx => by obtain ⟨y, hy⟩ := h p x hx; exact k p y hy
theorem IP.set {a b : World} (h : IP a b) (q : Addr) (z : Int) : IP a (b.setCell q (.int .i64 z)) := fun p x hx => by
  obtain ⟨y, hy⟩ := h p x hx
  by_cases e : q = p
  · subst e; exact ⟨z, World.cell?_setCell_same _ _ _ hy⟩
  · exact ⟨y, by rw [World.cell?_setCell_other _ _ _ _ e]; exact hy⟩
def FS (w w' : World) : Prop := ∀ p, w'.frozen? p = w.frozen? p
structure Mid (B C : Nat) (w w' : World) : Prop where
  os : w'.os = w.os
  tape : w'.tape = w.tape
  output : w'.output = w.output
  size : w.heap.size ≤ w'.heap.size
  block : ∀ k, k < w.heap.size → k < B ∨ C ≤ k → w'.heap[k]? = w.heap[k]?
theorem Mid.refl (B C : Nat) (w : World) : Mid B C w w := ⟨rfl, rfl, rfl, Nat.le_refl _, fun _ _ _ => rfl⟩
theorem Mid.grown {B C : Nat} {w w1 w2 : World} (h : Mid B C w w1) {g : Nat} (hg : w1.grownBy w2 (some g)) (h1 : B ≤ g) (h2 : g < C) : Mid B C w w2 :=
  ⟨hg.os.trans h.os, hg.tape.trans h.tape, hg.output.trans h.output, Nat.le_trans h.size hg.size, fun k hk hc => (hg.block k (Nat.lt_of_lt_of_le hk h.size) (fun e => by cases e; omega)).trans (h.block k hk hc)⟩
theorem Mid.set {B C : Nat} {w w1 : World} (h : Mid B C w w1) (g o : Nat) (v : Value) (h1 : B ≤ g) (h2 : g < C) : Mid B C w (w1.setCell ⟨g, o, none⟩ v) :=
  h.grown (g := g) ⟨rfl, rfl, rfl, by simp [World.setCell], fun k _ hk => Below.heap_setCell _ _ _ _ (fun e => hk (by rw [e]))⟩ h1 h2
def rowOfM (n g : Nat) : Option Nat := if n = 0 then none else some g
theorem Mid.row {B C n : Nat} {w w1 w2 : World} (h : Mid B C w w1) {g : Nat} (hg : w1.grownBy w2 (rowOfM n g)) (h1 : n ≠ 0 → B ≤ g ∧ g < C) : Mid B C w w2 := by
  by_cases e : n = 0
  · rw [show rowOfM n g = none from if_pos e] at hg
    exact ⟨hg.os.trans h.os, hg.tape.trans h.tape, hg.output.trans h.output, Nat.le_trans h.size hg.size, fun k hk hc => (hg.block k (Nat.lt_of_lt_of_le hk h.size) (fun e => by cases e)).trans (h.block k hk hc)⟩
  · rw [show rowOfM n g = some g from if_neg e] at hg
    exact h.grown hg (h1 e).1 (h1 e).2
theorem row_cell {n g : Nat} {w w2 : World} (hg : w.grownBy w2 (rowOfM n g)) {p : Addr} {v : Value} (h : w.cell? p = some v) (hne : p.block ≠ g) : w2.cell? p = some v :=
  hg.cell h (fun e => by
    unfold rowOfM at e
    split at e
    · cases e
    · exact hne (by injection e))
set_option maxRecDepth 100000 in
set_option maxHeartbeats 1000000 in
theorem markOpS_any (g n c : Nat) (k : Int) (w : World) (hn : n ≤ 1048576) (hk0 : 0 ≤ k) (hk1 : k ≤ 1125899906842624) (hc : ∀ q, q < n * 2 → ∃ x, w.cell? ⟨g, q, none⟩ = some (.int .i64 x)) (hf : ∀ q, q < n * 2 → w.frozen? ⟨g, q, none⟩ = false) :
    Calls Tryz.prog 51 #[.slice (some ⟨g, 0, none⟩) n c, .int .i64 k] w fun e w' => e = .returned (.int .i64 (k + 2 * (n : Int))) ∧ w.grownBy w' (rowOfM n g) ∧ IP w w' ∧ FS w w' := by
  go_enter Tryz.func51, Tryz.ntmps51
  go_wp2
  go_loopg [1, 5] n (fun gg kv i wr => ∃ j : Nat, j ≤ n ∧ gg = n - j ∧ i = .int .i64 j ∧ kv = .int .i64 (k + 2 * (j : Int)) ∧ w.grownBy wr (rowOfM n g) ∧ IP w wr ∧ FS w wr)
  case atStart => exact ⟨0, Nat.zero_le _, rfl, rfl, by simp, ⟨rfl, rfl, rfl, Nat.le_refl _, fun _ _ _ => rfl⟩, IP.refl w, fun _ => rfl⟩
  case round =>
    obtain ⟨j, hj, rfl, rfl, rfl, hg, hip, hfs⟩ := hrel
    by_cases hlt : j < n
    · obtain ⟨x0, e0⟩ := hc (j * 2) (by omega)
      obtain ⟨x1, e1⟩ := hc (j * 2 + 1) (by omega)
      obtain ⟨y0, d0⟩ := hip _ _ e0
      obtain ⟨y1, d1⟩ := hip _ _ e1
      have f0 : wr.frozen? ⟨g, j * 2, none⟩ = false := (hfs _).trans (hf _ (by omega))
      have f1 : wr.frozen? ⟨g, j * 2 + 1, none⟩ = false := (hfs _).trans (hf _ (by omega))
      have hro : rowOfM n g = some g := if_neg (by omega)
      have hjz : (j : Int) < (n : Int) := by omega
      have hg2 : ∀ u1 u2, w.grownBy ((wr.setCell ⟨g, j * 2, none⟩ u1).setCell ⟨g, j * 2 + 1, none⟩ u2) (rowOfM n g) := fun u1 u2 => by rw [hro] at hg ⊢; exact ⟨hg.os, hg.tape, hg.output, by simp [World.setCell]; exact hg.size, fun q hq hne => (Below.heap_setCell _ _ _ _ (fun e => hne (by rw [e]))).trans ((Below.heap_setCell _ _ _ _ (fun e => hne (by rw [e]))).trans (hg.block q hq hne))⟩
      have hip2 : ∀ z1 z2, IP w ((wr.setCell ⟨g, j * 2, none⟩ (.int .i64 z1)).setCell ⟨g, j * 2 + 1, none⟩ (.int .i64 z2)) := fun z1 z2 => (hip.set _ _).set _ _
      have hfs2 : ∀ u1 u2, FS w ((wr.setCell ⟨g, j * 2, none⟩ u1).setCell ⟨g, j * 2 + 1, none⟩ u2) := fun u1 u2 p => by rw [World.frozen?_setCell, World.frozen?_setCell]; exact hfs p
      have hw1 : IntKind.i64.wrap (k + 2 * (j : Int) + 1) = k + 2 * (j : Int) + 1 := by rw [IntKind.wrap_i64]; omega
      have hw2 : IntKind.i64.wrap (k + 2 * (j : Int) + 1 + 1) = k + 2 * (j : Int) + 1 + 1 := by rw [IntKind.wrap_i64]; omega
      clear hip hfs hg hro
      go_wp2
      go_roundg (n - (j + 1))
      case measure => omega
      case rel => exact ⟨j + 1, by omega, rfl, by go_num, by rw [show k + 2 * (j : Int) + 1 + 1 = k + 2 * ((j + 1 : Nat) : Int) by omega], hg2 _ _, hip2 _ _, hfs2 _ _⟩
    · obtain rfl : j = n := by omega
      go_wp2
      go_ret
      exact ⟨rfl, hg, hip, hfs⟩
set_option maxRecDepth 100000 in
set_option maxHeartbeats 1000000 in
theorem markMethodS_any (B : Nat) (v : Value) (ms : List (Int × Int × List (Int × Int))) (w2 w : World) (h : MethsNew B w2 v ms) (hnf : NF B w2) (hhi : MethsHi w2 v ms) (hb : Below w2.heap.size w2 w) (hn : ms.length ≤ 1048576) (ho : ∀ i, (hi : i < ms.length) → ms[i].2.2.length ≤ 1048576) :
    Calls Tryz.prog 27 #[v, .int .i64 1] w fun e w' => Mid B w2.heap.size w w' ∧ ∃ K : Int, e = .returned (.int .i64 K) ∧ 0 ≤ K ∧ K ≤ 2199025352705 := by
  obtain ⟨g, cap, rfl, hBg, hl, hc⟩ := h
  obtain ⟨g', cap', e, hc2⟩ := hhi
  obtain ⟨rfl, rfl⟩ : g = g' ∧ cap = cap' := by injection e with e1 _ e2; injection e1 with e1; injection e1 with e1; exact ⟨e1, e2⟩
  clear e
  unfold maxLen at hl
  have HTS0 : Hid (∀ q, q < ms.length → (w.cell? ⟨g, q * 3 + 2, none⟩).isSome = true) := fun q hq => by
    obtain ⟨vo, h1, _⟩ := hc2 q hq
    rw [cell_below hb h1]; rfl
  go_enter Tryz.func27, Tryz.ntmps27
  go_wp2
  go_loopg [1, 5] ms.length (fun gg kv i wr => ∃ (j : Nat) (K : Int), j ≤ ms.length ∧ gg = ms.length - j ∧ i = .int .i64 j ∧ kv = .int .i64 K ∧ 0 ≤ K ∧ K ≤ 1 + (j : Int) * 2097154 ∧ Mid B w2.heap.size w wr ∧ IP w wr ∧ FS w wr ∧ ∀ q, q < ms.length → wr.cell? ⟨g, q * 3 + 2, none⟩ = w.cell? ⟨g, q * 3 + 2, none⟩)
  case atStart => exact ⟨0, 1, Nat.zero_le _, rfl, rfl, rfl, by omega, by omega, Mid.refl _ _ _, IP.refl w, fun _ => rfl, fun _ _ => rfl⟩
  case round =>
    obtain ⟨j, K, hj, rfl, rfl, rfl, hK0, hK1, hmid, hip, hfs, hth⟩ := hrel
    by_cases hlt : j < ms.length
    · obtain ⟨vo, c0, c1, c2, c3, c4⟩ := hc j hlt
      obtain ⟨vo', c2', c5⟩ := hc2 j hlt
      rw [Nat.zero_add] at c0 c1 c2
      obtain rfl : vo = vo' := Option.some.inj (c2.symm.trans c2')
      obtain ⟨go, lo, co, rfl, hgo⟩ := c5
      have hgl : g < w2.heap.size := World.block_lt_of_cell? _ _ c0
      obtain ⟨ao, cc, hvo, _, hcc⟩ := c3
      obtain ⟨rfl, rfl, rfl⟩ : ao = some ⟨go, 0, none⟩ ∧ lo = ms[j].2.2.length ∧ cc = co := by injection hvo with e1 e2 e3; exact ⟨e1.symm, e2, e3.symm⟩
      clear hvo
      have hol := ho j hlt
      obtain ⟨y0, d0⟩ := hip _ _ (cell_below hb c0)
      obtain ⟨y1, d1⟩ := hip _ _ (cell_below hb c1)
      have d2 : wr.cell? ⟨g, j * 3 + 2, none⟩ = some (.slice (some ⟨go, 0, none⟩) ms[j].2.2.length cc) := (hth j hlt).trans (cell_below hb c2)
      have fr : ∀ b o, B ≤ b → b < w2.heap.size → wr.frozen? ⟨b, o, none⟩ = false := fun b o h1 h2 => (hfs _).trans ((hb.frozen (p := ⟨b, o, none⟩) h2).trans (hnf b o h1))
      have f0 := fr g (j * 3) hBg hgl
      have f1 := fr g (j * 3 + 1) hBg hgl
      have hjz : (j : Int) < (ms.length : Int) := by omega
      have hopc : ∀ q, q < ms[j].2.2.length * 2 → ∃ x, wr.cell? ⟨go, q, none⟩ = some (.int .i64 x) := fun q hq => by
        obtain ⟨b', o', e', h0', h1'⟩ := hcc (q / 2) (by omega)
        obtain ⟨rfl, rfl⟩ : go = b' ∧ 0 = o' := by simpa using e'
        rcases Nat.mod_two_eq_zero_or_one q with hm | hm
        · rw [show 0 + q / 2 * 2 = q by omega] at h0'; exact hip _ _ (cell_below hb h0')
        · rw [show 0 + q / 2 * 2 + 1 = q by omega] at h1'; exact hip _ _ (cell_below hb h1')
      have hgoB : ∀ q, q < ms[j].2.2.length * 2 → go < w2.heap.size := fun q hq => by
        obtain ⟨b', o', e', h0', _⟩ := hcc (q / 2) (by omega)
        obtain ⟨rfl, rfl⟩ : go = b' ∧ 0 = o' := by simpa using e'
        exact World.block_lt_of_cell? _ _ h0'
      have hw1 : IntKind.i64.wrap (K + 1) = K + 1 := by rw [IntKind.wrap_i64]; omega
      have hw2 : IntKind.i64.wrap (K + 1 + 1) = K + 1 + 1 := by rw [IntKind.wrap_i64]; omega
      have hne : go ≠ g := by omega
      clear c0 c1 c2 c2' c4 hcc hc hc2 ho
      have hd2 : ∀ u1 u2, ((wr.setCell ⟨g, j * 3, none⟩ u1).setCell ⟨g, j * 3 + 1, none⟩ u2).cell? ⟨g, j * 3 + 2, none⟩ = some (.slice (some ⟨go, 0, none⟩) ms[j].2.2.length cc) := fun u1 u2 => by
        rw [World.cell?_setCell_other _ _ _ _ (fun e => by have := congrArg Addr.off e; simp at this), World.cell?_setCell_other _ _ _ _ (fun e => by have := congrArg Addr.off e; simp at this)]; exact d2
      have HTH : Hid (∀ q, q < ms.length → wr.cell? ⟨g, q * 3 + 2, none⟩ = w.cell? ⟨g, q * 3 + 2, none⟩) := hth
      have HTS : Hid (∀ q, q < ms.length → (w.cell? ⟨g, q * 3 + 2, none⟩).isSome = true) := HTS0.out
      have hm3 : ∀ u1 u2, Mid B w2.heap.size w ((wr.setCell ⟨g, j * 3, none⟩ u1).setCell ⟨g, j * 3 + 1, none⟩ u2) := fun u1 u2 => (hmid.set g _ _ hBg hgl).set g _ _ hBg hgl
      have hip3 : ∀ z1 z2, IP w ((wr.setCell ⟨g, j * 3, none⟩ (.int .i64 z1)).setCell ⟨g, j * 3 + 1, none⟩ (.int .i64 z2)) := fun z1 z2 => (hip.set _ _).set _ _
      have hip0 : ∀ z1 z2, IP wr ((wr.setCell ⟨g, j * 3, none⟩ (.int .i64 z1)).setCell ⟨g, j * 3 + 1, none⟩ (.int .i64 z2)) := fun z1 z2 => ((IP.refl wr).set _ _).set _ _
      have hfs3 : ∀ u1 u2, FS w ((wr.setCell ⟨g, j * 3, none⟩ u1).setCell ⟨g, j * 3 + 1, none⟩ u2) := fun u1 u2 p => by rw [World.frozen?_setCell, World.frozen?_setCell]; exact hfs p
      clear hmid hip hfs hth
      go_wp2_with fail
      refine (markOpS_any go _ _ _ _ hol (by omega) (by omega) (fun q hq => by obtain ⟨x, hx⟩ := hopc q hq; exact hip0 _ _ _ _ hx) (fun q hq => by rw [World.frozen?_setCell, World.frozen?_setCell]; exact fr go q (by omega) (hgoB q hq))).mono ?_
      rintro e w5 ⟨rfl, hg5, hip5, hfs5⟩
      have M5 := (hm3 _ _).row hg5 (fun hne0 => ⟨by omega, hgoB 0 (by omega)⟩)
      have I5 := (hip3 _ _).trans hip5
      have F5 : FS w w5 := fun p => (hfs5 p).trans (hfs3 _ _ p)
      have T5 : Hid (∀ q, q < ms.length → w5.cell? ⟨g, q * 3 + 2, none⟩ = w.cell? ⟨g, q * 3 + 2, none⟩) := fun q hq => by
        obtain ⟨u, hu⟩ := Option.isSome_iff_exists.1 (HTS.out q hq)
        have h1 := (HTH.out q hq).trans hu
        rw [hu]
        refine row_cell hg5 ?_ (Ne.symm hne)
        rw [World.cell?_setCell_other _ _ _ _ (fun e => by have := congrArg Addr.off e; simp at this; omega), World.cell?_setCell_other _ _ _ _ (fun e => by have := congrArg Addr.off e; simp at this; omega)]; exact h1
      have hKn : K + 1 + 1 + 2 * (ms[j].2.2.length : Int) ≤ 1 + ((j + 1 : Nat) : Int) * 2097154 := by omega
      clear hg5 hip5 hfs5 hm3 hip3 hip0 hfs3 HTH hd2 hopc fr
      go_wp2
      go_roundg (ms.length - (j + 1))
      case measure => omega
      case rel => exact ⟨j + 1, _, by omega, rfl, by go_num, rfl, by omega, hKn, M5, I5, F5, T5.out⟩
    · obtain rfl : j = ms.length := by omega
      go_wp2
      go_ret
      exact ⟨hmid, K, rfl, hK0, by omega⟩
set_option maxRecDepth 100000 in
theorem markProg_any (B : Nat) (v : Value) (ms : List (Int × Int × List (Int × Int))) (w2 w : World) (h : MethsNew B w2 v ms) (hnf : NF B w2) (hhi : MethsHi w2 v ms) (hb : Below w2.heap.size w2 w) (hn : ms.length ≤ 1048576) (ho : ∀ i, (hi : i < ms.length) → ms[i].2.2.length ≤ 1048576) :
    Calls Tryz.prog 13 #[.agg #[v], .int .i64 1] w fun e w' => Mid B w2.heap.size w w' ∧ ∃ K : Int, e = .returned (.int .i64 K) ∧ 0 ≤ K ∧ K ≤ 2199025352705 := by
  obtain ⟨g, l, c, rfl, hg⟩ := h.own
  have hA : Below w.heap.size w (w.alloc (.cells #[.slice (some ⟨g, 0, none⟩) l c] 39)) := (Below.refl _ _).alloc (Nat.le_refl _) _
  go_enter Tryz.func13, Tryz.ntmps13
  go_wp2_with fail
  generalize w.alloc (.cells #[.slice (some ⟨g, 0, none⟩) l c] 39) = W0 at *
  refine (markMethodS_any B _ ms w2 _ h hnf hhi (hb.trans (hA.mono hb.size)) hn ho).mono ?_
  rintro e w1 ⟨hm, K, rfl, hK⟩
  have M1 : Mid B w2.heap.size w w1 := ⟨hm.os.trans hA.os, hm.tape.trans hA.tape, hm.output.trans hA.output, Nat.le_trans hA.size hm.size, fun k hk hc => (hm.block k (Nat.lt_of_lt_of_le hk hA.size) hc).trans (hA.block k hk)⟩
  clear hm h hhi hnf ho
  go_wp2
  go_ret
  exact ⟨M1, K, rfl, hK⟩
end Go.Proofs.YtnffknlgaiehdaaGreatDoor
