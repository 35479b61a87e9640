/-
  Numbers are appended to rows of up to 3000000 of them (the like of Ints).
-/
import Derived.Test.YtmifhlkcceafkaaGreatInts
import Derived.Test.YtmifhlkcceafkaaGreatOwn
import Derived.MapKept
import Derived.Maps.Own

namespace Go.Proofs.YtmifhlkcceafkaaGreat
open Go.RowKit
theorem run_append_intsM {P : Program} {t ty e : TypeId} {i : TypeInfo} {B : Nat} (ht : P.underlying t = some (.slice e)) (hi : P.info? e = some i) (hz : i.zero = some (.int .i64 0)) (hs : i.size = 1) (hby : i.bytes = 8)
    {w : World} {v : Value} {L : List Int} (hown : IntRow B w v L) (ad : Addr) (m c : Nat) (M : List Int) (hm : M.length = m) (hnews : ∀ j, (h : j < M.length) → w.cell? (ad.add j) = some (.int .i64 M[j]))
    (hpos : 0 < m ∨ ∃ a n k, v = .slice (some a) n k) (hL : L.length + m ≤ 3000000) (hB : B ≤ w.heap.size) :
    ∃ g off cap w', (Builtin.append_ #[t, t] ty #[v, .slice (some ad) m c]).run P w = .ok (.slice (some ⟨g, off, none⟩) (L.length + m) cap) w' ∧
      IntRow B w' (.slice (some ⟨g, off, none⟩) (L.length + m) cap) (L ++ M) ∧ w.grownBy w' v.ownBlock ∧ (v.ownBlock = some g ∨ g = w.heap.size) := by
  have hnews' : ∀ j u, (M.map fun x => Value.int .i64 x)[j]? = some u → w.cell? (ad.add j) = some u := by
    intro j u hu
    rw [List.getElem?_map] at hu
    by_cases hj : j < M.length
    · rw [List.getElem?_eq_getElem hj] at hu
      rw [hnews j hj]
      simpa using hu
    · rw [List.getElem?_eq_none (by omega)] at hu; simp at hu
  have h1 : ∀ u ∈ (M.map fun x => Value.int .i64 x), u.oneCell' = true := by
    intro u hu
    simp at hu
    obtain ⟨x, _, rfl⟩ := hu
    rfl
  have hgrown : ∀ (xs : List Int) (k : Nat) (W : World) (q : Nat), W.heap.size = w.heap.size → xs.length = q → q ≤ k → k ≤ maxLen →
      IntRow B (W.alloc (.cells ((xs.map fun x => Value.int .i64 x).toArray ++ Builtin.zeroCells (Value.int .i64 0).cells (k - q)) e)) (.slice (some ⟨w.heap.size, 0, none⟩) q k) xs := by
    intro xs k W q hW hq hqk hk
    subst hq
    have hsz0 : (Builtin.zeroCells (Value.int .i64 0).cells (k - xs.length)).size = k - xs.length := by
      simp [Builtin.zeroCells, Value.cells]
    have hblk : (W.alloc (.cells ((xs.map fun x => Value.int .i64 x).toArray ++ Builtin.zeroCells (Value.int .i64 0).cells (k - xs.length)) e)).heap[w.heap.size]? = some (.cells ((xs.map fun x => Value.int .i64 x).toArray ++ Builtin.zeroCells (Value.int .i64 0).cells (k - xs.length)) e) := by
      rw [← hW]; exact Go.Deep.blk_alloc_new _ _
    refine .inr ⟨w.heap.size, 0, k, rfl, hB, by simp [hW], hqk, hk, fun j hj => ?_, fun j hj => ?_⟩
    · refine ⟨?_, ?_⟩
      · rw [Nat.zero_add, cell_of_row _ _ _ _ _ _ hblk]
        rw [Array.getElem?_eq_getElem (by simp [hsz0]; omega)]; rfl
      · simp [World.frozen?, hblk]
    · rw [Nat.zero_add, cell_of_row _ _ _ _ _ _ hblk]
      simp [Array.getElem?_append, hj]
  rcases hown with ⟨rfl, rfl⟩ | ⟨g, off, cap, rfl, hBg, hg, hl, hmx, hsp, hx⟩
  · have hm0 : 0 < m := by
      rcases hpos with h | ⟨_, _, _, h⟩
      · exact h
      · cases h
    have hr := run_append_nil (P := P) w t ty e i _ ht hi hz ad m c _ (by simp [hs, hm]) hnews' hm0 (by simp at hL; omega) (by simp at hL; rw [hby]; omega)
    refine ⟨w.heap.size, 0, grownCap w m 0 e, _, by simpa using hr, ?_, ?_, .inr rfl⟩
    · have := hgrown M (grownCap w m 0 e) w.drew m rfl hm (grownCap_ge _ _ _ _) (grownCap_le_maxLen _ _ _ _ (by simp at hL; unfold maxLen; omega))
      simpa using this
    · exact ⟨rfl, rfl, rfl, Nat.le_of_lt (by rw [World.size_alloc]; exact Nat.lt_succ_self _), fun k hk _ => Below.heap_alloc w.drew _ k hk⟩
  · by_cases hroom : L.length + m ≤ cap
    · have hc : ∀ j, j < (M.map fun x => Value.int .i64 x).length → (w.cell? ⟨g, off + L.length * i.size + j, none⟩).isSome = true := fun j hj => by
        rw [intCells_length] at hj
        have := (hsp (L.length + j) (by omega)).1
        rwa [hs, Nat.mul_one, Nat.add_assoc]
      have hf : ∀ j, j < (M.map fun x => Value.int .i64 x).length → w.frozen? ⟨g, off + L.length * i.size + j, none⟩ = false := fun j hj => by
        rw [intCells_length] at hj
        have := (hsp (L.length + j) (by omega)).2
        rwa [hs, Nat.mul_one, Nat.add_assoc]
      have hr := run_append_room_cells (P := P) w t ty e i ht hi g off L.length cap ad m c _ (by simp [hs, hm]) hnews' h1 hroom hc hf
      rw [hs, Nat.mul_one] at hr hc
      have hszc : (w.setCells g (off + L.length) (M.map fun x => Value.int .i64 x)).heap.size = w.heap.size := by
        have key : ∀ (vs : List Value) (o : Nat) (W : World), (W.setCells g o vs).heap.size = W.heap.size := by
          intro vs
          induction vs with
          | nil => intro o W; rfl
          | cons v r ih => intro o W; rw [World.setCells, ih]; simp [World.setCell]
        exact key _ _ _
      have hoth : ∀ k, k ≠ g → (w.setCells g (off + L.length) (M.map fun x => Value.int .i64 x)).heap[k]? = w.heap[k]? := by
        have key : ∀ (vs : List Value) (o : Nat) (W : World) (k : Nat), k ≠ g → (W.setCells g o vs).heap[k]? = W.heap[k]? := by
          intro vs
          induction vs with
          | nil => intro o W k _; rfl
          | cons v r ih => intro o W k hk; rw [World.setCells, ih _ _ _ hk]; exact Below.heap_setCell _ _ _ _ hk
        exact key _ _ _
      have hwt : (w.setCells g (off + L.length) (M.map fun x => Value.int .i64 x)).os = w.os ∧ (w.setCells g (off + L.length) (M.map fun x => Value.int .i64 x)).tape = w.tape ∧ (w.setCells g (off + L.length) (M.map fun x => Value.int .i64 x)).output = w.output := by
        have key : ∀ (vs : List Value) (o : Nat) (W : World), (W.setCells g o vs).os = W.os ∧ (W.setCells g o vs).tape = W.tape ∧ (W.setCells g o vs).output = W.output := by
          intro vs
          induction vs with
          | nil => intro o W; exact ⟨rfl, rfl, rfl⟩
          | cons v r ih => intro o W; rw [World.setCells]; exact ih _ _
        exact key _ _ _
      refine ⟨g, off, cap, _, hr, .inr ⟨g, off, cap, by simp [hm], hBg, by rw [hszc]; exact hg, by simp [hm]; omega, hmx, fun j hj => ?_, fun j hj => ?_⟩, ⟨hwt.1, hwt.2.1, hwt.2.2, by rw [hszc]; exact Nat.le_refl _, fun k _ hk => hoth k (fun e => hk (by rw [e]; rfl))⟩, .inl rfl⟩
      · rw [World.frozen?_setCells]
        refine ⟨?_, (hsp j hj).2⟩
        by_cases hin : L.length ≤ j ∧ j < L.length + M.length
        · have := World.cell?_setCells_in g (M.map fun x => Value.int .i64 x) (off + L.length) w hc (j - L.length) (by simp; omega)
          rw [show off + L.length + (j - L.length) = off + j by omega] at this
          rw [this]; rfl
        · rw [World.cell?_setCells_out g _ _ _ _ (fun _ _ => by simp; omega)]
          exact (hsp j hj).1
      · rw [List.length_append] at hj
        by_cases hin : j < L.length
        · rw [World.cell?_setCells_out g _ _ _ _ (fun _ _ => by simp; omega), hx j hin]
          simp [hin]
        · have := World.cell?_setCells_in g (M.map fun x => Value.int .i64 x) (off + L.length) w hc (j - L.length) (by simp; omega)
          rw [show off + L.length + (j - L.length) = off + j by omega] at this
          rw [this]
          simp [List.getElem_append, hin]
    · have hr := run_append_grow (P := P) w t ty e i _ ht hi hz ⟨g, off, none⟩ L.length cap (L.map fun x => Value.int .i64 x) (by simp [hs]) (fun j u hu => by
          rw [List.getElem?_map] at hu
          by_cases hj : j < L.length
          · rw [List.getElem?_eq_getElem hj] at hu
            rw [Addr.add_lit, hx j hj]
            simpa using hu
          · rw [List.getElem?_eq_none (by omega)] at hu; simp at hu)
        ad m c _ (by simp [hs, hm]) hnews' (by omega) (by omega) (growslice_fits (by omega) (by rw [hby]; omega))
      refine ⟨w.heap.size, 0, grownCap w (L.length + m) cap e, _, hr, ?_, ?_, .inr rfl⟩
      · have := hgrown (L ++ M) (grownCap w (L.length + m) cap e) w.drew (L.length + m) rfl (by simp [hm]) (grownCap_ge _ _ _ _) (grownCap_le_maxLen _ _ _ _ (by unfold maxLen; omega))
        simpa using this
      · exact ⟨rfl, rfl, rfl, Nat.le_of_lt (by rw [World.size_alloc]; exact Nat.lt_succ_self _), fun k hk _ => Below.heap_alloc w.drew _ k hk⟩
theorem append_intsM {P : Program} {t e : TypeId} {i : TypeInfo} {B : Nat} (ht : P.underlying t = some (.slice e)) (hi : P.info? e = some i) (hz : i.zero = some (.int .i64 0)) (hsz : i.size = 1) (hby : i.bytes = 8)
    {ops : Array Oper} {rest : List Oper} {o : Oper} {act : Act} {Q : Exit → Act → World → Prop} (w : World) (hgd : o.guard = none) (s x : Operand)
    (ho : o.op = .call { callee := .builtin .append, args := #[s, x], argTypes := #[t, t] }) (v : Value) (L : List Int) (hs : act.eval s = v) (hown : IntRow B w v L) (ad : Addr) (m c : Nat) (M : List Int) (hm : M.length = m)
    (hx : act.eval x = .slice (some ad) m c) (hnews : ∀ j, (h : j < M.length) → w.cell? (ad.add j) = some (.int .i64 M[j])) (hpos : 0 < m ∨ ∃ a n k, v = .slice (some a) n k) (hL : L.length + m ≤ 3000000) (hB : B ≤ w.heap.size)
    (h : ∀ g off cap w', IntRow B w' (.slice (some ⟨g, off, none⟩) (L.length + m) cap) (L ++ M) → w.grownBy w' v.ownBlock → (v.ownBlock = some g ∨ g = w.heap.size) →
      wpList P ops Q rest (act.put o.dst (.slice (some ⟨g, off, none⟩) (L.length + m) cap)) w') :
    wpList P ops Q (o :: rest) act w := by
  obtain ⟨g, off, cap, w', hr, h2, h3, h4⟩ := run_append_intsM (P := P) (ty := o.type) ht hi hz hsz hby hown ad m c M hm hnews hpos hL hB
  refine wpList_plain hgd fun K hK => ?_
  unfold Oper.wp execOp
  simp only [ho, resolve, invoke, builtin, Sem.run_bind, Sem.run_pure, Result.andThen_ok, List.map_toArray, List.map_cons, List.map_nil, hs, hx, hr]
  exact hK _ _ (h g off cap w' h2 h3 h4)
theorem append_intM {P : Program} {t e : TypeId} {i : TypeInfo} {B : Nat} (ht : P.underlying t = some (.slice e)) (hi : P.info? e = some i) (hz : i.zero = some (.int .i64 0)) (hsz : i.size = 1) (hby : i.bytes = 8)
    {ops : Array Oper} {rest : List Oper} {o : Oper} {act : Act} {Q : Exit → Act → World → Prop} (w : World) (hgd : o.guard = none) (s x : Operand)
    (ho : o.op = .call { callee := .builtin .append, args := #[s, x], argTypes := #[t, t] }) (v : Value) (L : List Int) (hs : act.eval s = v) (hown : IntRow B w v L) (k : Int) (H c : Nat) (hH : w.heap.size = H)
    (hx : act.eval x = .slice (some ⟨H, 0, none⟩) 1 c) (hL : L.length ≤ 2900000) (hB : B ≤ H)
    (h : ∀ g off cap w', IntRow B w' (.slice (some ⟨g, off, none⟩) (L.length + 1) cap) (L ++ [k]) → w.grownBy w' v.ownBlock → (v.ownBlock = some g ∨ H ≤ g) → g < w'.heap.size →
      wpList P ops Q rest (act.put o.dst (.slice (some ⟨g, off, none⟩) (L.length + 1) cap)) w') :
    wpList P ops Q (o :: rest) act (w.alloc (.cells #[.int .i64 k] e)) := by
  subst hH
  refine append_intsM ht hi hz hsz hby _ hgd s x ho v L hs (hown.below ((Below.refl _ _).alloc (Nat.le_refl _) _)) ⟨w.heap.size, 0, none⟩ 1 c [k] rfl hx (fun j hj => ?_) (.inl (by omega)) (by omega) (by simp; omega) fun g off cap w' h1 h2 h3 => ?_
  · obtain rfl : j = 0 := by simpa using hj
    simp [Addr.add_lit, go_sem]
  · have hA := World.grownBy_alloc w (.cells #[.int .i64 k] e) v.ownBlock
    refine h g off cap w' h1 ⟨h2.os.trans hA.os, h2.tape.trans hA.tape, h2.output.trans hA.output, Nat.le_trans hA.size h2.size, fun i hi hn => (h2.block i (Nat.lt_of_lt_of_le hi hA.size) hn).trans (hA.block i hi hn)⟩ ?_ (h1.lt g rfl).2
    rcases h3 with h3 | h3
    · exact .inl h3
    · right; rw [h3]; simp
end Go.Proofs.YtmifhlkcceafkaaGreat

/-
  A map of numbers 0, 1, 2 and so on in memory: looked up, counted, written to, one more behind. Nothing of the translation is used here.
-/
namespace Go.Proofs.YtmifhlkcceafkaaGreat
open Go.RowKit
def TMap (w : World) (b : Nat) (xs : List Value) : Prop :=
  ∃ es clock, w.heap[b]? = some (.map es clock) ∧ es.size = xs.length ∧ ∀ i, (h : i < xs.length) → ∃ e, es[i]? = some e ∧ e.key = .int .i64 i ∧ e.val = xs[i]
theorem TMap.lt {w : World} {b : Nat} {xs : List Value} (h : TMap w b xs) : b < w.heap.size := by
  obtain ⟨es, clock, hb, _⟩ := h
  exact (Array.getElem?_eq_some_iff.1 hb).1
theorem TMap.kept {w w' : World} {b : Nat} {xs : List Value} (h : TMap w b xs) (hb : w'.heap[b]? = w.heap[b]?) : TMap w' b xs := by
  obtain ⟨es, clock, h0, r⟩ := h
  exact ⟨es, clock, hb.trans h0, r⟩
theorem TMap.below {w w' : World} {b : Nat} {xs : List Value} (h : TMap w b xs) (hb : Below w.heap.size w w') : TMap w' b xs := h.kept (hb.block b h.lt)
theorem TMap.made (w : World) : TMap (w.alloc (.map #[] 0)) w.heap.size [] := ⟨#[], 0, Go.Deep.blk_alloc_new _ _, rfl, fun _ h => absurd h (Nat.not_lt_zero _)⟩
theorem TMap.keys {xs : List Value} {es : Array MapEntry} (hs : es.size = xs.length) (he : ∀ i, (h : i < xs.length) → ∃ e, es[i]? = some e ∧ e.key = .int .i64 i ∧ e.val = xs[i]) : ∀ x ∈ es.toList, MapKept.IsKey (.int .i64) x.key := by
  intro x hx
  obtain ⟨i, hi, rfl⟩ := List.getElem_of_mem hx
  have hi' : i < xs.length := by rw [← hs]; simpa using hi
  obtain ⟨e, h1, h2, _⟩ := he i hi'
  have hi2 : i < es.size := by simpa using hi
  rw [Array.getElem?_eq_getElem hi2] at h1
  have : es.toList[i] = e := by simpa using h1
  rw [this, h2]
  rfl
theorem TMap.found {xs : List Value} {es : Array MapEntry} (hs : es.size = xs.length) (he : ∀ i, (h : i < xs.length) → ∃ e, es[i]? = some e ∧ e.key = .int .i64 i ∧ e.val = xs[i]) {k : Nat} (hk : k < xs.length) : Instr.findNow (.int .i64) (.int .i64 k) es.toList 0 = some (some (k, xs[k])) := by
  rcases MapKept.findNow_spec (d := .int .i64) (k := .int .i64 k) rfl es.toList 0 (TMap.keys hs he) with ⟨_, h2⟩ | ⟨j, e, h1, h2, h3⟩
  · obtain ⟨e, q1, q2, _⟩ := he k hk
    exact absurd q2 (h2 e (by
      have : es.toList[k]? = some e := by simpa using q1
      exact List.mem_of_getElem? this))
  · have hj : j < xs.length := by
      rw [← hs]
      have := (List.getElem?_eq_some_iff.1 h2).1
      simpa using this
    obtain ⟨e', q1, q2, q3⟩ := he j hj
    have : es[j]? = some e := by simpa using h2
    rw [q1] at this
    injection this with this
    subst this
    rw [q2] at h3
    injection h3 with _ h4
    have : j = k := by exact_mod_cast h4
    subst this
    rw [h1, q3]
    simp
theorem TMap.missed {xs : List Value} {es : Array MapEntry} (hs : es.size = xs.length) (he : ∀ i, (h : i < xs.length) → ∃ e, es[i]? = some e ∧ e.key = .int .i64 i ∧ e.val = xs[i]) : Instr.findNow (.int .i64) (.int .i64 xs.length) es.toList 0 = some none := by
  rcases MapKept.findNow_spec (d := .int .i64) (k := .int .i64 xs.length) rfl es.toList 0 (TMap.keys hs he) with ⟨h1, _⟩ | ⟨j, e, h1, h2, h3⟩
  · exact h1
  · have hj : j < xs.length := by
      rw [← hs]
      have := (List.getElem?_eq_some_iff.1 h2).1
      simpa using this
    obtain ⟨e', q1, q2, q3⟩ := he j hj
    have : es[j]? = some e := by simpa using h2
    rw [q1] at this
    injection this with this
    subst this
    rw [q2] at h3
    injection h3 with _ h4
    have : j = xs.length := by exact_mod_cast h4
    omega
variable {P : Program} {t kt et : TypeId}
theorem TMap.look {w : World} {b : Nat} {xs : List Value} (ht : P.underlying t = some (.map kt et)) (hk : P.underlying kt = some (.int .i64)) (h : TMap w b xs) {k : Nat} (hlt : k < xs.length) :
    (Instr.lookup t (.map (some b)) (.int .i64 k) false).run P w = .ok xs[k] w := by
  obtain ⟨es, clock, hb, hs, he⟩ := h
  have h1 := TMap.found hs he hlt
  simp [Instr.lookup, run_underlying ht, MapKept.run_getObj_map hb, MapKept.run_checkKey hk (show MapKept.IsKey (.int .i64) (.int .i64 (k : Int)) from rfl), MapKept.run_findKey hk h1, Result.andThen]
theorem TMap.len {w : World} {b : Nat} {xs : List Value} (ht : P.underlying t = some (.map (P.mapKeyOf t) (P.mapElemOf t))) (h : TMap w b xs) (ty : TypeId) : (Builtin.len_ #[t] ty #[.map (some b)]).run P w = .ok (goInt xs.length) w := by
  obtain ⟨es, clock, hb, hs, _⟩ := h
  rw [run_len_map w t ty b es clock ht hb, hs]
theorem grown_setMap (w : World) (b : Nat) (o : Obj) : w.grownBy { w with heap := w.heap.setIfInBounds b o } (some b) :=
  ⟨rfl, rfl, rfl, by simp, fun k _ hne => by
    have : k ≠ b := fun e => hne (by rw [e])
    simp [Ne.symm this]⟩
theorem TMap.put {w : World} {b : Nat} {xs : List Value} (ht : P.underlying t = some (.map kt et)) (hk : P.underlying kt = some (.int .i64)) (h : TMap w b xs) {k : Nat} (hlt : k < xs.length) (v : Value) :
    ∃ w', (Instr.mapUpdate t (.map (some b)) (.int .i64 k) v).run P w = .ok () w' ∧ TMap w' b (xs.set k v) ∧ w.grownBy w' (some b) := by
  obtain ⟨es, clock, hb, hs, he⟩ := h
  have h1 := TMap.found hs he hlt
  obtain ⟨e0, q1, q2, q3⟩ := he k hlt
  have hbl := (Array.getElem?_eq_some_iff.1 hb).1
  refine ⟨{ w with heap := w.heap.setIfInBounds b (.map (es.modify k fun e => { e with key := .int .i64 k, val := v }) clock) }, ?_, ?_, grown_setMap _ _ _⟩
  · simp [Instr.mapUpdate, run_underlying ht, MapKept.run_getObj_map hb, MapKept.run_checkKey hk (show MapKept.IsKey (.int .i64) (.int .i64 (k : Int)) from rfl), MapKept.run_findKey hk h1, q1, q2, MapKept.run_keyThatStays (show MapKept.IsKey (.int .i64) (.int .i64 (k : Int)) from rfl), MapKept.run_setObj_map _ hb, Result.andThen]
  · refine ⟨es.modify k fun e => { e with key := .int .i64 k, val := v }, clock, by simp [hbl], by simp [hs], fun i hi => ?_⟩
    have hi' : i < xs.length := by simpa using hi
    obtain ⟨e, p1, p2, p3⟩ := he i hi'
    by_cases e1 : i = k
    · subst e1
      refine ⟨{ e with key := .int .i64 i, val := v }, by rw [Array.getElem?_modify]; simp [p1], rfl, by simp⟩
    · refine ⟨e, by rw [Array.getElem?_modify]; simp [Ne.symm e1, p1], p2, by rw [p3, List.getElem_set_ne (Ne.symm e1)]⟩
theorem TMap.push {w : World} {b : Nat} {xs : List Value} (ht : P.underlying t = some (.map kt et)) (hk : P.underlying kt = some (.int .i64)) (h : TMap w b xs) (v : Value) :
    ∃ w', (Instr.mapUpdate t (.map (some b)) (.int .i64 xs.length) v).run P w = .ok () w' ∧ TMap w' b (xs ++ [v]) ∧ w.grownBy w' (some b) := by
  obtain ⟨es, clock, hb, hs, he⟩ := h
  have h1 := TMap.missed hs he
  have hbl := (Array.getElem?_eq_some_iff.1 hb).1
  refine ⟨{ w with heap := w.heap.setIfInBounds b (.map (es.push { key := .int .i64 xs.length, val := v, born := clock }) (clock + 1)) }, ?_, ?_, grown_setMap _ _ _⟩
  · simp [Instr.mapUpdate, run_underlying ht, MapKept.run_getObj_map hb, MapKept.run_checkKey hk (show MapKept.IsKey (.int .i64) (.int .i64 (xs.length : Int)) from rfl), MapKept.run_findKey hk h1, MapKept.run_setObj_map _ hb, Result.andThen]
  · refine ⟨es.push { key := .int .i64 xs.length, val := v, born := clock }, clock + 1, by simp [hbl], by simp [hs], fun i hi => ?_⟩
    have hi' : i < xs.length + 1 := by simpa using hi
    by_cases e1 : i = xs.length
    · subst e1
      refine ⟨{ key := .int .i64 xs.length, val := v, born := clock }, by rw [← hs]; simp, rfl, by simp⟩
    · obtain ⟨e, p1, p2, p3⟩ := he i (by omega)
      exact ⟨e, by rw [Array.getElem?_push, if_neg (by omega)]; exact p1, p2, by rw [p3, List.getElem_append_left (by omega)]⟩
end Go.Proofs.YtmifhlkcceafkaaGreat
