/-
  What the exact laws write into twins that are handed out, and read there again: markTwinS and heldTwinS. Each block has a role, so nothing that is written falls on anything else.
-/
import Derived.Test.YtmifhlkcceafkaaGreatMThing5
import Derived.Test.YtmifhlkcceafkaaGreatMLive

namespace Go.Proofs.YtmifhlkcceafkaaGreat
open Go.RowKit
def spanT (t : Tw) : Int := 6 + 2 * (t.left.temps.length : Int) + 2 * (t.left.stack.length : Int)
def markT (k : Int) (t : Tw) : Tw :=
  ⟨k, k + 1, ⟨k + 1 + 1, k + 1 + 1 + 1, markV (k + 1 + 1 + 1 + 1) t.left.temps.length, markV (k + 1 + 1 + 1 + 1 + 2 * (t.left.temps.length : Int)) t.left.stack.length,
    k + 1 + 1 + 1 + 1 + 2 * (t.left.temps.length : Int) + 2 * (t.left.stack.length : Int), ((k + 1 + 1 + 1 + 1 + 2 * (t.left.temps.length : Int) + 2 * (t.left.stack.length : Int) + 1) % 3 == 0)⟩⟩
def tAt (k : Int) (ts : List Tw) (j : Nat) : Int := k + ((ts.take j).map spanT).sum
theorem tAt_zero (k : Int) (ts : List Tw) : tAt k ts 0 = k := by simp [tAt]
theorem tAt_succ (k : Int) (ts : List Tw) (j : Nat) (h : j < ts.length) : tAt k ts (j + 1) = tAt k ts j + spanT ts[j] := by
  unfold tAt
  rw [List.take_add_one, List.getElem?_eq_getElem h, List.map_append, List.sum_append]
  simp only [Option.toList_some, List.map_cons, List.map_nil, List.sum_cons, List.sum_nil]
  omega
def markTs (k : Int) (ts : List Tw) : List Tw := ts.mapIdx fun i t => markT (tAt k ts i) t
theorem markTs_length (k : Int) (ts : List Tw) : (markTs k ts).length = ts.length := by simp [markTs]
theorem markTs_at (k : Int) (ts : List Tw) (i : Nat) (h : i < (markTs k ts).length) : (markTs k ts)[i] = markT (tAt k ts i) (ts[i]'(by rw [markTs_length] at h; exact h)) := by simp [markTs]
def Tw.small (t : Tw) : Prop := t.left.temps.length ≤ 1000000 ∧ t.left.stack.length ≤ 1000000
theorem tAt_le (k : Int) (ts : List Tw) (hs : ∀ i, (hi : i < ts.length) → ts[i].small) : ∀ j, j ≤ ts.length → k ≤ tAt k ts j ∧ tAt k ts j ≤ k + (j : Int) * 4194308
  | 0, _ => by rw [tAt_zero]; omega
  | j + 1, h => by
    have ih := tAt_le k ts hs j (by omega)
    rw [tAt_succ k ts j (by omega)]
    have := hs j (by omega)
    unfold Tw.small at this
    unfold spanT
    omega
def twCells (t : Tw) (V : Value × Value) : List Value := [.int .i64 t.page, .int .i64 t.place, .int .i64 t.left.m, .int .i64 t.left.pc, V.1, V.2, .int .i64 t.left.sender, .bool t.left.dead]
structure TRow (B : Nat) (w : World) (g off : Nat) (ts : List Tw) (V : Nat → Value × Value) : Prop where
  hB : B ≤ g
  hg : g < w.heap.size
  cell : ∀ i, (h : i < ts.length) → ∀ r x, (twCells ts[i] (V i))[r]? = some x → w.cell? ⟨g, off + i * 8 + r, none⟩ = some x
  fz : ∀ i r, i < ts.length → r < 8 → w.frozen? ⟨g, off + i * 8 + r, none⟩ = false
structure TwO (B : Nat) (ρ : Nat → Rl) (w : World) (v : Value) (ts : List Tw) (V : Nat → Value × Value) : Prop where
  sh : ∃ a c, v = .slice a ts.length c ∧ ts.length ≤ maxLen
  row : 0 < ts.length → ∃ g off c, v = .slice (some ⟨g, off, none⟩) ts.length c ∧ TRow B w g off ts V ∧ ρ g = .twins
  lists : ∀ i, (h : i < ts.length) → PairRow B w (V i).1 ts[i].left.temps ∧ PairRow B w (V i).2 ts[i].left.stack
  lr : ∀ i, i < ts.length → (∀ g, (V i).1.ownBlock = some g → ρ g = .temps i) ∧ ∀ g, (V i).2.ownBlock = some g → ρ g = .stack i
def TwR (r : Rl) : Prop := r = .twins ∨ (∃ i, r = .temps i) ∨ ∃ i, r = .stack i
theorem TRow.kept {B g off : Nat} {w w' : World} {ts : List Tw} {V : Nat → Value × Value} (h : TRow B w g off ts V) (hs : w.heap.size ≤ w'.heap.size) (hb : w'.heap[g]? = w.heap[g]?) : TRow B w' g off ts V :=
  ⟨h.hB, Nat.lt_of_lt_of_le h.hg hs, fun i hi r x hx => (World.cell?_of_block (a := ⟨g, _, none⟩) hb).trans (h.cell i hi r x hx), fun i r hi hr => (World.frozen?_of_block (a := ⟨g, _, none⟩) hb).trans (h.fz i r hi hr)⟩
theorem TwO.kept {B : Nat} {ρ : Nat → Rl} {w w' : World} {v : Value} {ts : List Tw} {V : Nat → Value × Value} (h : TwO B ρ w v ts V) (hs : w.heap.size ≤ w'.heap.size) (hb : ∀ g, TwR (ρ g) → B ≤ g → g < w.heap.size → w'.heap[g]? = w.heap[g]?) : TwO B ρ w' v ts V := by
  refine ⟨h.sh, fun hp => ?_, fun i hi => ⟨?_, ?_⟩, h.lr⟩
  · obtain ⟨g, off, c, e, hr, hρ⟩ := h.row hp
    exact ⟨g, off, c, e, hr.kept hs (hb g (.inl hρ) hr.hB hr.hg), hρ⟩
  · exact (h.lists i hi).1.kept hs fun g e => hb g (.inr (.inl ⟨i, (h.lr i hi).1 g e⟩)) ((h.lists i hi).1.lt g e).1 ((h.lists i hi).1.lt g e).2
  · exact (h.lists i hi).2.kept hs fun g e => hb g (.inr (.inr ⟨i, (h.lr i hi).2 g e⟩)) ((h.lists i hi).2.lt g e).1 ((h.lists i hi).2.lt g e).2
theorem TwO.below {B : Nat} {ρ : Nat → Rl} {w w' : World} {v : Value} {ts : List Tw} {V : Nat → Value × Value} (h : TwO B ρ w v ts V) (hb : Below w.heap.size w w') : TwO B ρ w' v ts V := h.kept hb.size fun g _ _ h3 => hb.block g h3
theorem TwO.wr {B : Nat} {ρ : Nat → Rl} {w w' : World} {v : Value} {ts : List Tw} {V : Nat → Value × Value} {T : Nat → Prop} (h : TwO B ρ w v ts V) (hw : Wr T w w') (hT : ∀ g, TwR (ρ g) → ¬ T g) : TwO B ρ w' v ts V := h.kept hw.size fun g h1 _ h3 => hw.block g h3 (hT g h1)
theorem TwO.at {B : Nat} {ρ : Nat → Rl} {w : World} {v : Value} {ts : List Tw} {V : Nat → Value × Value} (h : TwO B ρ w v ts V) : TwinsAt w v ts := by
  obtain ⟨a, c, e, hm⟩ := h.sh
  refine ⟨a, c, e, hm, fun i hi => ?_⟩
  obtain ⟨g, off, c', e', hr, _⟩ := h.row (by omega)
  rw [e] at e'
  injection e' with e1
  subst e1
  obtain ⟨l1, l2⟩ := h.lists i hi
  exact ⟨g, off, _, _, rfl, hr.cell i hi 0 _ rfl, hr.cell i hi 1 _ rfl, hr.cell i hi 2 _ rfl, hr.cell i hi 3 _ rfl, hr.cell i hi 4 _ rfl, hr.cell i hi 5 _ rfl, hr.cell i hi 6 _ rfl, hr.cell i hi 7 _ rfl, l1.at, l2.at⟩
structure Upd (g lo hi : Nat) (w w' : World) : Prop where
  wr : Wr (fun q => q = g) w w'
  out : ∀ o, o < lo ∨ hi ≤ o → w'.cell? ⟨g, o, none⟩ = w.cell? ⟨g, o, none⟩
theorem Upd.refl (g lo hi : Nat) (w : World) : Upd g lo hi w w := ⟨Wr.refl _ _, fun _ _ => rfl⟩
theorem Upd.set {g lo hi : Nat} {w w' : World} (h : Upd g lo hi w w') (o : Nat) (h1 : lo ≤ o) (h2 : o < hi) (u : Value) : Upd g lo hi w (w'.setCell ⟨g, o, none⟩ u) :=
  ⟨h.wr.set1 u, fun o' ho => (World.cell?_setCell_other _ _ _ _ (fun e => by injection e; omega)).trans (h.out o' ho)⟩
theorem TwO.step {B : Nat} {ρ : Nat → Rl} {w w1 w2 w3 w4 : World} {g off c n : Nat} {ts : List Tw} {V : Nat → Value × Value} {j : Nat} (h : TwO B ρ w (.slice (some ⟨g, off, none⟩) n c) ts V) (hj : j < ts.length) (t : Tw)
    (hlt : t.left.temps.length = ts[j].left.temps.length) (hls : t.left.stack.length = ts[j].left.stack.length)
    (u1 : Upd g (off + j * 8) (off + j * 8 + 4) w w1) (x1 : ∀ r x, r < 4 → (twCells t (V j))[r]? = some x → w1.cell? ⟨g, off + j * 8 + r, none⟩ = some x)
    (h2 : Wr (fun q => (V j).1.ownBlock = some q) w1 w2) (p2 : PairRow B w2 (V j).1 t.left.temps)
    (h3 : Wr (fun q => (V j).2.ownBlock = some q) w2 w3) (p3 : PairRow B w3 (V j).2 t.left.stack)
    (u4 : Upd g (off + j * 8 + 6) (off + j * 8 + 8) w3 w4) (x4 : ∀ r x, 6 ≤ r → (twCells t (V j))[r]? = some x → w4.cell? ⟨g, off + j * 8 + r, none⟩ = some x) :
    TwO B ρ w4 (.slice (some ⟨g, off, none⟩) n c) (ts.set j t) V ∧ Wr (fun q => TwR (ρ q)) w w4 := by
  obtain ⟨g', off', c', e, hr, hρ⟩ := h.row (by omega)
  injection e with e1 e2 e3
  injection e1 with e1
  injection e1 with e4 e5
  subst e4 e5
  have z1 := u1.wr.size
  have z2 := h2.size
  have z3 := h3.size
  have z4 := u4.wr.size
  have hg := hr.hg
  have n1 : (V j).1.ownBlock ≠ some g := fun e => by have := (h.lr j hj).1 g e; rw [hρ] at this; cases this
  have n2 : (V j).2.ownBlock ≠ some g := fun e => by have := (h.lr j hj).2 g e; rw [hρ] at this; cases this
  have n3 : ∀ q, (V j).1.ownBlock = some q → (V j).2.ownBlock ≠ some q := fun q e1 e2 => by have := (h.lr j hj).1 q e1; rw [(h.lr j hj).2 q e2] at this; cases this
  have c3 : ∀ o, w3.cell? ⟨g, o, none⟩ = w1.cell? ⟨g, o, none⟩ := fun o => (World.cell?_of_block (a := ⟨g, o, none⟩) (h3.block g (by omega) n2)).trans (World.cell?_of_block (a := ⟨g, o, none⟩) (h2.block g (by omega) n1))
  have fr : ∀ o, w4.frozen? ⟨g, o, none⟩ = w.frozen? ⟨g, o, none⟩ := fun o => ((u4.wr.fr ⟨g, o, none⟩ (by show g < _; omega)).trans (h3.fr ⟨g, o, none⟩ (by show g < _; omega))).trans ((h2.fr ⟨g, o, none⟩ (by show g < _; omega)).trans (u1.wr.fr ⟨g, o, none⟩ hg))
  have W : Wr (fun q => q = g ∨ (V j).1.ownBlock = some q ∨ (V j).2.ownBlock = some q) w w4 :=
    (((u1.wr.mono fun q e => .inl e).trans (h2.mono fun q e => .inr (.inl e))).trans (h3.mono fun q e => .inr (.inr e))).trans (u4.wr.mono fun q e => .inl e)
  refine ⟨⟨by rw [List.length_set]; exact h.sh, fun _ => ?_, fun i hi => ?_, fun i hi => h.lr i (by rw [List.length_set] at hi; exact hi)⟩, W.mono fun q e => ?_⟩
  · rw [List.length_set]
    refine ⟨g, off, c, by rw [e2], ⟨hr.hB, by omega, fun i hi r x hx => ?_, fun i r hi hr' => (fr _).trans (hr.fz i r (by rw [List.length_set] at hi; exact hi) hr')⟩, hρ⟩
    have hr8 : r < 8 := (List.getElem?_eq_some_iff.1 hx).1
    rw [List.length_set] at hi
    by_cases e : i = j
    · subst e
      rw [List.getElem_set_self] at hx
      by_cases h4 : r < 4
      · rw [u4.out _ (.inl (by omega)), c3]
        exact x1 r x h4 hx
      · by_cases h6 : 6 ≤ r
        · exact x4 r x h6 hx
        · rw [u4.out _ (.inl (by omega)), c3, u1.out _ (.inr (by omega))]
          refine hr.cell i hj r x ?_
          rw [← hx]
          rcases (by omega : r = 4 ∨ r = 5) with rfl | rfl <;> rfl
    · rw [List.getElem_set_ne (fun x => e x.symm)] at hx
      rw [u4.out _ (by omega), c3, u1.out _ (by omega)]
      exact hr.cell i hi r x hx
  · rw [List.length_set] at hi
    by_cases e : i = j
    · subst e
      rw [List.getElem_set_self]
      exact ⟨u4.wr.pair (h3.pair p2 n3) (fun q e1 e2 => n1 (e2 ▸ e1)), u4.wr.pair p3 (fun q e1 e2 => n2 (e2 ▸ e1))⟩
    · rw [List.getElem_set_ne (fun x => e x.symm)]
      have d1 : ∀ q, (V i).1.ownBlock = some q → ¬ (q = g ∨ (V j).1.ownBlock = some q ∨ (V j).2.ownBlock = some q) := fun q e1 e2 => by
        have h1 := (h.lr i hi).1 q e1
        rcases e2 with rfl | e2 | e2
        · rw [hρ] at h1; cases h1
        · rw [(h.lr j hj).1 q e2] at h1; injection h1 with h1; exact e h1.symm
        · rw [(h.lr j hj).2 q e2] at h1; cases h1
      have d2 : ∀ q, (V i).2.ownBlock = some q → ¬ (q = g ∨ (V j).1.ownBlock = some q ∨ (V j).2.ownBlock = some q) := fun q e1 e2 => by
        have h1 := (h.lr i hi).2 q e1
        rcases e2 with rfl | e2 | e2
        · rw [hρ] at h1; cases h1
        · rw [(h.lr j hj).1 q e2] at h1; cases h1
        · rw [(h.lr j hj).2 q e2] at h1; injection h1 with h1; exact e h1.symm
      exact ⟨W.pair (h.lists i hi).1 d1, W.pair (h.lists i hi).2 d2⟩
  · rcases e with rfl | e | e
    · exact .inl hρ
    · exact .inr (.inl ⟨j, (h.lr j hj).1 q e⟩)
    · exact .inr (.inr ⟨j, (h.lr j hj).2 q e⟩)
theorem set4_at {w : World} {g o : Nat} {x0 x1 x2 x3 : Value} (u0 u1 u2 u3 : Value) (d0 : w.cell? ⟨g, o, none⟩ = some x0) (d1 : w.cell? ⟨g, o + 1, none⟩ = some x1) (d2 : w.cell? ⟨g, o + 2, none⟩ = some x2) (d3 : w.cell? ⟨g, o + 2 + 1, none⟩ = some x3) :
    let W := (((w.setCell ⟨g, o, none⟩ u0).setCell ⟨g, o + 1, none⟩ u1).setCell ⟨g, o + 2, none⟩ u2).setCell ⟨g, o + 2 + 1, none⟩ u3
    Upd g o (o + 4) w W ∧ W.cell? ⟨g, o, none⟩ = some u0 ∧ W.cell? ⟨g, o + 1, none⟩ = some u1 ∧ W.cell? ⟨g, o + 2, none⟩ = some u2 ∧ W.cell? ⟨g, o + 2 + 1, none⟩ = some u3 := by
  refine ⟨((((Upd.refl g o (o + 4) w).set o (by omega) (by omega) _).set (o + 1) (by omega) (by omega) _).set (o + 2) (by omega) (by omega) _).set (o + 2 + 1) (by omega) (by omega) _, ?_, ?_, ?_, ?_⟩
  · rw [off_ne (by omega), off_ne (by omega), off_ne (by omega)]; exact World.cell?_setCell_same _ _ _ d0
  · rw [off_ne (by omega), off_ne (by omega)]; exact World.cell?_setCell_same _ _ _ (by rw [off_ne (by omega)]; exact d1)
  · rw [off_ne (by omega)]; exact World.cell?_setCell_same _ _ _ (by rw [off_ne (by omega), off_ne (by omega)]; exact d2)
  · exact World.cell?_setCell_same _ _ _ (by rw [off_ne (by omega), off_ne (by omega), off_ne (by omega)]; exact d3)
theorem set2_at {w : World} {g o : Nat} {x0 x1 : Value} (u0 u1 : Value) (d0 : w.cell? ⟨g, o + 2 + 4, none⟩ = some x0) (d1 : w.cell? ⟨g, o + 2 + 5, none⟩ = some x1) :
    let W := (w.setCell ⟨g, o + 2 + 4, none⟩ u0).setCell ⟨g, o + 2 + 5, none⟩ u1
    Upd g (o + 6) (o + 8) w W ∧ W.cell? ⟨g, o + 2 + 4, none⟩ = some u0 ∧ W.cell? ⟨g, o + 2 + 5, none⟩ = some u1 := by
  refine ⟨((Upd.refl g (o + 6) (o + 8) w).set (o + 2 + 4) (by omega) (by omega) _).set (o + 2 + 5) (by omega) (by omega) _, ?_, ?_⟩
  · rw [off_ne (by omega)]; exact World.cell?_setCell_same _ _ _ d0
  · exact World.cell?_setCell_same _ _ _ (by rw [off_ne (by omega)]; exact d1)
theorem tw4 {K : Int} {t : Tw} {V : Value × Value} {W : World} {g o : Nat} (c0 : W.cell? ⟨g, o, none⟩ = some (.int .i64 K)) (c1 : W.cell? ⟨g, o + 1, none⟩ = some (.int .i64 (K + 1))) (c2 : W.cell? ⟨g, o + 2, none⟩ = some (.int .i64 (K + 1 + 1))) (c3 : W.cell? ⟨g, o + 2 + 1, none⟩ = some (.int .i64 (K + 1 + 1 + 1))) :
    ∀ r x, r < 4 → (twCells (markT K t) V)[r]? = some x → W.cell? ⟨g, o + r, none⟩ = some x
  | 0, _, _, hx => Option.some.inj hx ▸ c0
  | 1, _, _, hx => Option.some.inj hx ▸ c1
  | 2, _, _, hx => Option.some.inj hx ▸ c2
  | 3, _, _, hx => Option.some.inj hx ▸ c3
  | r + 4, _, h, _ => absurd h (by omega)
theorem tw2 {K M : Int} {t : Tw} {V : Value × Value} {W : World} {g o : Nat} (hM : K + 1 + 1 + 1 + 1 + 2 * (t.left.temps.length : Int) + 2 * (t.left.stack.length : Int) = M) (c0 : W.cell? ⟨g, o + 2 + 4, none⟩ = some (.int .i64 M)) (c1 : W.cell? ⟨g, o + 2 + 5, none⟩ = some (.bool ((M + 1) % 3 == 0))) :
    ∀ r x, 6 ≤ r → (twCells (markT K t) V)[r]? = some x → W.cell? ⟨g, o + r, none⟩ = some x := by
  subst hM
  intro r x hr hx
  have h8 : r < 8 := (List.getElem?_eq_some_iff.1 hx).1
  rcases (by omega : r = 6 ∨ r = 7) with rfl | rfl
  · exact Option.some.inj hx ▸ c0
  · exact Option.some.inj hx ▸ c1
set_option maxRecDepth 100000 in
set_option maxHeartbeats 4000000 in
theorem markTwinS_any (B : Nat) (ρ : Nat → Rl) (v : Value) (ts : List Tw) (V : Nat → Value × Value) (k : Int) (w : World) (h : TwO B ρ w v ts V) (hx : ts.length ≤ 1048576) (hsm : ∀ i, (hi : i < ts.length) → ts[i].small) (hk0 : 0 ≤ k) (hk1 : k ≤ 10995116277760) :
    Calls Tryz.prog 46 #[v, .int .i64 k] w fun e w' => e = .returned (.int .i64 (tAt k ts ts.length)) ∧ TwO B ρ w' v (markTs k ts) V ∧ Wr (fun q => TwR (ρ q)) w w' := by
  obtain ⟨a, c, rfl, hl⟩ := h.sh
  unfold maxLen at hl
  go_enter Tryz.func46, Tryz.ntmps46
  go_wp2
  go_loopg [1, 5] ts.length (fun g kv i wr => ∃ (j : Nat) (ys : List Tw), j ≤ ts.length ∧ g = ts.length - j ∧ i = .int .i64 j ∧ kv = .int .i64 (tAt k ts j) ∧ ys.length = ts.length ∧ TwO B ρ wr (.slice a ts.length c) ys V ∧
      (∀ q, (hq : q < ys.length) → (hq' : q < ts.length) → (q < j → ys[q] = markT (tAt k ts q) ts[q]) ∧ (j ≤ q → ys[q] = ts[q])) ∧ Wr (fun q => TwR (ρ q)) w wr)
  case atStart => exact ⟨0, ts, Nat.zero_le _, rfl, rfl, by rw [tAt_zero], rfl, h, fun q _ _ => ⟨fun hq => absurd hq (Nat.not_lt_zero _), fun _ => rfl⟩, Wr.refl _ _⟩
  case round =>
    obtain ⟨j, ys, hj, rfl, rfl, rfl, hyl, hown, hys, hg⟩ := hrel
    have HY : Hid (∀ q, (hq : q < ys.length) → (hq' : q < ts.length) → (q < j → ys[q] = markT (tAt k ts q) ts[q]) ∧ (j ≤ q → ys[q] = ts[q])) := hys
    clear hys
    by_cases hlt : j < ts.length
    · have hjy : j < ys.length := by omega
      obtain ⟨g1, o1, c1, e1, hrw, hρ⟩ := hown.row (by omega)
      obtain rfl : a = some ⟨g1, o1, none⟩ := by injection e1
      clear e1
      have hyj : ys[j] = ts[j] := (HY.out j hjy hlt).2 (Nat.le_refl _)
      have HO : Hid (TwO B ρ wr (.slice (some ⟨g1, o1, none⟩) ts.length c) ys V) := hown
      have hcs := hsm j hlt
      unfold Tw.small at hcs
      have hK := tAt_le k ts hsm j (by omega)
      have hKs : Hid (tAt k ts (j + 1) = tAt k ts j + spanT ts[j]) := tAt_succ k ts j hlt
      have HSM : Hid (∀ i, (hi : i < ts.length) → ts[i].small) := hsm
      have d0 : wr.cell? ⟨g1, o1 + j * 8, none⟩ = some (.int .i64 ys[j].page) := hrw.cell j hjy 0 _ rfl
      have d1 : wr.cell? ⟨g1, o1 + j * 8 + 1, none⟩ = some (.int .i64 ys[j].place) := hrw.cell j hjy 1 _ rfl
      have d2 : wr.cell? ⟨g1, o1 + j * 8 + 2, none⟩ = some (.int .i64 ys[j].left.m) := hrw.cell j hjy 2 _ rfl
      have d3 : wr.cell? ⟨g1, o1 + j * 8 + 2 + 1, none⟩ = some (.int .i64 ys[j].left.pc) := hrw.cell j hjy 3 _ rfl
      have e4 : wr.cell? ⟨g1, o1 + j * 8 + 2 + 2, none⟩ = some ((V j).1) := hrw.cell j hjy 4 _ rfl
      have e5 : wr.cell? ⟨g1, o1 + j * 8 + 2 + 3, none⟩ = some ((V j).2) := hrw.cell j hjy 5 _ rfl
      have e6 : wr.cell? ⟨g1, o1 + j * 8 + 2 + 4, none⟩ = some (.int .i64 ys[j].left.sender) := hrw.cell j hjy 6 _ rfl
      have e7 : wr.cell? ⟨g1, o1 + j * 8 + 2 + 5, none⟩ = some (.bool ys[j].left.dead) := hrw.cell j hjy 7 _ rfl
      have f0 : wr.frozen? ⟨g1, o1 + j * 8, none⟩ = false := hrw.fz j 0 hjy (by omega)
      have f1 : wr.frozen? ⟨g1, o1 + j * 8 + 1, none⟩ = false := hrw.fz j 1 hjy (by omega)
      have f2 : wr.frozen? ⟨g1, o1 + j * 8 + 2, none⟩ = false := hrw.fz j 2 hjy (by omega)
      have f3 : wr.frozen? ⟨g1, o1 + j * 8 + 2 + 1, none⟩ = false := hrw.fz j 3 hjy (by omega)
      have f6 : wr.frozen? ⟨g1, o1 + j * 8 + 2 + 4, none⟩ = false := hrw.fz j 6 hjy (by omega)
      have f7 : wr.frozen? ⟨g1, o1 + j * 8 + 2 + 5, none⟩ = false := hrw.fz j 7 hjy (by omega)
      have hg1 := hrw.hg
      have HG : Hid (Wr (fun q => TwR (ρ q)) w wr) := hg
      rw [hyj] at d0 d1 d2 d3 e6 e7
      generalize hKe : tAt k ts j = K at *
      have HKe : Hid (tAt k ts j = K) := hKe
      obtain ⟨t, ht⟩ : ∃ t, ts[j] = t := ⟨_, rfl⟩
      have HT : Hid (ts[j] = t) := ht
      rw [ht] at hcs d0 d1 d2 d3 e6 e7 hKs
      obtain ⟨s1, s2⟩ := hcs
      have HL : Hid (PairRow B wr (V j).1 t.left.temps ∧ PairRow B wr (V j).2 t.left.stack) := by have := hown.lists j hjy; rw [hyj, ht] at this; exact this
      have HLR : Hid ((∀ g, (V j).1.ownBlock = some g → ρ g = .temps j) ∧ ∀ g, (V j).2.ownBlock = some g → ρ g = .stack j) := hown.lr j hjy
      obtain ⟨a1, k1, hv1⟩ := HL.out.1.at.shape
      obtain ⟨a2, k2, hv2⟩ := HL.out.2.at.shape
      have HV1 : Hid ((V j).1 = .slice a1 t.left.temps.length k1) := hv1
      have HV2 : Hid ((V j).2 = .slice a2 t.left.stack.length k2) := hv2
      have hjz : (j : Int) < (ts.length : Int) := by omega
      have hw1 : IntKind.i64.wrap (K + 1) = K + 1 := by rw [IntKind.wrap_i64]; omega
      have hw2 : IntKind.i64.wrap (K + 1 + 1) = K + 1 + 1 := by rw [IntKind.wrap_i64]; omega
      have hw3 : IntKind.i64.wrap (K + 1 + 1 + 1) = K + 1 + 1 + 1 := by rw [IntKind.wrap_i64]; omega
      have hw4 : IntKind.i64.wrap (K + 1 + 1 + 1 + 1) = K + 1 + 1 + 1 + 1 := by rw [IntKind.wrap_i64]; omega
      clear hKe ht hyj hg hown hrw hsm hv1 hv2 h
      go_upto_region 12 with fail
      refine wp_gen (fun W => Upd g1 (o1 + j * 8) (o1 + j * 8 + 4) wr W ∧ W.cell? ⟨g1, o1 + j * 8, none⟩ = some (.int .i64 K) ∧ W.cell? ⟨g1, o1 + j * 8 + 1, none⟩ = some (.int .i64 (K + 1)) ∧ W.cell? ⟨g1, o1 + j * 8 + 2, none⟩ = some (.int .i64 (K + 1 + 1)) ∧ W.cell? ⟨g1, o1 + j * 8 + 2 + 1, none⟩ = some (.int .i64 (K + 1 + 1 + 1))) (set4_at _ _ _ _ d0 d1 d2 d3) ?_
      rintro W1 ⟨U1, m0, m1, m2, m3⟩
      have x1 : ∀ r x, r < 4 → (twCells (markT K t) (V j))[r]? = some x → W1.cell? ⟨g1, o1 + j * 8 + r, none⟩ = some x := tw4 m0 m1 m2 m3
      clear m0 m1 m2 m3
      have z1 := U1.wr.size
      have q4 : W1.cell? ⟨g1, o1 + j * 8 + 2 + 2, none⟩ = some (.slice a1 t.left.temps.length k1) := by rw [← HV1.out]; exact (U1.out _ (.inr (by omega))).trans e4
      have q5 : W1.cell? ⟨g1, o1 + j * 8 + 2 + 3, none⟩ = some (.slice a2 t.left.stack.length k2) := by rw [← HV2.out]; exact (U1.out _ (.inr (by omega))).trans e5
      have q6 : W1.cell? ⟨g1, o1 + j * 8 + 2 + 4, none⟩ = some (.int .i64 t.left.sender) := (U1.out _ (.inr (by omega))).trans e6
      have q7 : W1.cell? ⟨g1, o1 + j * 8 + 2 + 5, none⟩ = some (.bool t.left.dead) := (U1.out _ (.inr (by omega))).trans e7
      have n1 : (V j).1.ownBlock ≠ some g1 := fun e => by have := HLR.out.1 g1 e; rw [hρ] at this; cases this
      have n2 : (V j).2.ownBlock ≠ some g1 := fun e => by have := HLR.out.2 g1 e; rw [hρ] at this; cases this
      have n3 : ∀ q, (V j).1.ownBlock = some q → (V j).2.ownBlock ≠ some q := fun q e e2 => by have := HLR.out.1 q e; rw [HLR.out.2 q e2] at this; cases this
      have p1 := U1.wr.pair HL.out.1 (fun q e e2 => n1 (e2 ▸ e))
      have p2 := U1.wr.pair HL.out.2 (fun q e e2 => n2 (e2 ▸ e))
      have g6 : W1.frozen? ⟨g1, o1 + j * 8 + 2 + 4, none⟩ = false := (U1.wr.fr _ hg1).trans f6
      have g7 : W1.frozen? ⟨g1, o1 + j * 8 + 2 + 5, none⟩ = false := (U1.wr.fr _ hg1).trans f7
      have HU1 : Hid (Upd g1 (o1 + j * 8) (o1 + j * 8 + 4) wr W1 ∧ (∀ r x, r < 4 → (twCells (markT K t) (V j))[r]? = some x → W1.cell? ⟨g1, o1 + j * 8 + r, none⟩ = some x)) := ⟨U1, x1⟩
      rw [HV1.out] at p1 n1 n3
      rw [HV2.out] at p2 n2 n3
      clear U1 x1 d0 d1 d2 d3 e4 e5 e6 e7 f0 f1 f2 f3 f6 f7
      go_wp2_with fail
      refine (markValS_any B _ t.left.temps _ _ p1 (by omega) (by omega) (by omega)).mono ?_
      rintro e W2 ⟨rfl, p1', w2⟩
      have z2 := w2.size
      have p2' := w2.pair p2 (fun q e e2 => n3 q e2 e)
      have r5 := w2.cell q5 n1
      have r6 := w2.cell q6 n1
      have r7 := w2.cell q7 n1
      have h6 : W2.frozen? ⟨g1, o1 + j * 8 + 2 + 4, none⟩ = false := (w2.fr ⟨g1, o1 + j * 8 + 2 + 4, none⟩ (by show g1 < _; omega)).trans g6
      have h7 : W2.frozen? ⟨g1, o1 + j * 8 + 2 + 5, none⟩ = false := (w2.fr ⟨g1, o1 + j * 8 + 2 + 5, none⟩ (by show g1 < _; omega)).trans g7
      have HW2 : Hid (Wr (fun g => (V j).1.ownBlock = some g) W1 W2 ∧ PairRow B W2 (V j).1 (markV (K + 1 + 1 + 1 + 1) t.left.temps.length)) := by rw [HV1.out]; exact ⟨w2, p1'⟩
      clear w2 p1' p1 p2 q4 q5 q6 q7 g6 g7
      go_wp2_with fail
      refine (markValS_any B _ t.left.stack _ _ p2' (by omega) (by omega) (by omega)).mono ?_
      rintro e W3 ⟨rfl, p2'', w3⟩
      have z3 := w3.size
      have s6 := w3.cell r6 n2
      have s7 := w3.cell r7 n2
      have i6 : W3.frozen? ⟨g1, o1 + j * 8 + 2 + 4, none⟩ = false := (w3.fr ⟨g1, o1 + j * 8 + 2 + 4, none⟩ (by show g1 < _; omega)).trans h6
      have i7 : W3.frozen? ⟨g1, o1 + j * 8 + 2 + 5, none⟩ = false := (w3.fr ⟨g1, o1 + j * 8 + 2 + 5, none⟩ (by show g1 < _; omega)).trans h7
      have HW3 : Hid (Wr (fun g => (V j).2.ownBlock = some g) W2 W3 ∧ PairRow B W3 (V j).2 (markV (K + 1 + 1 + 1 + 1 + 2 * (t.left.temps.length : Int)) t.left.stack.length)) := by rw [HV2.out]; exact ⟨w3, p2''⟩
      clear w3 p2'' p2' r5 r6 r7 h6 h7
      obtain ⟨M, hM⟩ : ∃ M, K + 1 + 1 + 1 + 1 + 2 * (t.left.temps.length : Int) + 2 * (t.left.stack.length : Int) = M := ⟨_, rfl⟩
      have HM : Hid (K + 1 + 1 + 1 + 1 + 2 * (t.left.temps.length : Int) + 2 * (t.left.stack.length : Int) = M) := hM
      have hMb : 0 ≤ M ∧ M ≤ 100000000000000 := by omega
      rw [hM]
      clear hM
      have hw5 : IntKind.i64.wrap (M + 1) = M + 1 := by rw [IntKind.wrap_i64]; omega
      have hw6 : IntKind.i64.wrap (M + 1 + 1) = M + 1 + 1 := by rw [IntKind.wrap_i64]; omega
      have s7' : ∀ u, (W3.setCell ⟨g1, o1 + j * 8 + 2 + 4, none⟩ u).cell? ⟨g1, o1 + j * 8 + 2 + 5, none⟩ = some (.bool t.left.dead) := fun u => by rw [off_ne (by omega)]; exact s7
      go_upto_region 3 with fail
      refine wp_gen (fun W => Upd g1 (o1 + j * 8 + 6) (o1 + j * 8 + 8) W3 W ∧ W.cell? ⟨g1, o1 + j * 8 + 2 + 4, none⟩ = some (.int .i64 M) ∧ W.cell? ⟨g1, o1 + j * 8 + 2 + 5, none⟩ = some (.bool ((M + 1) % 3 == 0))) (set2_at _ _ s6 s7) ?_
      rintro W4 ⟨U4, m6, m7⟩
      have x4 : ∀ r x, 6 ≤ r → (twCells (markT K t) (V j))[r]? = some x → W4.cell? ⟨g1, o1 + j * 8 + r, none⟩ = some x := tw2 HM.out m6 m7
      clear m6 m7
      have HS : Hid (TwO B ρ W4 (.slice (some ⟨g1, o1, none⟩) ts.length c) (ys.set j (markT K t)) V ∧ Wr (fun q => TwR (ρ q)) wr W4) :=
        HO.out.step hjy (markT K t) (by show (markV _ _).length = _; rw [markV_length, (HY.out j hjy hlt).2 (Nat.le_refl _), HT.out]) (by show (markV _ _).length = _; rw [markV_length, (HY.out j hjy hlt).2 (Nat.le_refl _), HT.out]) HU1.out.1 HU1.out.2 HW2.out.1 HW2.out.2 HW3.out.1 HW3.out.2 U4 x4
      clear U4 x4 s6 s7 s7' i6 i7
      go_wp2
      go_roundg (ts.length - (j + 1))
      case measure => omega
      case rel => exact ⟨j + 1, ys.set j (markT K t), by omega, rfl, by go_num, by rw [hKs.out, ← HM.out]; unfold spanT; congr 1; omega, by rw [List.length_set]; exact hyl, HS.out.1, fun q h1 h2 => by
          rw [List.length_set] at h1
          refine ⟨fun hq => ?_, fun hq => ?_⟩
          · by_cases e : q = j
            · subst e; rw [List.getElem_set_self, HKe.out, HT.out]
            · rw [List.getElem_set_ne (fun x => e x.symm)]; exact (HY.out q h1 h2).1 (by omega)
          · rw [List.getElem_set_ne (by omega)]; exact (HY.out q h1 h2).2 (by omega), HG.out.trans HS.out.2⟩
    · obtain rfl : j = ts.length := by omega
      have hE : ys = markTs k ts := List.ext_getElem (by rw [markTs_length]; exact hyl) fun q h1 h2 => by rw [markTs_at, (HY.out q h1 (by omega)).1 (by omega)]
      subst hE
      have HZ : Hid (TwO B ρ wr (.slice a ts.length c) (markTs k ts) V ∧ Wr (fun q => TwR (ρ q)) w wr) := ⟨hown, hg⟩
      clear hown hg h
      go_wp2
      go_ret
      exact ⟨rfl, HZ.out⟩
set_option maxRecDepth 100000 in
set_option maxHeartbeats 4000000 in
theorem heldTwinS_any (v : Value) (ts : List Tw) (k : Int) (w : World) (h : TwinsAt w v (markTs k ts)) (hx : ts.length ≤ 1048576) (hsm : ∀ i, (hi : i < ts.length) → ts[i].small) (hk0 : 0 ≤ k) (hk1 : k ≤ 10995116277760) :
    Calls Tryz.prog 49 #[v, .int .i64 k] w fun e w' => e = .returned (.int .i64 (tAt k ts ts.length)) ∧ w' = w := by
  obtain ⟨a, c, rfl, hl, hc⟩ := h
  have hml := markTs_length k ts
  rw [hml] at hl ⊢
  unfold maxLen at hl
  go_enter Tryz.func49, Tryz.ntmps49
  go_wp2
  go_loopg [1, 5] ts.length (fun g kv i wr => ∃ j : Nat, j ≤ ts.length ∧ g = ts.length - j ∧ i = .int .i64 j ∧ kv = .int .i64 (tAt k ts j) ∧ wr = w)
  case atStart => exact ⟨0, Nat.zero_le _, rfl, rfl, by rw [tAt_zero], rfl⟩
  case round =>
    obtain ⟨j, hj, rfl, rfl, rfl, hw⟩ := hrel
    subst hw
    by_cases hlt : j < ts.length
    · obtain ⟨b, o, vt, vs, e1, hcl⟩ := hc j (by omega)
      subst e1
      rw [markTs_at] at hcl
      have hcl2 : TwAt wr b (o + j * 8) vt vs (markT (tAt k ts j) ts[j]) := hcl
      clear hcl hc
      have hcs := hsm j hlt
      unfold Tw.small at hcs
      obtain ⟨ht1, ht2⟩ := hcs
      have hK := tAt_le k ts hsm j (by omega)
      have hKs : Hid (tAt k ts (j + 1) = tAt k ts j + spanT ts[j]) := tAt_succ k ts j hlt
      generalize hKe : tAt k ts j = K at *
      obtain ⟨d0, d1, d2, c3, c4, c5, c6, c7, P1, P2⟩ := hcl2
      have d3 : wr.cell? ⟨b, o + j * 8 + 2 + 1, none⟩ = some (.int .i64 (markT K ts[j]).left.pc) := c3
      have d4 : wr.cell? ⟨b, o + j * 8 + 2 + 2, none⟩ = some vt := c4
      have d5 : wr.cell? ⟨b, o + j * 8 + 2 + 3, none⟩ = some vs := c5
      have d6 : wr.cell? ⟨b, o + j * 8 + 2 + 4, none⟩ = some (.int .i64 (markT K ts[j]).left.sender) := c6
      have d7 : wr.cell? ⟨b, o + j * 8 + 2 + 5, none⟩ = some (.bool (markT K ts[j]).left.dead) := c7
      obtain ⟨t, ht⟩ : ∃ t, ts[j] = t := ⟨_, rfl⟩
      rw [ht] at ht1 ht2 d0 d1 d2 d3 d6 d7 P1 P2 hKs
      clear c3 c4 c5 c6 c7 ht hKe hml
      dsimp only [markT] at d0 d1 d2 d3 d6 d7 P1 P2
      obtain ⟨a1, k1, hv1⟩ := P1.shape
      obtain ⟨a2, k2, hv2⟩ := P2.shape
      rw [markV_length] at hv1 hv2
      subst hv1 hv2
      have hjz : (j : Int) < (ts.length : Int) := by omega
      have hw1 : IntKind.i64.wrap (K + 1) = K + 1 := by rw [IntKind.wrap_i64]; omega
      have hw2 : IntKind.i64.wrap (K + 1 + 1) = K + 1 + 1 := by rw [IntKind.wrap_i64]; omega
      have hw3 : IntKind.i64.wrap (K + 1 + 1 + 1) = K + 1 + 1 + 1 := by rw [IntKind.wrap_i64]; omega
      have hw4 : IntKind.i64.wrap (K + 1 + 1 + 1 + 1) = K + 1 + 1 + 1 + 1 := by rw [IntKind.wrap_i64]; omega
      go_wp2_with fail
      refine (heldValS_any _ t.left.temps.length _ _ P1 (by omega) (by omega) (by omega)).mono ?_
      rintro e w3 ⟨rfl, hw3'⟩
      obtain rfl := hw3'.symm
      clear hw3'
      have hn1 : ¬ (K + 1 + 1 + 1 + 1 + 2 * (t.left.temps.length : Int) < 0) := by omega
      go_wp2_with fail
      refine (heldValS_any _ t.left.stack.length _ _ P2 (by omega) (by omega) (by omega)).mono ?_
      rintro e w4 ⟨rfl, hw4'⟩
      obtain rfl := hw4'.symm
      clear hw4'
      obtain ⟨M, hM⟩ : ∃ M, K + 1 + 1 + 1 + 1 + 2 * (t.left.temps.length : Int) + 2 * (t.left.stack.length : Int) = M := ⟨_, rfl⟩
      have HM : Hid (K + 1 + 1 + 1 + 1 + 2 * (t.left.temps.length : Int) + 2 * (t.left.stack.length : Int) = M) := hM
      have hMb : 0 ≤ M ∧ M ≤ 100000000000000 := by omega
      rw [hM] at d6 d7 ⊢
      clear hM P1 P2
      have hn2 : ¬ (M < 0) := by omega
      have hw5 : IntKind.i64.wrap (M + 1) = M + 1 := by rw [IntKind.wrap_i64]; omega
      have hw6 : IntKind.i64.wrap (M + 1 + 1) = M + 1 + 1 := by rw [IntKind.wrap_i64]; omega
      go_wp2_with fail
      go_roundg (ts.length - (j + 1))
      case measure => omega
      case rel => exact ⟨j + 1, by omega, rfl, by go_num, by rw [hKs.out, ← HM.out]; unfold spanT; congr 1; omega, rfl⟩
    · obtain rfl : j = ts.length := by omega
      go_wp2
      go_ret
      exact ⟨rfl, rfl⟩
end Go.Proofs.YtmifhlkcceafkaaGreat
