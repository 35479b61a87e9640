/-
  markMach and heldMach of what MachNew answers.
-/
import Derived.Test.YtldiccheboipeaaMMark
import Derived.Deep.DeepCutAuto
namespace Go.Proofs.Ytldiccheboipeaa
open Go.RowKit

/-- the cells of pages with such bases; the first has the frames vf, the others none -/
def rowF (f : Nat → Int) (vf : Value) (n : Nat) : List Value := (List.range n).flatMap fun i => [.int .i64 (f i), if i = 0 then vf else .slice none 0 0]

theorem rowF_succ (f : Nat → Int) (vf : Value) (n : Nat) : rowF f vf (n + 1) = rowF f vf n ++ [.int .i64 (f n), if n = 0 then vf else .slice none 0 0] := by simp [rowF, List.range_succ]
theorem rowF_length (f : Nat → Int) (vf : Value) : ∀ n, (rowF f vf n).length = n * 2
  | 0 => rfl
  | n + 1 => by rw [rowF_succ, List.length_append, rowF_length f vf n]; simp; omega
theorem rowF_at (f : Nat → Int) (vf : Value) : ∀ (n i : Nat), i < n → (rowF f vf n)[i * 2]? = some (.int .i64 (f i)) ∧ (rowF f vf n)[i * 2 + 1]? = some (if i = 0 then vf else .slice none 0 0)
  | 0, i, h => absurd h (Nat.not_lt_zero _)
  | n + 1, i, h => by
    rw [rowF_succ]
    by_cases e : i = n
    · subst e
      have hl := rowF_length f vf i
      refine ⟨?_, ?_⟩
      · rw [List.getElem?_append_right (by omega), hl]; simp
      · rw [List.getElem?_append_right (by omega), hl]; simp
    · have ih := rowF_at f vf n i (by omega)
      have hl := rowF_length f vf n
      rw [List.getElem?_append_left (by omega), List.getElem?_append_left (by omega)]
      exact ih
theorem two_ext {a b : List Value} {n : Nat} (ha : a.length = n * 2) (hb : b.length = n * 2) (h : ∀ i, i < n → a[i * 2]? = b[i * 2]? ∧ a[i * 2 + 1]? = b[i * 2 + 1]?) : a = b := by
  refine List.ext_getElem? fun j => ?_
  by_cases hj : j < n * 2
  · have e : j = (j / 2) * 2 ∨ j = (j / 2) * 2 + 1 := by omega
    rcases e with e | e
    · rw [e]; exact (h (j / 2) (by omega)).1
    · rw [e]; exact (h (j / 2) (by omega)).2
  · rw [List.getElem?_eq_none (by omega), List.getElem?_eq_none (by omega)]
theorem rowF_set (f : Nat → Int) (vf : Value) (n i : Nat) (h : i < n) (x : Int) : (rowF f vf n).set (i * 2) (.int .i64 x) = rowF (fun j => if j = i then x else f j) vf n := by
  refine two_ext (n := n) (by rw [List.length_set, rowF_length]) (rowF_length _ _ _) fun j hj => ?_
  obtain ⟨a1, a2⟩ := rowF_at f vf n j hj
  obtain ⟨b1, b2⟩ := rowF_at (fun j => if j = i then x else f j) vf n j hj
  have hl := rowF_length f vf n
  refine ⟨?_, ?_⟩
  · rw [b1]
    by_cases e : j = i
    · subst e; simp [hl, h]
    · rw [List.getElem?_set_ne (by omega), a1, if_neg e]
  · rw [b2, List.getElem?_set_ne (by omega), a2]
theorem rowF_congr {f g : Nat → Int} {vf : Value} {n : Nat} (h : ∀ i, i < n → f i = g i) : rowF f vf n = rowF g vf n :=
  two_ext (n := n) (rowF_length _ _ _) (rowF_length _ _ _) fun j hj => by
    obtain ⟨a1, a2⟩ := rowF_at f vf n j hj
    obtain ⟨b1, b2⟩ := rowF_at g vf n j hj
    rw [a1, a2, b1, b2, h j hj]
    exact ⟨rfl, rfl⟩
theorem rowE_length (vf : Value) : ∀ n, (rowE vf n).length = n * 2
  | 0 => rfl
  | n + 1 => by rw [rowE_succ, List.length_append, rowE_length vf n]; simp; omega
theorem rowF_new (vf : Value) (n : Nat) (h : 1 ≤ n) : .int .i64 (-1) :: vf :: rowE (.slice none 0 0) (n - 1) = rowF (fun _ => -1) vf n := by
  refine two_ext (n := n) (by simp [rowE_length]; omega) (rowF_length _ _ _) fun j hj => ?_
  obtain ⟨b1, b2⟩ := rowF_at (fun _ => -1) vf n j hj
  cases j with
  | zero => exact ⟨b1.symm, b2.symm⟩
  | succ j =>
    have a := rowE_at (.slice none 0 0) (n - 1) j (by omega)
    rw [b1, b2, show (j + 1) * 2 = j * 2 + 1 + 1 by omega]
    exact ⟨a.1, a.2⟩

/-- the mark of the base of page i, of a program that begins with t temps -/
def mkB (t i : Nat) : Int := if i = 0 then 1 else 5 + 2 * (t : Int) + ((i : Int) - 1)
theorem mkB_bound (t i : Nat) (ht : t ≤ 1000) (hi : i ≤ 1000) : 1 ≤ mkB t i ∧ mkB t i ≤ 10000 := by
  unfold mkB
  split <;> omega

/-- what was marked -/
structure MkM (w : World) (n t : Nat) (gp op cp gf : Nat) (vt vs vo : Value) : Prop where
  p : ∀ i, i < n → w.cell? ⟨gp, op + i * 2, none⟩ = some (.int .i64 (mkB t i)) ∧ w.cell? ⟨gp, op + i * 2 + 1, none⟩ = some (if i = 0 then .slice (some ⟨gf, 0, none⟩) 1 1 else .slice none 0 0)
  f0 : w.cell? ⟨gf, 0, none⟩ = some (.int .i64 2)
  f1 : w.cell? ⟨gf, 1, none⟩ = some (.int .i64 3)
  f2 : w.cell? ⟨gf, 2, none⟩ = some (.int .i64 4)
  f3 : w.cell? ⟨gf, 3, none⟩ = some vt
  f4 : w.cell? ⟨gf, 4, none⟩ = some vs
  l : OpsAt w vt (markV 5 t)
  s : OpsAt w vs []
  o : IntsAt w vo (markI (mkB t n) n)

theorem MkM.below {w w' : World} {n t gp op cp gf : Nat} {vt vs vo : Value} (h : MkM w n t gp op cp gf vt vs vo) (hb : Below w.heap.size w w') : MkM w' n t gp op cp gf vt vs vo :=
  ⟨fun i hi => ⟨cell_below hb (h.p i hi).1, cell_below hb (h.p i hi).2⟩, cell_below hb h.f0, cell_below hb h.f1, cell_below hb h.f2, cell_below hb h.f3, cell_below hb h.f4, h.l.below hb, h.s.below hb, h.o.below hb⟩

/-- the blocks of such a machine -/
def NewBlocks (gp gf : Nat) (vt vo : Value) (g : Nat) : Prop := g = gp ∨ g = gf ∨ vt.ownBlock = some g ∨ vo.ownBlock = some g

set_option maxRecDepth 100000 in
set_option maxHeartbeats 4000000 in
theorem markPageS_new (B n t gp op cp gf : Nat) (vt : Value) (w : World) (hp : CRow B 2 w (.slice (some ⟨gp, op, none⟩) n cp) n (rowF (fun _ => -1) (.slice (some ⟨gf, 0, none⟩) 1 1) n)) (hf : Bx w gf 53 [.int .i64 0, .int .i64 0, .int .i64 (-1), vt, .slice none 0 0]) (ht : PairRow B w vt (List.replicate t (0, 0)))
    (a1 : gp ≠ gf) (a3 : vt.ownBlock ≠ some gp) (a5 : vt.ownBlock ≠ some gf) (hn1 : 1 ≤ n) (hn : n ≤ 4) (htl : t ≤ 1000) :
    Calls Try.prog 66 #[.slice (some ⟨gp, op, none⟩) n cp, .int .i64 1] w fun e w' => e = .returned (.int .i64 (mkB t n)) ∧ CRow B 2 w' (.slice (some ⟨gp, op, none⟩) n cp) n (rowF (mkB t) (.slice (some ⟨gf, 0, none⟩) 1 1) n) ∧ Bx w' gf 53 [.int .i64 2, .int .i64 3, .int .i64 4, vt, .slice none 0 0] ∧ PairRow B w' vt (markV 5 t) ∧
      Wr (fun g => g = gp ∨ g = gf ∨ vt.ownBlock = some g) w w' := by
  obtain ⟨at', ct, hvt, _⟩ := ht.slice
  rw [List.length_replicate] at hvt
  subst hvt
  go_enter Try.func66, Try.ntmps66
  go_wp2
  go_loopg [1, 5] n (fun d kv i wr => ∃ j : Nat, j ≤ n ∧ d = n - j ∧ i = .int .i64 (j : Int) ∧ kv = .int .i64 (mkB t j) ∧ CRow B 2 wr (.slice (some ⟨gp, op, none⟩) n cp) n (rowF (fun q => if q < j then mkB t q else -1) (.slice (some ⟨gf, 0, none⟩) 1 1) n) ∧
      (j = 0 → Bx wr gf 53 [.int .i64 0, .int .i64 0, .int .i64 (-1), .slice at' t ct, .slice none 0 0] ∧ PairRow B wr (.slice at' t ct) (List.replicate t (0, 0))) ∧ (0 < j → Bx wr gf 53 [.int .i64 2, .int .i64 3, .int .i64 4, .slice at' t ct, .slice none 0 0] ∧ PairRow B wr (.slice at' t ct) (markV 5 t)) ∧
      Wr (fun g => g = gp ∨ g = gf ∨ (Value.slice at' t ct).ownBlock = some g) w wr)
  case atStart => exact ⟨0, Nat.zero_le _, rfl, rfl, rfl, by simpa using hp, fun _ => ⟨hf, ht⟩, fun h => absurd h (Nat.lt_irrefl _), Wr.refl _ _⟩
  case round =>
    clear hp hf ht
    obtain ⟨j, hj, rfl, rfl, rfl, hp, h0, h1, hw⟩ := hrel
    have H0 : Hid (j = 0 → Bx wr gf 53 [.int .i64 0, .int .i64 0, .int .i64 (-1), .slice at' t ct, .slice none 0 0] ∧ PairRow B wr (.slice at' t ct) (List.replicate t (0, 0))) := h0
    have H1 : Hid (0 < j → Bx wr gf 53 [.int .i64 2, .int .i64 3, .int .i64 4, .slice at' t ct, .slice none 0 0] ∧ PairRow B wr (.slice at' t ct) (markV 5 t)) := h1
    clear h0 h1
    by_cases hlt : j < n
    · obtain ⟨e0, e1⟩ := rowF_at (fun q => if q < j then mkB t q else -1) (.slice (some ⟨gf, 0, none⟩) 1 1) n j hlt
      obtain ⟨c0, f0⟩ := hp.cell e0
      obtain ⟨c1, f1⟩ := hp.cell e1
      have hset := hp.set (j * 2) (.int .i64 (mkB t j))
      rw [rowF_set _ _ _ _ hlt, rowF_congr (g := fun q => if q < j + 1 then mkB t q else -1) (fun q hq => by
        by_cases e : q = j
        · subst e; simp
        · by_cases h2 : q < j
          · rw [if_neg e, if_pos h2, if_pos (by omega)]
          · rw [if_neg e, if_neg h2, if_neg (by omega)])] at hset
      have hjz : (j : Int) < (n : Int) := by omega
      have hmb := mkB_bound t j htl (by omega)
      obtain ⟨K, hK⟩ : ∃ K, mkB t j = K := ⟨_, rfl⟩
      have HK : Hid (mkB t j = K) := hK
      rw [hK] at hset hmb
      have hwk : IntKind.i64.wrap (K + 1) = K + 1 := by rw [IntKind.wrap_i64]; omega
      rw [hK]
      clear hK e0 e1
      rw [← Nat.add_assoc] at c1 f1
      go_upto_region 6 with fail
      refine wp_gen (fun W => CRow B 2 W (.slice (some ⟨gp, op, none⟩) n cp) n (rowF (fun q => if q < j + 1 then mkB t q else -1) (.slice (some ⟨gf, 0, none⟩) 1 1) n) ∧ Wr (fun g => g = gp) wr W) ⟨hset, (Wr.refl1 gp wr).set1 (o := op + j * 2) _⟩ ?_
      rintro W1 ⟨hp1, hw1⟩
      clear hset hp c0 f0 c1 f1
      obtain ⟨_, e1⟩ := rowF_at (fun q => if q < j + 1 then mkB t q else -1) (.slice (some ⟨gf, 0, none⟩) 1 1) n j hlt
      obtain ⟨c1, _⟩ := hp1.cell e1
      rw [← Nat.add_assoc] at c1
      have HP1 : Hid (CRow B 2 W1 (.slice (some ⟨gp, op, none⟩) n cp) n (rowF (fun q => if q < j + 1 then mkB t q else -1) (.slice (some ⟨gf, 0, none⟩) 1 1) n)) := hp1
      clear hp1 e1
      have HW0 : Hid (Wr (fun g => g = gp ∨ g = gf ∨ (Value.slice at' t ct).ownBlock = some g) w W1) := hw.trans (hw1.mono fun g e => .inl e)
      by_cases hj0 : j = 0
      · subst hj0
        obtain ⟨hf, ht⟩ := H0.out rfl
        have hf1 := hw1.bx hf (fun e => a1 e.symm)
        have ht1 := hw1.pair ht (fun g e e2 => a3 (e2 ▸ e))
        have hK1 : K = 1 := by rw [← HK.out]; rfl
        subst hK1
        rw [if_pos rfl] at c1
        have HC := markFrameS_one B gf _ (.slice none 0 0) 0 0 (-1) _ [] (1 + 1) W1 hf1 ht1 (PairRow.nil _ _) a5 (fun e => by simp [Value.ownBlock] at e) (fun g _ e => by simp [Value.ownBlock] at e) (by simp; omega) (by simp) (by omega) (by omega)
        simp only [List.length_replicate, List.length_nil] at HC
        clear hw hw1 hf ht H0 H1 hf1 ht1
        go_wp2_with fail
        refine HC.mono ?_
        rintro e W2 ⟨rfl, b2, t2, _, w2⟩
        have hp2 := HP1.out.wr w2 (fun g e e2 => by
          have h9 : gp = g := by injection e
          subst h9
          rcases e2 with e2 | e2 | e2
          · exact a1 e2
          · exact a3 e2
          · simp [Value.ownBlock] at e2)
        have hW2 := HW0.out.trans (w2.mono (T' := fun g => g = gp ∨ g = gf ∨ (Value.slice at' t ct).ownBlock = some g) fun g e => by
          rcases e with e | e | e
          · exact .inr (.inl e)
          · exact .inr (.inr e)
          · simp [Value.ownBlock] at e)
        have HR : Hid (CRow B 2 W2 (.slice (some ⟨gp, op, none⟩) n cp) n (rowF (fun q => if q < 0 + 1 then mkB t q else -1) (.slice (some ⟨gf, 0, none⟩) 1 1) n) ∧ (Bx W2 gf 53 [.int .i64 2, .int .i64 3, .int .i64 4, .slice at' t ct, .slice none 0 0] ∧ PairRow B W2 (.slice at' t ct) (markV 5 t)) ∧ Wr (fun g => g = gp ∨ g = gf ∨ (Value.slice at' t ct).ownBlock = some g) w W2) := ⟨hp2, ⟨b2, t2⟩, hW2⟩
        clear hp2 b2 t2 hW2 HC w2 HP1 HW0 c1
        go_wp2
        go_roundg (n - (0 + 1))
        case measure => omega
        case rel => exact ⟨0 + 1, by omega, rfl, by go_num, by unfold mkB; simp, HR.out.1, fun h => by omega, fun _ => HR.out.2.1, HR.out.2.2⟩
      · obtain ⟨hf, ht⟩ := H1.out (by omega)
        have hf1 := hw1.bx hf (fun e => a1 e.symm)
        have ht1 := hw1.pair ht (fun g e e2 => a3 (e2 ▸ e))
        rw [if_neg hj0] at c1
        have HR : Hid (CRow B 2 W1 (.slice (some ⟨gp, op, none⟩) n cp) n (rowF (fun q => if q < j + 1 then mkB t q else -1) (.slice (some ⟨gf, 0, none⟩) 1 1) n) ∧ (Bx W1 gf 53 [.int .i64 2, .int .i64 3, .int .i64 4, .slice at' t ct, .slice none 0 0] ∧ PairRow B W1 (.slice at' t ct) (markV 5 t)) ∧ Wr (fun g => g = gp ∨ g = gf ∨ (Value.slice at' t ct).ownBlock = some g) w W1) := ⟨HP1.out, ⟨hf1, ht1⟩, HW0.out⟩
        have HK2 : Hid (K + 1 = mkB t (j + 1)) := by show _ = _; rw [← HK.out]; unfold mkB; rw [if_neg hj0, if_neg (by omega)]; omega
        clear hw hw1 hf ht H0 H1 hf1 ht1 HP1 HW0
        go_wp2_with fail
        refine (markFrameS_nil _ _ _ _).mono ?_
        rintro e W2 ⟨rfl, hw2⟩
        obtain rfl := hw2.symm
        clear hw2
        go_wp2
        go_roundg (n - (j + 1))
        case measure => omega
        case rel => exact ⟨j + 1, by omega, rfl, by go_num, by rw [HK2.out], HR.out.1, fun h => by omega, fun _ => HR.out.2.1, HR.out.2.2⟩
    · obtain rfl : j = n := by omega
      have hjz : ¬ ((j : Int) < (j : Int)) := by omega
      obtain ⟨hf, ht⟩ := H1.out (by omega)
      rw [rowF_congr (g := mkB t) (fun q hq => by simp [hq])] at hp
      go_wp2
      go_ret
      exact ⟨rfl, hp, hf, ht, hw⟩

set_option maxRecDepth 100000 in
set_option maxHeartbeats 4000000 in
theorem heldPageS_new (n t gp op cp gf : Nat) (vt vs vo : Value) (w : World) (h : MkM w n t gp op cp gf vt vs vo) (hn1 : 1 ≤ n) (hn : n ≤ 4) (htl : t ≤ 1000) :
    Calls Try.prog 70 #[.slice (some ⟨gp, op, none⟩) n cp, .int .i64 1] w fun e w' => e = .returned (.int .i64 (mkB t n)) ∧ w' = w := by
  go_enter Try.func70, Try.ntmps70
  go_wp2
  go_loopg [1, 5] n (fun d kv i wr => ∃ j : Nat, j ≤ n ∧ d = n - j ∧ i = .int .i64 (j : Int) ∧ kv = .int .i64 (mkB t j) ∧ wr = w)
  case atStart => exact ⟨0, Nat.zero_le _, rfl, rfl, rfl, rfl⟩
  case round =>
    obtain ⟨j, hj, rfl, rfl, rfl, hw⟩ := hrel
    subst hw
    have HM : Hid (MkM wr n t gp op cp gf vt vs vo) := h
    clear h
    by_cases hlt : j < n
    · obtain ⟨c0, c1⟩ := HM.out.p j hlt
      have hjz : (j : Int) < (n : Int) := by omega
      have hmb := mkB_bound t j htl (by omega)
      obtain ⟨K, hK⟩ : ∃ K, mkB t j = K := ⟨_, rfl⟩
      have HK : Hid (mkB t j = K) := hK
      rw [hK] at hmb c0 ⊢
      have hwk : IntKind.i64.wrap (K + 1) = K + 1 := by rw [IntKind.wrap_i64]; omega
      clear hK
      by_cases hj0 : j = 0
      · subst hj0
        rw [if_pos rfl] at c1
        have hK1 : K = 1 := by rw [← HK.out]; rfl
        subst hK1
        simp only [Nat.zero_mul, Nat.add_zero] at c0 c1
        have HC := heldFrameS_one gf vt vs t 0 (1 + 1) wr (by have := HM.out.f0; simpa using this) (by have := HM.out.f1; simpa using this) (by have := HM.out.f2; simpa using this) HM.out.f3 HM.out.f4 (by have := HM.out.l; simpa using this) HM.out.s (by omega) (by omega) (by omega) (by omega)
        go_wp2_with fail
        refine HC.mono ?_
        rintro e W2 ⟨rfl, hw2⟩
        obtain rfl := hw2.symm
        clear hw2 HC
        have hnn : ¬ (1 + 1 + 3 + 2 * (t : Int) + 2 * ((0 : Nat) : Int) < 0) := by omega
        go_wp2
        go_roundg (n - (0 + 1))
        case measure => omega
        case rel => exact ⟨0 + 1, by omega, rfl, by go_num, by unfold mkB; simp, rfl⟩
      · rw [if_neg hj0] at c1
        have HK2 : Hid (K + 1 = mkB t (j + 1)) := by show _ = _; rw [← HK.out]; unfold mkB; rw [if_neg hj0, if_neg (by omega)]; omega
        go_wp2_with fail
        refine (heldFrameS_nil _ _ _ _).mono ?_
        rintro e W2 ⟨rfl, hw2⟩
        obtain rfl := hw2.symm
        clear hw2
        have hnn : ¬ (K + 1 < 0) := by omega
        go_wp2
        go_roundg (n - (j + 1))
        case measure => omega
        case rel => exact ⟨j + 1, by omega, rfl, by go_num, by rw [HK2.out], rfl⟩
    · obtain rfl : j = n := by omega
      have hjz : ¬ ((j : Int) < (j : Int)) := by omega
      go_wp2
      go_ret
      exact ⟨rfl, rfl⟩

set_option maxRecDepth 100000 in
set_option maxHeartbeats 4000000 in
theorem markMach_new (B n t gp op cp gf : Nat) (vt vo : Value) (c : Int) (w : World) (h : NewM B w n t (.slice (some ⟨gp, op, none⟩) n cp) vo gf vt (.slice none 0 0)) (hn1 : 1 ≤ n) (hn : n ≤ 4) (htl : t ≤ 1000) :
    Calls Try.prog 25 #[.agg #[.int .i64 c, .slice (some ⟨gp, op, none⟩) n cp, vo, .int .i64 0, .slice none 0 0, .int .i64 1, .slice none 0 0, .int .i64 0], .int .i64 1] w fun e w' => e = .returned (.int .i64 (mkB t n + (n : Int))) ∧ MkM w' n t gp op cp gf vt (.slice none 0 0) vo ∧ Wr (NewBlocks gp gf vt vo) w w' := by
  obtain ⟨ao, co, hvo, _⟩ := h.o.slice
  rw [ordTo_length] at hvo
  subst hvo
  have hgp : gp ≠ gf := fun e => h.a1 (by rw [e]; rfl)
  have hol := ordTo_length n n
  have hmb := mkB_bound t n htl (by omega)
  have hlp : gp < w.heap.size := (h.p.lt gp rfl).2
  go_enter Try.func25, Try.ntmps25
  go_upto_region 1 with fail
  refine wp_gen (fun W => Below w.heap.size w W ∧ Bx W w.heap.size 33 [.int .i64 c, .slice (some ⟨gp, op, none⟩) n cp, .slice ao n co, .int .i64 0, .slice none 0 0, .int .i64 1, .slice none 0 0, .int .i64 0]) ⟨(Below.refl _ _).alloc (Nat.le_refl _) _, Bx.new w _ _⟩ ?_
  rintro W0 ⟨B0, x0⟩
  have hp := h.p.below B0
  rw [rowF_new _ _ hn1] at hp
  have hf := h.f.below B0
  have ht := h.t.below B0
  have ho := h.o.below B0
  have hfl : gf < w.heap.size := h.f.lt
  have htl' : ∀ g, vt.ownBlock = some g → g < w.heap.size := fun g e => (h.t.lt g e).2
  have hol' : ∀ g, (Value.slice ao n co).ownBlock = some g → g < w.heap.size := fun g e => (h.o.lt g e).2
  have a2 := h.a2
  have a3 := h.a3
  have a4 := h.a4
  have a5 := h.a5
  have a6 := h.a6
  have HB0 : Hid (Wr (NewBlocks gp gf vt (.slice ao n co)) w W0) := Wr.of_below B0
  clear h B0
  have p1 := x0.cell 1 rfl
  go_wp2_with fail
  refine (markPageS_new B n t gp op cp gf vt _ hp hf ht hgp (a3 gp rfl) a5 hn1 hn htl).mono ?_
  rintro e W1 ⟨rfl, hp1, hf1, ht1, w1⟩
  have x1 := w1.bx x0 (fun e => by
    rcases e with e | e | e
    · omega
    · omega
    · have := htl' _ e; omega)
  have ho1 := w1.ints ho (fun g e e2 => by
    rcases e2 with e2 | e2 | e2
    · subst e2; exact a2 g rfl e
    · subst e2; exact a4 e
    · exact a6 g e e2)
  have HB1 : Hid (Wr (NewBlocks gp gf vt (.slice ao n co)) w W1) := HB0.out.trans (w1.mono fun g e => by
    rcases e with e | e | e
    · exact .inl e
    · exact .inr (.inl e)
    · exact .inr (.inr (.inl e)))
  clear w1 x0 hp hf ht ho HB0 p1
  have p2 := x1.cell 2 rfl
  go_wp2_with fail
  refine (markIntS_any B _ (ordTo n n) _ _ ho1 (by omega) (by omega) (by omega)).mono ?_
  rintro e W2 ⟨rfl, ho2, w2⟩
  have x2 := w2.bx x1 (fun e => by have := hol' _ e; omega)
  have hp2 := hp1.wr w2 (fun g e e2 => a2 g e e2)
  have hf2 := w2.bx hf1 a4
  have ht2 := w2.pair ht1 (fun g e e2 => a6 g e2 e)
  have HB2 : Hid (Wr (NewBlocks gp gf vt (.slice ao n co)) w W2) := HB1.out.trans (w2.mono fun g e => .inr (.inr (.inr e)))
  clear w2 x1 hp1 hf1 ht1 ho1 HB1 p2
  rw [hol] at ho2 ⊢
  have HO2 : Hid (IntsAt W2 (.slice ao n co) (markI (mkB t n) n)) := ho2.at
  obtain ⟨K, hK⟩ : ∃ K, mkB t n = K := ⟨_, rfl⟩
  have HK : Hid (mkB t n = K) := hK
  rw [hK] at hmb ⊢
  clear hK ho2
  have p4 := x2.cell 4 rfl
  go_wp2_with fail
  refine (markTwinS_nil _ _ _ _).mono ?_
  rintro e W3 ⟨rfl, hw3⟩
  obtain rfl := hw3.symm
  clear hw3
  have p6 := x2.cell 6 rfl
  go_wp2_with fail
  refine (markValS_any 0 _ [] _ _ (PairRow.nil _ _) (by simp) (by omega) (by omega)).mono ?_
  rintro e W4 ⟨rfl, _, w4⟩
  have HB4 : Hid (Wr (NewBlocks gp gf vt (.slice ao n co)) w W4) := HB2.out.trans (w4.mono fun g e => by simp [Value.ownBlock] at e)
  have hp4 := hp2.wr w4 (fun g _ e => by simp [Value.ownBlock] at e)
  have hf4 := w4.bx hf2 (fun e => by simp [Value.ownBlock] at e)
  have ht4 := w4.pair ht2 (fun g _ e => by simp [Value.ownBlock] at e)
  have HO4 : Hid (IntsAt W4 (.slice ao n co) (markI (mkB t n) n)) := by
    obtain ⟨a, cp', hv, hl, hx⟩ := HO2.out
    refine ⟨a, cp', hv, hl, fun i hi => ?_⟩
    obtain ⟨b, o, ha, h0⟩ := hx i hi
    exact ⟨b, o, ha, w4.cell h0 (fun e => by simp [Value.ownBlock] at e)⟩
  have HM : Hid (MkM W4 n t gp op cp gf vt (.slice none 0 0) (.slice ao n co)) := ⟨fun i hi => by
    obtain ⟨e0, e1⟩ := rowF_at (mkB t) (.slice (some ⟨gf, 0, none⟩) 1 1) n i hi
    exact ⟨(hp4.cell e0).1, by have := (hp4.cell e1).1; rwa [← Nat.add_assoc] at this⟩, hf4.cell 0 rfl, hf4.cell 1 rfl, hf4.cell 2 rfl, hf4.cell 3 rfl, hf4.cell 4 rfl, ht4.at, (PairRow.nil 0 W4).at, HO4.out⟩
  clear hp4 hf4 ht4 w4 hp2 hf2 ht2 HO2 HO4 x2
  go_wp2
  go_ret
  exact ⟨by rw [HK.out]; simp, HM.out, HB4.out⟩

set_option maxRecDepth 100000 in
set_option maxHeartbeats 4000000 in
theorem heldMach_new (n t gp op cp gf : Nat) (vt vo : Value) (c : Int) (w : World) (h : MkM w n t gp op cp gf vt (.slice none 0 0) vo) (hn1 : 1 ≤ n) (hn : n ≤ 4) (htl : t ≤ 1000) :
    Calls Try.prog 26 #[.agg #[.int .i64 c, .slice (some ⟨gp, op, none⟩) n cp, vo, .int .i64 0, .slice none 0 0, .int .i64 1, .slice none 0 0, .int .i64 0], .int .i64 1] w fun e w' => e = .returned (.int .i64 (mkB t n + (n : Int))) ∧ Below w.heap.size w w' := by
  obtain ⟨ao, co, hvo⟩ := h.o.shape
  rw [markI_length] at hvo
  subst hvo
  have hmb := mkB_bound t n htl (by omega)
  go_enter Try.func26, Try.ntmps26
  go_upto_region 1 with fail
  refine wp_gen (fun W => Below w.heap.size w W ∧ Bx W w.heap.size 33 [.int .i64 c, .slice (some ⟨gp, op, none⟩) n cp, .slice ao n co, .int .i64 0, .slice none 0 0, .int .i64 1, .slice none 0 0, .int .i64 0]) ⟨(Below.refl _ _).alloc (Nat.le_refl _) _, Bx.new w _ _⟩ ?_
  rintro W0 ⟨B0, x0⟩
  have HM : Hid (MkM W0 n t gp op cp gf vt (.slice none 0 0) (.slice ao n co)) := h.below B0
  clear h
  obtain ⟨⟨_, p1, p2, _, p4, _, p6, _⟩, _⟩ := bx8 x0
  go_wp2_with fail
  refine (heldPageS_new n t gp op cp gf vt _ _ _ HM.out hn1 hn htl).mono ?_
  rintro e W1 ⟨rfl, hw⟩
  obtain rfl := hw.symm
  clear hw
  have HO := HM.out.o
  obtain ⟨K, hK⟩ : ∃ K, mkB t n = K := ⟨_, rfl⟩
  rw [hK] at hmb HO
  have HK : Hid (mkB t n = K) := hK
  rw [hK]
  clear hK
  have hn0 : ¬ (K < 0) := by omega
  go_wp2_with fail
  refine (heldIntS_any _ n _ _ HO (by omega) (by omega) (by omega)).mono ?_
  rintro e W2 ⟨rfl, hw⟩
  obtain rfl := hw.symm
  clear hw
  have hn0' : ¬ (K + (n : Int) < 0) := by omega
  go_wp2_with fail
  refine (heldTwinS_nil _ _ _ _).mono ?_
  rintro e W3 ⟨rfl, hw⟩
  obtain rfl := hw.symm
  clear hw
  go_wp2_with fail
  refine (heldValS_any _ 0 _ _ (PairRow.nil 0 _).at (by omega) (by omega) (by omega)).mono ?_
  rintro e W4 ⟨rfl, hw⟩
  obtain rfl := hw.symm
  clear hw
  have hn0'' : ¬ (K + (n : Int) + 2 * ((0 : Nat) : Int) < 0) := by omega
  go_wp2
  go_ret
  exact ⟨by rw [HK.out]; simp, B0⟩

end Go.Proofs.Ytldiccheboipeaa
