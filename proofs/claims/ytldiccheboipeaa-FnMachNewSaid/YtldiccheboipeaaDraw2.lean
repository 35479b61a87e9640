/-
  What draws, the small pieces: operations are gathered in rows of their own; l71Args, l71End, l71Look, l71Ops answer some operations (we need not know which), and but for the reader's place nothing that was there turns.
-/
import Derived.Test.YtldiccheboipeaaDraw1
import Derived.Test.YtldiccheboipeaaBase
import Derived.Deep.AppendLies
import Derived.Deep.RegionHeld3

namespace Go.Proofs.Ytldiccheboipeaa
open Go.RowKit
def flat (ops : List (Int × Int)) : List Value := ops.flatMap fun o => [.int .i64 o.1, .int .i64 o.2]
theorem flat_append (a b : List (Int × Int)) : flat (a ++ b) = flat a ++ flat b := by simp [flat]
theorem flat_length (a : List (Int × Int)) : (flat a).length = a.length * 2 := by
  induction a with
  | nil => rfl
  | cons x l ih => simp [flat] at ih ⊢; omega
theorem flat_at (a : List (Int × Int)) : ∀ (i : Nat) (h : i < a.length), (flat a)[i * 2]? = some (.int .i64 a[i].1) ∧ (flat a)[i * 2 + 1]? = some (.int .i64 a[i].2) := by
  induction a with
  | nil => intro i h; exact absurd h (Nat.not_lt_zero _)
  | cons x l ih =>
    intro i h
    cases i with
    | zero => exact ⟨rfl, rfl⟩
    | succ i =>
      have := ih i (by simpa using h)
      rw [show (i + 1) * 2 = i * 2 + 2 by omega]
      exact this
def OpsRow (B : Nat) (w : World) (v : Value) (ops : List (Int × Int)) : Prop := w.ownsRow B 175 2 v ops.length (flat ops)
theorem OpsRow.nil (B : Nat) (w : World) : OpsRow B w (.slice none 0 0) [] := World.ownsRow_nil _ _ _ _
theorem OpsRow.made (w : World) : OpsRow w.heap.size (w.alloc (.cells #[] 175)) (.slice (some ⟨w.heap.size, 0, none⟩) 0 0) [] :=
  ⟨rfl, .inr ⟨w.heap.size, 0, #[], rfl, Nat.le_refl _, Go.Deep.blk_alloc_new _ _, Nat.le_refl _, Nat.zero_le _, rfl, rfl⟩⟩
theorem OpsRow.mono {B B' : Nat} {w : World} {v : Value} {ops : List (Int × Int)} (h : OpsRow B w v ops) (hB : B' ≤ B) : OpsRow B' w v ops := by
  obtain ⟨h1, h2⟩ := h
  refine ⟨h1, ?_⟩
  rcases h2 with h2 | ⟨g, cap, cur, hv, hg, r⟩
  · exact .inl h2
  · exact .inr ⟨g, cap, cur, hv, by omega, r⟩
theorem OpsRow.kept {B : Nat} {w w' : World} {v : Value} {ops : List (Int × Int)} {row : Option Nat} (h : OpsRow B w v ops) (hg : w.grownBy w' row) (hne : ∀ g, row = some g → v.ownBlock ≠ some g) : OpsRow B w' v ops :=
  World.ownsRow.kept h hg (by
    cases row with
    | none => cases hv : v.ownBlock with
      | none => exact .inl rfl
      | some g => exact .inr (by simp)
    | some g => exact .inr (hne g rfl))
theorem OpsRow.lt {B : Nat} {w : World} {v : Value} {ops : List (Int × Int)} (h : OpsRow B w v ops) : ∀ k, v.ownBlock = some k → B ≤ k ∧ k < w.heap.size := World.ownsRow.lt h
theorem Rd.kept {w0 w w' : World} {b : Nat} {a : Option Addr} {len cap p0 p : Nat} {row : Option Nat} (h0 : Rd w0 b a len cap p0) (h : Rd w b a len cap p) (hsz : w0.heap.size ≤ w.heap.size) (k : w.grownBy w' row) (hrow : ∀ g, row = some g → w0.heap.size ≤ g) : Rd w' b a len cap p := by
  have hb : b < w0.heap.size := World.block_lt_of_cell? _ _ h0.s
  have ne : ∀ q, q < w0.heap.size → some q ≠ row := fun q hq e => by have := hrow q e.symm; omega
  refine ⟨k.cell h.s (ne b hb), k.cell h.p (ne b hb), ?_, h.l, fun i hi => ?_⟩
  · rw [World.frozen?_of_block (k.block b (by omega) (ne b hb))]; exact h.f
  · obtain ⟨b0, o0, x0, e0, _, hc0, _⟩ := h0.c i hi
    have hlt := World.block_lt_of_cell? _ _ hc0
    obtain ⟨b', o, x, e1, hb', hc, hx⟩ := h.c i hi
    have hbb : b' = b0 := by
      rw [e0] at e1
      injection e1 with e1
      injection e1 with e1 _
      exact e1.symm
    subst hbb
    exact ⟨b', o, x, e1, hb', k.cell hc (ne b' hlt), hx⟩
theorem grown_own {w0 w w' : World} {b : Nat} {row : Option Nat} (h : w0.grownBy w (some b)) (k : w.grownBy w' row) (hrow : ∀ g, row = some g → w0.heap.size ≤ g) : w0.grownBy w' (some b) :=
  ⟨k.os.trans h.os, k.tape.trans h.tape, k.output.trans h.output, Nat.le_trans h.size k.size, fun i hi hn => (k.block i (Nat.lt_of_lt_of_le hi h.size) (fun e => by have := hrow i e.symm; omega)).trans (h.block i hi hn)⟩
theorem grown_refl (w : World) (b : Option Nat) : w.grownBy w b := ⟨rfl, rfl, rfl, Nat.le_refl _, fun _ _ _ => rfl⟩
theorem grown_alloc {w w1 : World} {b : Option Nat} (h : w.grownBy w1 b) (o : Obj) : w.grownBy (w1.alloc o) b :=
  ⟨h.os, h.tape, h.output, by have := h.size; simp; omega, fun k hk hn => (Below.heap_alloc _ _ _ (by have := h.size; omega)).trans (h.block k hk hn)⟩
theorem grown_set (w : World) (g o : Nat) (v : Value) : w.grownBy (w.setCell ⟨g, o, none⟩ v) (some g) :=
  ⟨rfl, rfl, rfl, by simp [World.setCell], fun k _ hk => Below.heap_setCell _ _ _ _ (fun e => hk (by rw [e]))⟩
theorem after_set2 {w0 w : World} {b g : Nat} {a : Option Addr} {len cap p0 p : Nat} (h0 : Rd w0 b a len cap p0) (hr : Rd w b a len cap p) (hg : w0.grownBy w (some b)) (hgb : w0.heap.size ≤ g) (o1 o2 : Nat) (v1 v2 : Value) :
    Rd ((w.setCell ⟨g, o1, none⟩ v1).setCell ⟨g, o2, none⟩ v2) b a len cap p ∧ w0.grownBy ((w.setCell ⟨g, o1, none⟩ v1).setCell ⟨g, o2, none⟩ v2) (some b) := by
  have k1 := grown_set w g o1 v1
  have k2 := grown_set (w.setCell ⟨g, o1, none⟩ v1) g o2 v2
  have hrow : ∀ q, some g = some q → w0.heap.size ≤ q := fun q e => by cases e; exact hgb
  have r1 := Rd.kept h0 hr hg.size k1 hrow
  have g1 := grown_own hg k1 hrow
  exact ⟨Rd.kept h0 r1 g1.size k2 hrow, grown_own g1 k2 hrow⟩
theorem flat_one_cell (M : List (Int × Int)) : ∀ u ∈ flat M, u.oneCell' = true := by
  intro u hu
  simp only [flat, List.mem_flatMap] at hu
  obtain ⟨x, _, hx⟩ := hu
  simp at hx
  rcases hx with rfl | rfl <;> rfl
theorem append_ops {ops : Array Oper} {rest : List Oper} {o : Oper} {act : Act} {Q : Exit → Act → World → Prop} (w : World) (hgd : o.guard = none) (s x : Operand)
    (ho : o.op = .call { callee := .builtin .append, args := #[s, x], argTypes := #[81, 81] }) (B : Nat) (v : Value) (L : List (Int × Int)) (hs : act.eval s = v) (hown : OpsRow B w v L) (M : List (Int × Int)) (gb c : Nat)
    (hx : act.eval x = .slice (some ⟨gb, 0, none⟩) M.length c) (hnews : ∀ j u, (flat M)[j]? = some u → w.cell? ((⟨gb, 0, none⟩ : Addr).add j) = some u) (hM : 0 < M.length) (hL : L.length + M.length ≤ 1000) (hB : B ≤ w.heap.size)
    (h : ∀ g cap w', OpsRow B w' (.slice (some ⟨g, 0, none⟩) (L.length + M.length) cap) (L ++ M) → w.grownBy w' v.ownBlock → B ≤ g → g < w'.heap.size →
      wpList Try.prog ops Q rest (act.put o.dst (.slice (some ⟨g, 0, none⟩) (L.length + M.length) cap)) w') :
    wpList Try.prog ops Q (o :: rest) act w := by
  obtain ⟨i0, hi, hz0, hz1, hz2⟩ := info_parts Try.infoOp
  refine wpList_append_lies _ hgd s x 81 ho B 175 i0 _ 2 16 Try.underlying81 hi hz0 hz1 hz2 rfl (by omega) v L.length (flat L) hs hown ⟨gb, 0, none⟩ M.length c (flat M) hx (flat_length M)
    hnews (flat_one_cell M) hM (by unfold maxLen; omega) (by omega) hB w.heap.size rfl ?_
  intro g cap w' h1 h2 h3 h4
  refine h g cap w' ?_ h2 ?_ h4
  · unfold OpsRow
    rw [flat_append, List.length_append]
    exact h1
  · rcases h3 with h3 | h3
    · exact (hown.lt g h3).1
    · omega
theorem step_ops {ops : Array Oper} {o : Oper} {act : Act} {K : Act → World → Prop} {Q : Exit → Act → World → Prop} {E : Prop} (w : World) (hgd : o.guard = none) (s x : Operand)
    (ho : o.op = .call { callee := .builtin .append, args := #[s, x], argTypes := #[81, 81] }) (B : Nat) (v : Value) (L : List (Int × Int)) (hs : act.eval s = v) (hown : OpsRow B w v L) (M : List (Int × Int)) (gb c : Nat)
    (hx : act.eval x = .slice (some ⟨gb, 0, none⟩) M.length c) (hnews : ∀ j u, (flat M)[j]? = some u → w.cell? ((⟨gb, 0, none⟩ : Addr).add j) = some u) (hM : 0 < M.length) (hL : L.length + M.length ≤ 1000) (hB : B ≤ w.heap.size)
    (h : ∀ g cap w', OpsRow B w' (.slice (some ⟨g, 0, none⟩) (L.length + M.length) cap) (L ++ M) → w.grownBy w' v.ownBlock → B ≤ g → g < w'.heap.size →
      K (act.put o.dst (.slice (some ⟨g, 0, none⟩) (L.length + M.length) cap)) w') :
    if Region.wanted o (yielded ops act.tmps) = true then Oper.wp Try.prog o act w K Q else E := by
  obtain ⟨i0, hi, hz0, hz1, hz2⟩ := info_parts Try.infoOp
  refine step_append_lies _ hgd s x 81 ho B 175 i0 _ 2 16 Try.underlying81 hi hz0 hz1 hz2 rfl (by omega) v L.length (flat L) hs hown ⟨gb, 0, none⟩ M.length c (flat M) hx (flat_length M)
    hnews (flat_one_cell M) hM (by unfold maxLen; omega) (by omega) hB w.heap.size rfl ?_
  intro g cap w' h1 h2 h3 h4
  refine h g cap w' ?_ h2 ?_ h4
  · unfold OpsRow
    rw [flat_append, List.length_append]
    exact h1
  · rcases h3 with h3 | h3
    · exact (hown.lt g h3).1
    · omega
theorem append_op {ops : Array Oper} {rest : List Oper} {o : Oper} {act : Act} {Q : Exit → Act → World → Prop} (w : World) (hgd : o.guard = none) (s x : Operand)
    (ho : o.op = .call { callee := .builtin .append, args := #[s, x], argTypes := #[81, 81] }) (B : Nat) (v : Value) (L : List (Int × Int)) (hs : act.eval s = v) (hown : OpsRow B w v L) (k q : Int) (c : Nat)
    (hx : act.eval x = .slice (some ⟨w.heap.size, 0, none⟩) 1 c) (hL : L.length ≤ 900) (hB : B ≤ w.heap.size)
    (h : ∀ g cap w', OpsRow B w' (.slice (some ⟨g, 0, none⟩) (L.length + 1) cap) (L ++ [(k, q)]) → (w.alloc (.cells #[.int .i64 k, .int .i64 q] 175)).grownBy w' v.ownBlock → B ≤ g → g < w'.heap.size →
      wpList Try.prog ops Q rest (act.put o.dst (.slice (some ⟨g, 0, none⟩) (L.length + 1) cap)) w') :
    wpList Try.prog ops Q (o :: rest) act (w.alloc (.cells #[.int .i64 k, .int .i64 q] 175)) :=
  append_ops _ hgd s x ho B v L hs (World.ownsRow.alloc hown _) [(k, q)] w.heap.size c hx (World.news_of_block (Go.Deep.blk_alloc_new w _)) (by simp) (by simp; omega) (by simp; omega) h
theorem after_append {w0 w w' : World} {b : Nat} {a : Option Addr} {len cap p0 p : Nat} {v : Value} {L : List (Int × Int)} {o : Obj} (h0 : Rd w0 b a len cap p0) (hr : Rd w b a len cap p) (hg : w0.grownBy w (some b)) (hown : OpsRow w0.heap.size w v L)
    (hg2 : (w.alloc o).grownBy w' v.ownBlock) : Rd w' b a len cap p ∧ w0.grownBy w' (some b) := by
  have hrow : ∀ g, v.ownBlock = some g → w0.heap.size ≤ g := fun g e => (hown.lt g e).1
  have hA := World.grownBy_alloc w o v.ownBlock
  have hA2 : w.grownBy w' v.ownBlock := ⟨hg2.os.trans hA.os, hg2.tape.trans hA.tape, hg2.output.trans hA.output, Nat.le_trans hA.size hg2.size, fun i hi hn => (hg2.block i (Nat.lt_of_lt_of_le hi hA.size) hn).trans (hA.block i hi hn)⟩
  exact ⟨Rd.kept h0 hr hg.size hA2 hrow, grown_own hg hA2 hrow⟩
def Fit (nm : Nat) (t : Int) (o : Int × Int) : Prop := o.1 ≠ 7 ∧ o.1 ≠ 8 ∧ opOk nm 0 t o.1 o.2 = true
def Fits (nm : Nat) (t : Int) (l : List (Int × Int)) : Prop := ∀ o ∈ l, Fit nm t o
theorem Fits.nil {nm : Nat} {t : Int} : Fits nm t [] := fun _ h => by cases h
theorem Fits.append {nm : Nat} {t : Int} {l m : List (Int × Int)} (h : Fits nm t l) (k : Fits nm t m) : Fits nm t (l ++ m) := fun o e => by
  rcases List.mem_append.1 e with e | e
  · exact h o e
  · exact k o e
theorem Fits.one {nm : Nat} {t : Int} {o : Int × Int} (h : Fit nm t o) : Fits nm t [o] := fun q e => by
  have := List.mem_singleton.1 e
  rw [this]
  exact h
theorem Fits.snoc {nm : Nat} {t : Int} {l : List (Int × Int)} {o : Int × Int} (h : Fits nm t l) (k : Fit nm t o) : Fits nm t (l ++ [o]) := h.append (.one k)
theorem fit_num {nm : Nat} {t a : Int} (h0 : 0 ≤ a) (h1 : a ≤ 99) : Fit nm t (1, a) := ⟨by simp, by simp, by rw [opOk_1]; exact inR_true.2 ⟨h0, h1⟩⟩
theorem fit_temp {nm : Nat} {t a : Int} (h0 : 0 ≤ a) (h1 : a < t) : Fit nm t (2, a) := ⟨by simp, by simp, by rw [opOk_2]; exact inR_true.2 ⟨h0, by omega⟩⟩
theorem fit_set {nm : Nat} {t a : Int} (h0 : 0 ≤ a) (h1 : a < t) : Fit nm t (3, a) := ⟨by simp, by simp, by rw [opOk_3]; exact inR_true.2 ⟨h0, by omega⟩⟩
theorem fit_call {nm : Nat} {t a : Int} (h0 : 0 ≤ a) (h1 : a < (nm : Int)) : Fit nm t (9, a) := ⟨by simp, by simp, by rw [opOk_9]; exact inR_true.2 ⟨h0, by omega⟩⟩
theorem fit_peek {nm : Nat} {t a : Int} (h0 : 0 ≤ a) (h1 : a < 4) : Fit nm t (13, a) := ⟨by simp, by simp, by rw [opOk_13]; exact inR_true.2 ⟨h0, by omega⟩⟩
theorem fit_poke {nm : Nat} {t a : Int} (h0 : 0 ≤ a) (h1 : a < 4) : Fit nm t (14, a) := ⟨by simp, by simp, by rw [opOk_14]; exact inR_true.2 ⟨h0, by omega⟩⟩
theorem fit_4 {nm : Nat} {t : Int} : Fit nm t (4, 0) := ⟨by simp, by simp, rfl⟩
theorem fit_5 {nm : Nat} {t : Int} : Fit nm t (5, 0) := ⟨by simp, by simp, rfl⟩
theorem fit_6 {nm : Nat} {t : Int} : Fit nm t (6, 0) := ⟨by simp, by simp, rfl⟩
theorem fit_10 {nm : Nat} {t : Int} : Fit nm t (10, 0) := ⟨by simp, by simp, rfl⟩
theorem fit_11 {nm : Nat} {t : Int} : Fit nm t (11, 0) := ⟨by simp, by simp, rfl⟩
theorem fit_12 {nm : Nat} {t : Int} : Fit nm t (12, 0) := ⟨by simp, by simp, rfl⟩
theorem fit_15 {nm : Nat} {t : Int} : Fit nm t (15, 0) := ⟨by simp, by simp, rfl⟩
theorem fit_16 {nm : Nat} {t : Int} : Fit nm t (16, 0) := ⟨by simp, by simp, rfl⟩
theorem fit_17 {nm : Nat} {t : Int} : Fit nm t (17, 0) := ⟨by simp, by simp, rfl⟩
theorem fit_18 {nm : Nat} {t : Int} : Fit nm t (18, 0) := ⟨by simp, by simp, rfl⟩
set_option maxHeartbeats 1000000 in
theorem l71Args_fit (w : World) (b : Nat) (a : Option Addr) (len cap p : Nat) (n t : Int) (hr : Rd w b a len cap p) (hp : p + 4 ≤ 1000000) (hn0 : 0 ≤ n) (hn2 : n ≤ 2) (ht1 : 1 ≤ t) (ht4 : t ≤ 4) :
    Calls Try.prog 161 #[.pointer (some ⟨b, 0, none⟩), .int .i64 n, .int .i64 t] w fun e w' => ∃ v ops p', e = .returned v ∧ OpsRow w.heap.size w' v ops ∧ (ops.length : Int) = n ∧ p ≤ p' ∧ p' ≤ p + 4 ∧ Rd w' b a len cap p' ∧ w.grownBy w' (some b) ∧ ∀ nm, Fits nm t ops := by
  obtain ⟨m, rfl⟩ := Int.eq_ofNat_of_zero_le hn0
  have hbw : b < w.heap.size := World.block_lt_of_cell? _ _ hr.s
  go_enter Try.func161, Try.ntmps161
  go_wp2
  go_loopg [7, 8] m (fun g v i wr => ∃ (L : List (Int × Int)) (q : Nat), L.length ≤ m ∧ g = m - L.length ∧ i = .int .i64 L.length ∧ OpsRow w.heap.size wr v L ∧ p ≤ q ∧ q ≤ p + 2 * L.length ∧ Rd wr b a len cap q ∧ w.grownBy wr (some b) ∧ Hid (∀ nm, Fits nm t L))
  case atStart => exact ⟨[], p, Nat.zero_le _, rfl, rfl, OpsRow.made w, Nat.le_refl _, by simp, Rd.kept hr hr (Nat.le_refl _) (World.grownBy_alloc w _ none) (fun g e => by cases e), grown_alloc (grown_refl _ _) _, fun _ => Fits.nil⟩
  case round =>
    obtain ⟨L, q, hk, rfl, rfl, hrow, hpq, hqp, hrd, hgr, HF⟩ := hrel
    by_cases hlt : L.length < m
    · have hkz : (L.length : Int) < (m : Int) := by omega
      have hsz := hgr.size
      go_wp2_with fail
      refine (pick_any _ _ _ _ _ _ _ hrd (by omega) (by omega) (by omega)).mono ?_
      rintro e w1 ⟨x, rfl, hx0, hx1, hrd1, hg1⟩
      have hrow1 : OpsRow w.heap.size w1 _ L := hrow.kept hg1 (fun g e h => by cases e; have := hrow.lt _ h; omega)
      have hgr1 := grown_trans hgr hg1
      have hsz1 := hgr1.size
      clear hrow hrd hgr hg1
      by_cases h0 : x = 0
      · subst h0
        go_wp2_with (at_builtin; refine append_op _ (by rfl) _ _ (by rfl) _ _ L (by rfl) hrow1 _ _ _ (by rfl) (by omega) (by omega) ?_; intro g cp w2 hrow2 hg2 hBg hglt)
        obtain ⟨hrd2, hgr2⟩ := after_append hr hrd1 hgr1 hrow1 hg2
        clear hg2 hBg hglt hrow1 hrd1 hgr1
        go_wp2
        go_roundg (m - (L.length + 1))
        case measure => omega
        case rel => exact ⟨_, q + 1, by simp; omega, by simp, by simp, hrow2, by omega, by simp; omega, hrd2, hgr2, fun nm => (HF.out nm).snoc fit_11⟩
      have e0 : (x == 0) = false := beq_eq_false_iff_ne.2 h0
      by_cases h1 : x = 1
      · subst h1
        go_wp2_with fail
        refine (pick_any _ _ _ _ _ _ _ hrd1 (by omega) (by omega) (by omega)).mono ?_
        rintro e w3 ⟨y, rfl, hy0, hy1, hrd3, hg3⟩
        have hrow3 : OpsRow w.heap.size w3 _ L := hrow1.kept hg3 (fun g e h => by cases e; have := hrow1.lt _ h; omega)
        have hgr3 := grown_trans hgr1 hg3
        have hsz3 := hgr3.size
        clear hrow1 hrd1 hgr1 hg3 hsz1
        go_wp2_with (at_builtin; refine append_op _ (by rfl) _ _ (by rfl) _ _ L (by rfl) hrow3 _ _ _ (by rfl) (by omega) (by omega) ?_; intro g cp w2 hrow2 hg2 hBg hglt)
        obtain ⟨hrd2, hgr2⟩ := after_append hr hrd3 hgr3 hrow3 hg2
        clear hg2 hBg hglt hrow3 hrd3 hgr3
        go_wp2
        go_roundg (m - (L.length + 1))
        case measure => omega
        case rel => exact ⟨_, q + 1 + 1, by simp; omega, by simp, by simp, hrow2, by omega, by simp; omega, hrd2, hgr2, fun nm => (HF.out nm).snoc (fit_num hy0 (by omega))⟩
      · have e1 : (x == 1) = false := beq_eq_false_iff_ne.2 h1
        go_wp2_with fail
        refine (pick_any _ _ _ _ _ _ _ hrd1 (by omega) (by omega) (by omega)).mono ?_
        rintro e w3 ⟨y, rfl, hy0, hy1, hrd3, hg3⟩
        have hrow3 : OpsRow w.heap.size w3 _ L := hrow1.kept hg3 (fun g e h => by cases e; have := hrow1.lt _ h; omega)
        have hgr3 := grown_trans hgr1 hg3
        have hsz3 := hgr3.size
        clear hrow1 hrd1 hgr1 hg3 hsz1
        go_wp2_with (at_builtin; refine append_op _ (by rfl) _ _ (by rfl) _ _ L (by rfl) hrow3 _ _ _ (by rfl) (by omega) (by omega) ?_; intro g cp w2 hrow2 hg2 hBg hglt)
        obtain ⟨hrd2, hgr2⟩ := after_append hr hrd3 hgr3 hrow3 hg2
        clear hg2 hBg hglt hrow3 hrd3 hgr3
        go_wp2
        go_roundg (m - (L.length + 1))
        case measure => omega
        case rel => exact ⟨_, q + 1 + 1, by simp; omega, by simp, by simp, hrow2, by omega, by simp; omega, hrd2, hgr2, fun nm => (HF.out nm).snoc (fit_temp hy0 hy1)⟩
    · obtain rfl : m = L.length := by omega
      go_wp2
      go_ret
      exact ⟨_, L, q, rfl, hrow, rfl, hpq, by omega, hrd, hgr, HF.out⟩
set_option maxHeartbeats 1000000 in
theorem l71End_fit (w : World) (b : Nat) (a : Option Addr) (len cap p : Nat) (t : Int) (hr : Rd w b a len cap p) (hp : p + 2 ≤ 1000000) (ht1 : 1 ≤ t) (ht4 : t ≤ 4) :
    Calls Try.prog 160 #[.pointer (some ⟨b, 0, none⟩), .int .i64 t] w fun e w' => ∃ (k q : Int) (p' : Nat), e = .returned (.agg #[.int .i64 k, .int .i64 q]) ∧ p ≤ p' ∧ p' ≤ p + 2 ∧ Rd w' b a len cap p' ∧ w.grownBy w' (some b) ∧ ∀ nm, Fit nm t (k, q) := by
  have hbw : b < w.heap.size := World.block_lt_of_cell? _ _ hr.s
  have hrA := Rd.kept hr hr (Nat.le_refl _) (World.grownBy_alloc w (.cells #[.int .i64 0, .int .i64 0] 175) none) (fun g e => by cases e)
  have hgA := grown_alloc (grown_refl w (some b)) (.cells #[.int .i64 0, .int .i64 0] 175)
  have c0 : (w.alloc (.cells #[.int .i64 0, .int .i64 0] 175)).rowIs w.heap.size 175 2 (fun _ => .int .i64 0) := ⟨_, Go.Deep.blk_alloc_new _ _, rfl, fun i hi => by match i, hi with | 0, _ => rfl | 1, _ => rfl⟩
  go_enter Try.func160, Try.ntmps160
  go_wp2_with fail
  generalize w.alloc (.cells #[.int .i64 0, .int .i64 0] 175) = W0 at *
  have hsz := hgA.size
  refine (pick_any _ _ _ _ _ _ _ hrA (by omega) (by omega) (by omega)).mono ?_
  rintro e w1 ⟨x, rfl, hx0, hx1, hrd1, hg1⟩
  have c1 : w1.rowIs w.heap.size 175 2 (fun _ => .int .i64 0) := c0.of_block (hg1.block _ c0.lt (by simp; omega))
  have hgr1 := grown_trans hgA hg1
  clear hrA hgA hg1 c0
  by_cases h0 : x = 0
  · subst h0
    obtain ⟨f0, f1, c0', c1'⟩ : w1.frozen? ⟨w.heap.size, 0, none⟩ = false ∧ w1.frozen? ⟨w.heap.size, 1, none⟩ = false ∧ w1.cell? ⟨w.heap.size, 0, none⟩ = some (.int .i64 0) ∧ w1.cell? ⟨w.heap.size, 1, none⟩ = some (.int .i64 0) := ⟨c1.frozen 0, c1.frozen 1, c1.cell (by omega), c1.cell (by omega)⟩
    have R := fun v1 v2 => after_set2 hr hrd1 hgr1 (Nat.le_refl _) 0 1 v1 v2
    clear c1 hrd1 hgr1
    go_wp2
    exact bodyPost_ret (v := .agg #[.int .i64 4, .int .i64 0]) (by simp [results, Try.results160, go_sem, c0', c1']) rfl ⟨_, _, _, rfl, by omega, by omega, (R _ _).1, (R _ _).2, fun _ => fit_4⟩
  have e0 : (x == 0) = false := beq_eq_false_iff_ne.2 h0
  by_cases h1 : x = 1
  · subst h1
    obtain ⟨f0, f1, c0', c1'⟩ : w1.frozen? ⟨w.heap.size, 0, none⟩ = false ∧ w1.frozen? ⟨w.heap.size, 1, none⟩ = false ∧ w1.cell? ⟨w.heap.size, 0, none⟩ = some (.int .i64 0) ∧ w1.cell? ⟨w.heap.size, 1, none⟩ = some (.int .i64 0) := ⟨c1.frozen 0, c1.frozen 1, c1.cell (by omega), c1.cell (by omega)⟩
    have R := fun v1 v2 => after_set2 hr hrd1 hgr1 (Nat.le_refl _) 0 1 v1 v2
    clear c1 hrd1 hgr1
    go_wp2
    exact bodyPost_ret (v := .agg #[.int .i64 16, .int .i64 0]) (by simp [results, Try.results160, go_sem, c0', c1']) rfl ⟨_, _, _, rfl, by omega, by omega, (R _ _).1, (R _ _).2, fun _ => fit_16⟩
  have e1 : (x == 1) = false := beq_eq_false_iff_ne.2 h1
  by_cases h2 : x = 2
  · subst h2
    obtain ⟨f0, f1, c0', c1'⟩ : w1.frozen? ⟨w.heap.size, 0, none⟩ = false ∧ w1.frozen? ⟨w.heap.size, 1, none⟩ = false ∧ w1.cell? ⟨w.heap.size, 0, none⟩ = some (.int .i64 0) ∧ w1.cell? ⟨w.heap.size, 1, none⟩ = some (.int .i64 0) := ⟨c1.frozen 0, c1.frozen 1, c1.cell (by omega), c1.cell (by omega)⟩
    have R := fun v1 v2 => after_set2 hr hrd1 hgr1 (Nat.le_refl _) 0 1 v1 v2
    clear c1 hrd1 hgr1
    go_wp2
    exact bodyPost_ret (v := .agg #[.int .i64 16, .int .i64 0]) (by simp [results, Try.results160, go_sem, c0', c1']) rfl ⟨_, _, _, rfl, by omega, by omega, (R _ _).1, (R _ _).2, fun _ => fit_16⟩
  have e2 : (x == 2) = false := beq_eq_false_iff_ne.2 h2
  have hsz1 := hgr1.size
  go_wp2_with fail
  refine (pick_any _ _ _ _ _ _ _ hrd1 (by omega) (by omega) (by omega)).mono ?_
  rintro e w3 ⟨y, rfl, hy0, hy1, hrd3, hg3⟩
  have c3 : w3.rowIs w.heap.size 175 2 (fun _ => .int .i64 0) := c1.of_block (hg3.block _ c1.lt (by simp; omega))
  have hgr3 := grown_trans hgr1 hg3
  clear hrd1 hgr1 hg3 c1
  obtain ⟨f0, f1, c0', c1'⟩ : w3.frozen? ⟨w.heap.size, 0, none⟩ = false ∧ w3.frozen? ⟨w.heap.size, 1, none⟩ = false ∧ w3.cell? ⟨w.heap.size, 0, none⟩ = some (.int .i64 0) ∧ w3.cell? ⟨w.heap.size, 1, none⟩ = some (.int .i64 0) := ⟨c3.frozen 0, c3.frozen 1, c3.cell (by omega), c3.cell (by omega)⟩
  have R := fun v1 v2 => after_set2 hr hrd3 hgr3 (Nat.le_refl _) 0 1 v1 v2
  clear c3 hrd3 hgr3
  go_wp2
  exact bodyPost_ret (v := .agg #[.int .i64 3, .int .i64 y]) (by simp [results, Try.results160, go_sem, c0', c1']) rfl ⟨_, _, _, rfl, by omega, by omega, (R _ _).1, (R _ _).2, fun _ => fit_set hy0 hy1⟩
end Go.Proofs.Ytldiccheboipeaa
