/-
  What the exact laws write into pages that are handed out, and read there again: markPageS and heldPageS, of pages of which the first has one frame at most, the others none. Each block has a role.
-/
import Derived.Test.YtmifhlkcceafkaaGreatMMarkT

namespace Go.Proofs.YtmifhlkcceafkaaGreat
open Go.RowKit
def spanF : List Fr → Int
  | [] => 0
  | x :: _ => 3 + 2 * (x.temps.length : Int) + 2 * (x.stack.length : Int)
def markFr (k : Int) (x : Fr) : Fr := ⟨k, k + 1, k + 1 + 1, markV (k + 1 + 1 + 1) x.temps.length, markV (k + 1 + 1 + 1 + 2 * (x.temps.length : Int)) x.stack.length⟩
def frCells (x : Fr) (t s : Value) : List Value := [.int .i64 x.m, .int .i64 x.pc, .int .i64 x.twin, t, s]
structure FRow (B : Nat) (w : World) (g off : Nat) (x : Fr) (t s : Value) : Prop where
  hB : B ≤ g
  hg : g < w.heap.size
  cell : ∀ r y, (frCells x t s)[r]? = some y → w.cell? ⟨g, off + r, none⟩ = some y
  fz : ∀ r, r < 5 → w.frozen? ⟨g, off + r, none⟩ = false
def FrO (B : Nat) (ρ : Nat → Rl) (w : World) (v : Value) (fs : List Fr) (t s : Value) : Prop :=
  (fs = [] ∧ ∃ a c, v = .slice a 0 c) ∨ ∃ x g off c, fs = [x] ∧ v = .slice (some ⟨g, off, none⟩) 1 c ∧ FRow B w g off x t s ∧ ρ g = .frames 0 ∧ PairRow B w t x.temps ∧ PairRow B w s x.stack ∧ (∀ g, t.ownBlock = some g → ρ g = .body 0) ∧ ∀ g, s.ownBlock = some g → ρ g = .body 1
def FrR (r : Rl) : Prop := r = .frames 0 ∨ r = .body 0 ∨ r = .body 1
def PgR (r : Rl) : Prop := r = .pages ∨ FrR r
theorem FrO.shape {B : Nat} {ρ : Nat → Rl} {w : World} {v : Value} {fs : List Fr} {t s : Value} (h : FrO B ρ w v fs t s) : ∃ a c, v = .slice a fs.length c := by
  rcases h with ⟨rfl, a, c, rfl⟩ | ⟨x, g, off, c, rfl, rfl, _⟩
  · exact ⟨a, c, rfl⟩
  · exact ⟨_, c, rfl⟩
theorem FrO.kept {B : Nat} {ρ : Nat → Rl} {w w' : World} {v : Value} {fs : List Fr} {t s : Value} (h : FrO B ρ w v fs t s) (hs : w.heap.size ≤ w'.heap.size) (hb : ∀ g, FrR (ρ g) → B ≤ g → g < w.heap.size → w'.heap[g]? = w.heap[g]?) : FrO B ρ w' v fs t s := by
  rcases h with h | ⟨x, g, off, c, e1, e2, hr, hρ, ht, hst, rt, rs⟩
  · exact .inl h
  · have hbg := hb g (.inl hρ) hr.hB hr.hg
    exact .inr ⟨x, g, off, c, e1, e2, ⟨hr.hB, Nat.lt_of_lt_of_le hr.hg hs, fun r y hy => (World.cell?_of_block (a := ⟨g, _, none⟩) hbg).trans (hr.cell r y hy), fun r h5 => (World.frozen?_of_block (a := ⟨g, _, none⟩) hbg).trans (hr.fz r h5)⟩, hρ,
      ht.kept hs fun q e => hb q (.inr (.inl (rt q e))) (ht.lt q e).1 (ht.lt q e).2, hst.kept hs fun q e => hb q (.inr (.inr (rs q e))) (hst.lt q e).1 (hst.lt q e).2, rt, rs⟩
theorem FrO.at {B : Nat} {ρ : Nat → Rl} {w : World} {v : Value} {fs : List Fr} {t s : Value} (h : FrO B ρ w v fs t s) : FramesAt w v fs := by
  rcases h with ⟨rfl, a, c, rfl⟩ | ⟨x, g, off, c, rfl, rfl, hr, hρ, ht, hst, _⟩
  · exact ⟨a, c, rfl, Nat.zero_le _, fun _ hi => absurd hi (Nat.not_lt_zero _)⟩
  · refine ⟨_, c, rfl, (show 1 ≤ maxLen by unfold maxLen; decide), fun i hi => ?_⟩
    obtain rfl : i = 0 := by simpa using hi
    have cl := hr.cell
    exact ⟨g, off, t, s, rfl, by simpa using cl 0 _ rfl, by simpa using cl 1 _ rfl, by simpa using cl 2 _ rfl, by simpa using cl 3 _ rfl, by simpa using cl 4 _ rfl, ht.at, hst.at⟩
set_option maxRecDepth 100000 in
set_option maxHeartbeats 4000000 in
theorem markFrameS_o (B : Nat) (ρ : Nat → Rl) (v : Value) (fs : List Fr) (t s : Value) (k : Int) (w : World) (h : FrO B ρ w v fs t s) (hsm : ∀ x ∈ fs, x.temps.length ≤ 1000000 ∧ x.stack.length ≤ 1000000) (hk0 : 0 ≤ k) (hk1 : k ≤ 1000000000) :
    Calls Tryz.prog 83 #[v, .int .i64 k] w fun e w' => e = .returned (.int .i64 (k + spanF fs)) ∧ FrO B ρ w' v (fs.map (markFr k)) t s ∧ Wr (fun q => FrR (ρ q)) w w' := by
  rcases h with ⟨rfl, a, c, rfl⟩ | ⟨x, g, off, c, rfl, rfl, hr, hρ, ht, hst, rt, rs⟩
  · refine (markFrameS_nil a c k w).mono ?_
    rintro e w' ⟨rfl, rfl⟩
    exact ⟨by simp [spanF], .inl ⟨rfl, a, c, rfl⟩, Wr.refl _ _⟩
  obtain ⟨hx1, hx2⟩ := hsm x (List.mem_singleton.2 rfl)
  obtain ⟨at', ct, hvt, _⟩ := ht.slice
  obtain ⟨as', cs, hvs, _⟩ := hst.slice
  have n1 : t.ownBlock ≠ some g := fun e => by have := rt g e; rw [hρ] at this; cases this
  have n2 : s.ownBlock ≠ some g := fun e => by have := rs g e; rw [hρ] at this; cases this
  have n3 : ∀ q, t.ownBlock = some q → s.ownBlock ≠ some q := fun q e e2 => by have := rt q e; rw [rs q e2] at this; cases this
  have HR : Hid (FRow B w g off x t s ∧ ρ g = .frames 0 ∧ PairRow B w t x.temps ∧ PairRow B w s x.stack ∧ (∀ g, t.ownBlock = some g → ρ g = .body 0) ∧ ∀ g, s.ownBlock = some g → ρ g = .body 1) := ⟨hr, hρ, ht, hst, rt, rs⟩
  have c0 : w.cell? ⟨g, off, none⟩ = some (.int .i64 x.m) := hr.cell 0 _ rfl
  have c1 : w.cell? ⟨g, off + 1, none⟩ = some (.int .i64 x.pc) := hr.cell 1 _ rfl
  have c2 : w.cell? ⟨g, off + 2, none⟩ = some (.int .i64 x.twin) := hr.cell 2 _ rfl
  have c3 : w.cell? ⟨g, off + 3, none⟩ = some t := hr.cell 3 _ rfl
  have c4 : w.cell? ⟨g, off + 4, none⟩ = some s := hr.cell 4 _ rfl
  have f0 : w.frozen? ⟨g, off, none⟩ = false := hr.fz 0 (by omega)
  have f1 : w.frozen? ⟨g, off + 1, none⟩ = false := hr.fz 1 (by omega)
  have f2 : w.frozen? ⟨g, off + 2, none⟩ = false := hr.fz 2 (by omega)
  have hgl := hr.hg
  subst hvt hvs
  clear hr hρ ht hst rt rs hsm
  go_enter Tryz.func83, Tryz.ntmps83
  go_wp2
  go_loopg [1, 5] 1 (fun d kv i wr => (d = 1 ∧ kv = .int .i64 k ∧ i = .int .i64 0 ∧ wr = w) ∨ (d = 0 ∧ kv = .int .i64 (k + (3 + 2 * (x.temps.length : Int) + 2 * (x.stack.length : Int))) ∧ i = .int .i64 1 ∧
      FrO B ρ wr (.slice (some ⟨g, off, none⟩) 1 c) [markFr k x] (.slice at' x.temps.length ct) (.slice as' x.stack.length cs) ∧ Wr (fun q => FrR (ρ q)) w wr))
  case atStart => exact .inl ⟨rfl, rfl, rfl, rfl⟩
  case round =>
    rcases hrel with ⟨rfl, rfl, rfl, hw⟩ | ⟨rfl, rfl, rfl, h1, h2⟩
    · subst hw
      have hw1 : IntKind.i64.wrap (k + 1) = k + 1 := by rw [IntKind.wrap_i64]; omega
      have hw2 : IntKind.i64.wrap (k + 1 + 1) = k + 1 + 1 := by rw [IntKind.wrap_i64]; omega
      have hw3 : IntKind.i64.wrap (k + 1 + 1 + 1) = k + 1 + 1 + 1 := by rw [IntKind.wrap_i64]; omega
      go_upto_region 10 with fail
      refine wp_gen (fun W => Upd g off (off + 3) wr W ∧ W.cell? ⟨g, off, none⟩ = some (.int .i64 k) ∧ W.cell? ⟨g, off + 1, none⟩ = some (.int .i64 (k + 1)) ∧ W.cell? ⟨g, off + 2, none⟩ = some (.int .i64 (k + 1 + 1))) ⟨(((Upd.refl g off (off + 3) wr).set off (by omega) (by omega) _).set (off + 1) (by omega) (by omega) _).set (off + 2) (by omega) (by omega) _, ?_, ?_, ?_⟩ ?_
      · rw [off_ne (by omega), off_ne (by omega)]; exact World.cell?_setCell_same _ _ _ c0
      · rw [off_ne (by omega)]; exact World.cell?_setCell_same _ _ _ (by rw [off_ne (by omega)]; exact c1)
      · exact World.cell?_setCell_same _ _ _ (by rw [off_ne (by omega), off_ne (by omega)]; exact c2)
      rintro W1 ⟨U1, x0, x1, x2⟩
      have x3 : W1.cell? ⟨g, off + 3, none⟩ = some (.slice at' x.temps.length ct) := (U1.out _ (.inr (by omega))).trans c3
      have x4 : W1.cell? ⟨g, off + 4, none⟩ = some (.slice as' x.stack.length cs) := (U1.out _ (.inr (by omega))).trans c4
      have z1 := U1.wr.size
      have t1 := U1.wr.pair HR.out.2.2.1 (fun q e e2 => n1 (e2 ▸ e))
      have s1 := U1.wr.pair HR.out.2.2.2.1 (fun q e e2 => n2 (e2 ▸ e))
      clear c0 c1 c2 c3 c4 f0 f1 f2
      go_wp2_with fail
      refine (markValS_any B _ x.temps _ _ t1 (by omega) (by omega) (by omega)).mono ?_
      rintro e W2 ⟨rfl, t2, w2⟩
      have z2 := w2.size
      have y4 : W2.cell? ⟨g, off + 4, none⟩ = some (.slice as' x.stack.length cs) := w2.cell x4 n1
      have s2 := w2.pair s1 (fun q e e2 => n3 q e2 e)
      clear x3
      go_wp2_with fail
      refine (markValS_any B _ x.stack _ _ s2 (by omega) (by omega) (by omega)).mono ?_
      rintro e W3 ⟨rfl, s3, w3⟩
      have z3 := w3.size
      have hC : ∀ o, W3.cell? ⟨g, o, none⟩ = W1.cell? ⟨g, o, none⟩ := fun o => (World.cell?_of_block (a := ⟨g, o, none⟩) (w3.block g (by omega) n2)).trans (World.cell?_of_block (a := ⟨g, o, none⟩) (w2.block g (by omega) n1))
      have HF : Hid (FrO B ρ W3 (.slice (some ⟨g, off, none⟩) 1 c) [markFr k x] (.slice at' x.temps.length ct) (.slice as' x.stack.length cs) ∧ Wr (fun q => FrR (ρ q)) wr W3) := by
        obtain ⟨hr, hρ, ht, hst, rt, rs⟩ := HR.out
        refine ⟨.inr ⟨_, g, off, c, rfl, rfl, ⟨hr.hB, by omega, fun r y hy => ?_, fun r h5 => ?_⟩, hρ, w3.pair t2 (fun q e e2 => n3 q e e2), s3, rt, rs⟩, ?_⟩
        · rw [hC]
          have hr5 : r < 5 := (List.getElem?_eq_some_iff.1 hy).1
          rcases (by omega : r = 0 ∨ r = 1 ∨ r = 2 ∨ r = 3 ∨ r = 4) with rfl | rfl | rfl | rfl | rfl
          · injection hy with hy; subst hy; exact x0
          · injection hy with hy; subst hy; exact x1
          · injection hy with hy; subst hy; exact x2
          · injection hy with hy; subst hy; exact (U1.out _ (.inr (by omega))).trans (hr.cell 3 _ rfl)
          · injection hy with hy; subst hy; exact x4
        · exact ((w3.fr ⟨g, _, none⟩ (by show g < _; omega)).trans (w2.fr ⟨g, _, none⟩ (by show g < _; omega))).trans ((U1.wr.fr ⟨g, _, none⟩ hr.hg).trans (hr.fz r h5))
        · refine (((U1.wr.mono (T' := fun q => q = g ∨ (Value.slice at' x.temps.length ct).ownBlock = some q ∨ (Value.slice as' x.stack.length cs).ownBlock = some q) fun q e => .inl e).trans (w2.mono fun q e => .inr (.inl e))).trans (w3.mono fun q e => .inr (.inr e))).mono fun q e => ?_
          rcases e with rfl | e | e
          · exact .inl hρ
          · exact .inr (.inl (rt q e))
          · exact .inr (.inr (rs q e))
      clear w3 w2 U1 t1 s1 t2 s2 s3 hC x0 x1 x2 x4 y4
      go_wp2
      go_roundg 0
      case measure => omega
      case rel => exact .inr ⟨rfl, by rw [show k + 1 + 1 + 1 + 2 * (x.temps.length : Int) + 2 * (x.stack.length : Int) = k + (3 + 2 * (x.temps.length : Int) + 2 * (x.stack.length : Int)) by omega], rfl, HF.out⟩
    · go_wp2
      go_ret
      exact ⟨rfl, h1, h2⟩
set_option maxRecDepth 100000 in
set_option maxHeartbeats 4000000 in
theorem heldFrameS_o (B : Nat) (ρ : Nat → Rl) (v : Value) (fs : List Fr) (t s : Value) (k : Int) (w : World) (h : FrO B ρ w v (fs.map (markFr k)) t s) (hsm : ∀ x ∈ fs, x.temps.length ≤ 1000000 ∧ x.stack.length ≤ 1000000) (hk0 : 0 ≤ k) (hk1 : k ≤ 1000000000) :
    Calls Tryz.prog 84 #[v, .int .i64 k] w fun e w' => e = .returned (.int .i64 (k + spanF fs)) ∧ w' = w := by
  rcases h with ⟨h0, a, c, rfl⟩ | ⟨x', g, off, c, h0, rfl, hr, hρ, ht, hst, rt, rs⟩
  · obtain rfl : fs = [] := by simpa using h0
    refine (heldFrameS_nil a c k w).mono ?_
    rintro e w' ⟨rfl, rfl⟩
    exact ⟨by simp [spanF], rfl⟩
  match fs, h0 with
  | [x], h0 =>
  obtain ⟨rfl, _⟩ : markFr k x = x' ∧ True := by simpa using h0
  obtain ⟨hx1, hx2⟩ := hsm x (List.mem_singleton.2 rfl)
  obtain ⟨at', ct, hvt⟩ := ht.at.shape
  obtain ⟨as', cs, hvs⟩ := hst.at.shape
  have HT : OpsAt w t (markV (k + 1 + 1 + 1) x.temps.length) := ht.at
  have HS : OpsAt w s (markV (k + 1 + 1 + 1 + 2 * (x.temps.length : Int)) x.stack.length) := hst.at
  have c0 : w.cell? ⟨g, off, none⟩ = some (.int .i64 k) := hr.cell 0 _ rfl
  have c1 : w.cell? ⟨g, off + 1, none⟩ = some (.int .i64 (k + 1)) := hr.cell 1 _ rfl
  have c2 : w.cell? ⟨g, off + 2, none⟩ = some (.int .i64 (k + 1 + 1)) := hr.cell 2 _ rfl
  have c3 : w.cell? ⟨g, off + 3, none⟩ = some t := hr.cell 3 _ rfl
  have c4 : w.cell? ⟨g, off + 4, none⟩ = some s := hr.cell 4 _ rfl
  have e1 : (markFr k x).temps.length = x.temps.length := markV_length _ _
  have e2 : (markFr k x).stack.length = x.stack.length := markV_length _ _
  rw [e1] at hvt
  rw [e2] at hvs
  subst hvt hvs
  clear hr hρ ht hst rt rs hsm e1 e2 h0
  show Calls Tryz.prog 84 #[_, .int .i64 k] w fun e w' => e = .returned (.int .i64 (k + (3 + 2 * (x.temps.length : Int) + 2 * (x.stack.length : Int)))) ∧ w' = w
  go_enter Tryz.func84, Tryz.ntmps84
  go_wp2
  go_loopg [1, 5] 1 (fun d kv i wr => (d = 1 ∧ kv = .int .i64 k ∧ i = .int .i64 0 ∧ wr = w) ∨ (d = 0 ∧ kv = .int .i64 (k + (3 + 2 * (x.temps.length : Int) + 2 * (x.stack.length : Int))) ∧ i = .int .i64 1 ∧ wr = w))
  case atStart => exact .inl ⟨rfl, rfl, rfl, rfl⟩
  case round =>
    rcases hrel with ⟨rfl, rfl, rfl, hw⟩ | ⟨rfl, rfl, rfl, hw⟩
    · subst hw
      have hw1 : IntKind.i64.wrap (k + 1) = k + 1 := by rw [IntKind.wrap_i64]; omega
      have hw2 : IntKind.i64.wrap (k + 1 + 1) = k + 1 + 1 := by rw [IntKind.wrap_i64]; omega
      have hw3 : IntKind.i64.wrap (k + 1 + 1 + 1) = k + 1 + 1 + 1 := by rw [IntKind.wrap_i64]; omega
      go_wp2_with fail
      refine (heldValS_any _ x.temps.length _ _ HT (by omega) (by omega) (by omega)).mono ?_
      rintro e W2 ⟨rfl, hw'⟩
      obtain rfl := hw'.symm
      clear hw'
      have hn1 : ¬ (k + 1 + 1 + 1 + 2 * (x.temps.length : Int) < 0) := by omega
      go_wp2_with fail
      refine (heldValS_any _ x.stack.length _ _ HS (by omega) (by omega) (by omega)).mono ?_
      rintro e W3 ⟨rfl, hw'⟩
      obtain rfl := hw'.symm
      clear hw'
      have hn2 : ¬ (k + 1 + 1 + 1 + 2 * (x.temps.length : Int) + 2 * (x.stack.length : Int) < 0) := by omega
      go_wp2
      go_roundg 0
      case measure => omega
      case rel => exact .inr ⟨rfl, by rw [show k + 1 + 1 + 1 + 2 * (x.temps.length : Int) + 2 * (x.stack.length : Int) = k + (3 + 2 * (x.temps.length : Int) + 2 * (x.stack.length : Int)) by omega], rfl, rfl⟩
    · subst hw
      go_wp2
      go_ret
      exact ⟨rfl, rfl⟩
structure PRowM (B : Nat) (w : World) (g off n : Nat) (bs : Nat → Int) (V : Nat → Value) : Prop where
  hB : B ≤ g
  hg : g < w.heap.size
  c : ∀ q, q < n → w.cell? ⟨g, off + q * 2, none⟩ = some (.int .i64 (bs q)) ∧ w.cell? ⟨g, off + q * 2 + 1, none⟩ = some (V q)
  fz : ∀ q, q < n → w.frozen? ⟨g, off + q * 2, none⟩ = false
structure PgO (B : Nat) (ρ : Nat → Rl) (w : World) (v : Value) (n : Nat) (bs : Nat → Int) (V : Nat → Value) (fs : List Fr) (t s : Value) : Prop where
  r : ∃ g off c, v = .slice (some ⟨g, off, none⟩) n c ∧ n ≤ maxLen ∧ PRowM B w g off n bs V ∧ ρ g = .pages
  e : ∀ q, 1 ≤ q → q < n → ∃ a c, V q = .slice a 0 c
  f : FrO B ρ w (V 0) fs t s
theorem PRowM.kept {B g off n : Nat} {w w' : World} {bs : Nat → Int} {V : Nat → Value} (h : PRowM B w g off n bs V) (hs : w.heap.size ≤ w'.heap.size) (hb : w'.heap[g]? = w.heap[g]?) : PRowM B w' g off n bs V :=
  ⟨h.hB, Nat.lt_of_lt_of_le h.hg hs, fun q hq => ⟨(World.cell?_of_block (a := ⟨g, _, none⟩) hb).trans (h.c q hq).1, (World.cell?_of_block (a := ⟨g, _, none⟩) hb).trans (h.c q hq).2⟩, fun q hq => (World.frozen?_of_block (a := ⟨g, _, none⟩) hb).trans (h.fz q hq)⟩
theorem PgO.kept {B : Nat} {ρ : Nat → Rl} {w w' : World} {v : Value} {n : Nat} {bs : Nat → Int} {V : Nat → Value} {fs : List Fr} {t s : Value} (h : PgO B ρ w v n bs V fs t s) (hs : w.heap.size ≤ w'.heap.size) (hb : ∀ g, PgR (ρ g) → B ≤ g → g < w.heap.size → w'.heap[g]? = w.heap[g]?) : PgO B ρ w' v n bs V fs t s := by
  obtain ⟨g, off, c, e, hm, hr, hρ⟩ := h.r
  exact ⟨⟨g, off, c, e, hm, hr.kept hs (hb g (.inl hρ) hr.hB hr.hg), hρ⟩, h.e, h.f.kept hs fun q h1 => hb q (.inr h1)⟩
theorem PgO.wr {B : Nat} {ρ : Nat → Rl} {w w' : World} {v : Value} {n : Nat} {bs : Nat → Int} {V : Nat → Value} {fs : List Fr} {t s : Value} {T : Nat → Prop} (h : PgO B ρ w v n bs V fs t s) (hw : Wr T w w') (hT : ∀ g, PgR (ρ g) → ¬ T g) : PgO B ρ w' v n bs V fs t s := h.kept hw.size fun g h1 _ h3 => hw.block g h3 (hT g h1)
theorem PgO.at {B : Nat} {ρ : Nat → Rl} {w : World} {v : Value} {n : Nat} {bs : Nat → Int} {V : Nat → Value} {fs : List Fr} {t s : Value} (h : PgO B ρ w v n bs V fs t s) : PagesAt w v ((List.range n).map fun q => ⟨bs q, if q = 0 then fs else []⟩) := by
  obtain ⟨g, off, c, e, hm, hr, hρ⟩ := h.r
  refine ⟨_, c, by rw [List.length_map, List.length_range]; exact e, by rw [List.length_map, List.length_range]; exact hm, fun i hi => ?_⟩
  have hi' : i < n := by simpa using hi
  obtain ⟨c0, c1⟩ := hr.c i hi'
  rw [List.getElem_map, List.getElem_range]
  refine ⟨g, off, _, rfl, c0, c1, ?_⟩
  show FramesAt w (V i) (if i = 0 then fs else [])
  by_cases e0 : i = 0
  · subst e0; exact h.f.at
  · rw [if_neg e0]
    obtain ⟨a, c', hv⟩ := h.e i (by omega) hi'
    rw [hv]
    exact ⟨a, c', rfl, Nat.zero_le _, fun _ hi => absurd hi (Nat.not_lt_zero _)⟩
def mkP (sp : Int) (i : Nat) : Int := 1 + (i : Int) + if i = 0 then 0 else sp
theorem spanF_bound {fs : List Fr} (hsm : ∀ x ∈ fs, x.temps.length ≤ 1000000 ∧ x.stack.length ≤ 1000000) : 0 ≤ spanF fs ∧ spanF fs ≤ 4000003 := by
  cases fs with
  | nil => simp [spanF]
  | cons x l =>
    have := hsm x (List.mem_cons_self ..)
    show 0 ≤ 3 + 2 * (x.temps.length : Int) + 2 * (x.stack.length : Int) ∧ 3 + 2 * (x.temps.length : Int) + 2 * (x.stack.length : Int) ≤ 4000003
    omega
set_option maxRecDepth 100000 in
set_option maxHeartbeats 4000000 in
theorem markPageS_o (B : Nat) (ρ : Nat → Rl) (v : Value) (n : Nat) (bs : Nat → Int) (V : Nat → Value) (fs : List Fr) (t s : Value) (w : World) (h : PgO B ρ w v n bs V fs t s) (hn1 : 1 ≤ n) (hn : n ≤ 1000) (hsm : ∀ x ∈ fs, x.temps.length ≤ 1000000 ∧ x.stack.length ≤ 1000000) :
    Calls Tryz.prog 44 #[v, .int .i64 1] w fun e w' => e = .returned (.int .i64 (mkP (spanF fs) n)) ∧ PgO B ρ w' v n (mkP (spanF fs)) V (fs.map (markFr 2)) t s ∧ Wr (fun q => PgR (ρ q)) w w' := by
  obtain ⟨g, off, c, rfl, hm, hr, hρ⟩ := h.r
  have HE : Hid (∀ q, 1 ≤ q → q < n → ∃ a c, V q = .slice a 0 c) := h.e
  have HSM : Hid (∀ x ∈ fs, x.temps.length ≤ 1000000 ∧ x.stack.length ≤ 1000000) := hsm
  have hsb := spanF_bound hsm
  obtain ⟨sp, hsp⟩ : ∃ sp, spanF fs = sp := ⟨_, rfl⟩
  have HSP : Hid (spanF fs = sp) := hsp
  have hB := hr.hB
  have hgl := hr.hg
  have hf := h.f
  rw [hsp] at hsb ⊢
  clear hsp hsm h hm
  go_enter Tryz.func44, Tryz.ntmps44
  go_wp2
  go_loopg [1, 5] n (fun d kv i wr => ∃ j : Nat, j ≤ n ∧ d = n - j ∧ i = .int .i64 (j : Int) ∧ kv = .int .i64 (mkP sp j) ∧ PRowM B wr g off n (fun q => if q < j then mkP sp q else bs q) V ∧ FrO B ρ wr (V 0) (if j = 0 then fs else fs.map (markFr 2)) t s ∧ Wr (fun q => PgR (ρ q)) w wr)
  case atStart => exact ⟨0, Nat.zero_le _, rfl, rfl, rfl, hr, hf, Wr.refl _ _⟩
  case round =>
    clear hr hf
    obtain ⟨j, hj, rfl, rfl, rfl, hr, hf, hw⟩ := hrel
    have zw := hw.size
    have HF : Hid (FrO B ρ wr (V 0) (if j = 0 then fs else fs.map (markFr 2)) t s) := hf
    have HW : Hid (Wr (fun q => PgR (ρ q)) w wr) := hw
    have HR : Hid (PRowM B wr g off n (fun q => if q < j then mkP sp q else bs q) V) := hr
    have HEND : Hid (j = n → PgO B ρ wr (.slice (some ⟨g, off, none⟩) n c) n (mkP sp) V (fs.map (markFr 2)) t s) := fun e => by
      subst e
      rw [if_neg (by omega)] at hf
      exact ⟨⟨g, off, c, rfl, by unfold maxLen; omega, ⟨hr.hB, hr.hg, fun q hq => by have := hr.c q hq; rw [if_pos hq] at this; exact this, hr.fz⟩, hρ⟩, HE.out, hf⟩
    clear hf hw
    by_cases hlt : j < n
    · obtain ⟨c0, c1⟩ := hr.c j hlt
      rw [if_neg (Nat.lt_irrefl j)] at c0
      have f0 := hr.fz j hlt
      have hjz : (j : Int) < (n : Int) := by omega
      have hmb : 1 ≤ mkP sp j ∧ mkP sp j ≤ 4100000 := by unfold mkP; split <;> omega
      obtain ⟨K, hK⟩ : ∃ K, mkP sp j = K := ⟨_, rfl⟩
      have HK : Hid (mkP sp j = K) := hK
      rw [hK] at hmb ⊢
      have hwk : IntKind.i64.wrap (K + 1) = K + 1 := by rw [IntKind.wrap_i64]; omega
      clear hK hr
      go_upto_region 6 with fail
      refine wp_gen (fun W => PRowM B W g off n (fun q => if q < j + 1 then mkP sp q else bs q) V ∧ Wr (fun q => q = g) wr W) ⟨⟨hB, by simp [World.setCell]; exact HR.out.hg, fun q hq => ?_, fun q hq => by rw [World.frozen?_setCell]; exact HR.out.fz q hq⟩, (Wr.refl1 g wr).set1 (o := off + j * 2) _⟩ ?_
      · obtain ⟨q0, q1⟩ := HR.out.c q hq
        refine ⟨?_, by rw [off_ne (by omega)]; exact q1⟩
        by_cases e : q = j
        · subst e
          rw [if_pos (by omega), HK.out]
          exact World.cell?_setCell_same _ _ _ q0
        · rw [off_ne (by omega), q0]
          by_cases h2 : q < j
          · rw [if_pos h2, if_pos (by omega)]
          · rw [if_neg h2, if_neg (by omega)]
      rintro W1 ⟨hr1, w1⟩
      have z1 := w1.size
      have hf1 : FrO B ρ W1 (V 0) (if j = 0 then fs else fs.map (markFr 2)) t s := HF.out.kept w1.size fun q h1 _ h3 => w1.block q h3 fun e => by
        subst e; rw [hρ] at h1; rcases h1 with h1 | h1 | h1 <;> cases h1
      have HW1 : Hid (Wr (fun q => PgR (ρ q)) w W1) := HW.out.trans (w1.mono fun q e => by subst e; exact .inl hρ)
      have x1 := (hr1.c j hlt).2
      have HR1 : Hid (PRowM B W1 g off n (fun q => if q < j + 1 then mkP sp q else bs q) V) := hr1
      have hg1 := hr1.hg
      clear c0 c1 f0 w1 hr1 HR HF HEND
      by_cases hj0 : j = 0
      · subst hj0
        rw [if_pos rfl] at hf1
        obtain ⟨a0, k0, hv0⟩ := hf1.shape
        have hK1 : K = 1 := by rw [← HK.out]; rfl
        subst hK1
        have HC := markFrameS_o B ρ (V 0) fs t s (1 + 1) W1 hf1 HSM.out (by omega) (by omega)
        rw [HSP.out, hv0] at HC
        rw [hv0] at x1
        have HV0 : Hid (V 0 = .slice a0 fs.length k0) := hv0
        clear hf1 hv0
        go_wp2_with fail
        refine HC.mono ?_
        rintro e W2 ⟨rfl, hf2, w2⟩
        have HX : Hid (PRowM B W2 g off n (fun q => if q < 0 + 1 then mkP sp q else bs q) V ∧ FrO B ρ W2 (V 0) (if 0 + 1 = 0 then fs else fs.map (markFr 2)) t s ∧ Wr (fun q => PgR (ρ q)) w W2) :=
          ⟨HR1.out.kept w2.size (w2.block g hg1 fun e => by rw [hρ] at e; rcases e with e | e | e <;> cases e), by rw [if_neg (by omega), HV0.out]; exact hf2,
            HW1.out.trans (w2.mono fun q e => .inr e)⟩
        clear hf2 w2 HC HR1 HW1 x1
        go_wp2
        go_roundg (n - (0 + 1))
        case measure => omega
        case rel => exact ⟨0 + 1, by omega, rfl, by go_num, by unfold mkP; simp, HX.out⟩
      · obtain ⟨a0, k0, hv0⟩ := HE.out j (by omega) hlt
        rw [hv0] at x1
        have HX : Hid (PRowM B W1 g off n (fun q => if q < j + 1 then mkP sp q else bs q) V ∧ FrO B ρ W1 (V 0) (if j + 1 = 0 then fs else fs.map (markFr 2)) t s ∧ Wr (fun q => PgR (ρ q)) w W1) :=
          ⟨HR1.out, by rw [if_neg hj0] at hf1; rw [if_neg (by omega)]; exact hf1, HW1.out⟩
        have HK2 : Hid (K + 1 = mkP sp (j + 1)) := by show _ = _; rw [← HK.out]; unfold mkP; rw [if_neg hj0, if_neg (by omega)]; omega
        clear hf1 HR1 HW1 hv0
        go_wp2_with fail
        refine (markFrameS_nil _ _ _ _).mono ?_
        rintro e W2 ⟨rfl, hw2⟩
        obtain rfl := hw2.symm
        clear hw2
        go_wp2
        go_roundg (n - (j + 1))
        case measure => omega
        case rel => exact ⟨j + 1, by omega, rfl, by go_num, by rw [HK2.out], HX.out⟩
    · obtain rfl : j = n := by omega
      have hjz : ¬ ((j : Int) < (j : Int)) := by omega
      have HE2 : Hid (PgO B ρ wr (.slice (some ⟨g, off, none⟩) j c) j (mkP sp) V (fs.map (markFr 2)) t s) := HEND.out rfl
      clear HEND hr HR HF
      go_wp2
      go_ret
      exact ⟨rfl, HE2.out, HW.out⟩
set_option maxRecDepth 100000 in
set_option maxHeartbeats 4000000 in
theorem heldPageS_o (B : Nat) (ρ : Nat → Rl) (v : Value) (n : Nat) (V : Nat → Value) (fs : List Fr) (t s : Value) (w : World) (h : PgO B ρ w v n (mkP (spanF fs)) V (fs.map (markFr 2)) t s) (hn1 : 1 ≤ n) (hn : n ≤ 1000) (hsm : ∀ x ∈ fs, x.temps.length ≤ 1000000 ∧ x.stack.length ≤ 1000000) :
    Calls Tryz.prog 47 #[v, .int .i64 1] w fun e w' => e = .returned (.int .i64 (mkP (spanF fs) n)) ∧ w' = w := by
  obtain ⟨g, off, c, rfl, hm, hr, hρ⟩ := h.r
  have HE : Hid (∀ q, 1 ≤ q → q < n → ∃ a c, V q = .slice a 0 c) := h.e
  have hfr := h.f
  rw [show (2 : Int) = 1 + 1 from rfl] at hfr
  have HC := heldFrameS_o B ρ (V 0) fs t s (1 + 1) w hfr hsm (by omega) (by omega)
  obtain ⟨a0, k0, hv0⟩ := h.f.shape
  rw [List.length_map] at hv0
  have hsb := spanF_bound hsm
  obtain ⟨sp, hsp⟩ : ∃ sp, spanF fs = sp := ⟨_, rfl⟩
  rw [hsp] at hsb hr HC ⊢
  rw [hv0] at HC
  have HR : Hid (PRowM B w g off n (mkP sp) V) := hr
  have HV0 : Hid (V 0 = .slice a0 fs.length k0) := hv0
  have HH : Hid (Calls Tryz.prog 84 #[.slice a0 fs.length k0, .int .i64 (1 + 1)] w fun e w' => e = .returned (.int .i64 (1 + 1 + sp)) ∧ w' = w) := HC
  clear hsp h hsm hm hr hv0 HC hfr
  go_enter Tryz.func47, Tryz.ntmps47
  go_wp2
  go_loopg [1, 5] n (fun d kv i wr => ∃ j : Nat, j ≤ n ∧ d = n - j ∧ i = .int .i64 (j : Int) ∧ kv = .int .i64 (mkP sp j) ∧ wr = w)
  case atStart => exact ⟨0, Nat.zero_le _, rfl, rfl, rfl, rfl⟩
  case round =>
    obtain ⟨j, hj, rfl, rfl, rfl, hw⟩ := hrel
    subst hw
    by_cases hlt : j < n
    · obtain ⟨c0, c1⟩ := HR.out.c j hlt
      have hjz : (j : Int) < (n : Int) := by omega
      have hmb : 1 ≤ mkP sp j ∧ mkP sp j ≤ 4100000 := by unfold mkP; split <;> omega
      obtain ⟨K, hK⟩ : ∃ K, mkP sp j = K := ⟨_, rfl⟩
      have HK : Hid (mkP sp j = K) := hK
      rw [hK] at hmb c0 ⊢
      have hwk : IntKind.i64.wrap (K + 1) = K + 1 := by rw [IntKind.wrap_i64]; omega
      clear hK
      by_cases hj0 : j = 0
      · subst hj0
        rw [HV0.out] at c1
        have hK1 : K = 1 := by rw [← HK.out]; rfl
        subst hK1
        have HC := HH.out
        rw [Nat.zero_mul, Nat.add_zero] at c0 c1
        go_wp2_with fail
        refine HC.mono ?_
        rintro e W2 ⟨rfl, hw2⟩
        obtain rfl := hw2.symm
        clear hw2 HC
        have hnn : ¬ (1 + 1 + sp < 0) := by omega
        go_wp2
        go_roundg (n - (0 + 1))
        case measure => omega
        case rel => exact ⟨0 + 1, by omega, rfl, by go_num, by unfold mkP; simp, rfl⟩
      · obtain ⟨a1, k1, hv1⟩ := HE.out j (by omega) hlt
        rw [hv1] at c1
        have HK2 : Hid (K + 1 = mkP sp (j + 1)) := by show _ = _; rw [← HK.out]; unfold mkP; rw [if_neg hj0, if_neg (by omega)]; omega
        clear hv1
        go_wp2_with fail
        refine (heldFrameS_nil _ _ _ _).mono ?_
        rintro e W2 ⟨rfl, hw2⟩
        obtain rfl := hw2.symm
        clear hw2
        have hnn : ¬ (K + 1 < 0) := by omega
        go_wp2
        go_roundg (n - (j + 1))
        case measure => omega
        case rel => exact ⟨j + 1, by omega, rfl, by go_num, by rw [HK2.out], rfl⟩
    · obtain rfl : j = n := by omega
      have hjz : ¬ ((j : Int) < (j : Int)) := by omega
      go_wp2
      go_ret
      exact ⟨rfl, rfl⟩
end Go.Proofs.YtmifhlkcceafkaaGreat
