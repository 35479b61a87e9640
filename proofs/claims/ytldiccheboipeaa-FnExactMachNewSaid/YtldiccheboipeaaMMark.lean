/-
  What the exact law of MachNew writes into its answer, and reads there again: markMach and heldMach, of a machine of which the first page has one frame, the others none, without twins.
-/
import Derived.Test.YtldiccheboipeaaMNew
import Derived.Test.YtldiccheboipeaaMarks
namespace Go.Proofs.Ytldiccheboipeaa
open Go.RowKit

/-- n numbers that are marked from k on -/
def markI (k : Int) (n : Nat) : List Int := (List.range n).map fun i : Nat => k + (i : Int)
theorem markI_length (k : Int) (n : Nat) : (markI k n).length = n := by simp [markI]
theorem markI_at (k : Int) (n i : Nat) (h : i < (markI k n).length) : (markI k n)[i] = k + (i : Int) := by simp [markI]

set_option maxRecDepth 100000 in
set_option maxHeartbeats 1000000 in
theorem markIntS_any (B : Nat) (v : Value) (xs : List Int) (k : Int) (w : World) (h : IntRow B w v xs) (hx : xs.length ≤ 1049000) (hk0 : 0 ≤ k) (hk1 : k ≤ 1125899906842624) :
    Calls Try.prog 67 #[v, .int .i64 k] w fun e w' => e = .returned (.int .i64 (k + (xs.length : Int))) ∧ IntRow B w' v (markI k xs.length) ∧ Wr (fun g => v.ownBlock = some g) w w' := by
  obtain ⟨a, c, rfl, hl⟩ := h.slice
  unfold maxLen at hl
  go_enter Try.func67, Try.ntmps67
  go_wp2
  go_loopg [1, 5] xs.length (fun g kv i wr => ∃ (j : Nat) (ys : List Int), j ≤ xs.length ∧ g = xs.length - j ∧ i = .int .i64 j ∧ kv = .int .i64 (k + (j : Int)) ∧ ys.length = xs.length ∧ IntRow B wr (.slice a xs.length c) ys ∧ (∀ q, (hq : q < ys.length) → q < j → ys[q] = k + (q : Int)) ∧ Wr (fun g => (Value.slice a xs.length c).ownBlock = some g) w wr)
  case atStart => exact ⟨0, xs, Nat.zero_le _, rfl, rfl, by simp, rfl, h, fun q _ hq => absurd hq (Nat.not_lt_zero _), Wr.refl _ _⟩
  case round =>
    obtain ⟨j, ys, hj, rfl, rfl, rfl, hyl, hrow, hys, hg⟩ := hrel
    have HY : Hid (∀ q, (hq : q < ys.length) → q < j → ys[q] = k + (q : Int)) := hys
    clear hys
    by_cases hlt : j < xs.length
    · obtain ⟨g1, o1, c1, e1, _⟩ := hrow.form (by omega)
      obtain rfl : a = some ⟨g1, o1, none⟩ := by injection e1
      clear e1
      obtain ⟨d0, f0⟩ := hrow.cell (i := j) (by omega)
      have hset := hrow.set j (by omega) (k + (j : Int))
      have hjz : (j : Int) < (xs.length : Int) := by omega
      have hg2 : Wr (fun g => (Value.slice (some ⟨g1, o1, none⟩) xs.length c).ownBlock = some g) w (wr.setCell ⟨g1, o1 + j, none⟩ (.int .i64 (k + (j : Int)))) := hg.set (p := ⟨g1, o1 + j, none⟩) rfl _
      have hw1 : IntKind.i64.wrap (k + (j : Int) + 1) = k + (j : Int) + 1 := by rw [IntKind.wrap_i64]; omega
      clear hrow hg
      go_wp2
      go_roundg (xs.length - (j + 1))
      case measure => omega
      case rel => exact ⟨j + 1, ys.set j (k + (j : Int)), by omega, rfl, by go_num, by rw [show k + (j : Int) + 1 = k + ((j + 1 : Nat) : Int) by omega], by rw [List.length_set]; exact hyl, hset, fun q hq hqk => by
          rw [List.length_set] at hq
          by_cases e : q = j
          · subst e; simp
          · rw [List.getElem_set_ne (fun x => e x.symm)]; exact HY.out q hq (by omega), hg2⟩
    · obtain rfl : j = xs.length := by omega
      have hE : ys = markI k xs.length := List.ext_getElem (by rw [markI_length]; exact hyl) fun q h1 h2 => by rw [markI_at, HY.out q h1 (by omega)]
      subst hE
      go_wp2
      go_ret
      exact ⟨rfl, hrow, hg⟩

set_option maxRecDepth 100000 in
set_option maxHeartbeats 1000000 in
theorem heldIntS_any (v : Value) (n : Nat) (k : Int) (w : World) (h : IntsAt w v (markI k n)) (hx : n ≤ 1049000) (hk0 : 0 ≤ k) (hk1 : k ≤ 1125899906842624) :
    Calls Try.prog 71 #[v, .int .i64 k] w fun e w' => e = .returned (.int .i64 (k + (n : Int))) ∧ w' = w := by
  obtain ⟨a, c, rfl, hl, hc⟩ := h
  rw [markI_length] at hl ⊢
  go_enter Try.func71, Try.ntmps71
  go_wp2
  go_loopg [1, 5] n (fun g kv i wr => ∃ j : Nat, j ≤ n ∧ g = n - j ∧ i = .int .i64 j ∧ kv = .int .i64 (k + (j : Int)) ∧ wr = w)
  case atStart => exact ⟨0, Nat.zero_le _, rfl, rfl, by simp, rfl⟩
  case round =>
    obtain ⟨j, hj, rfl, rfl, rfl, hw⟩ := hrel
    subst hw
    by_cases hlt : j < n
    · obtain ⟨b, o, e1, d0⟩ := hc j (by rw [markI_length]; exact hlt)
      subst e1
      rw [markI_at] at d0
      have hjz : (j : Int) < (n : Int) := by omega
      have hw1 : IntKind.i64.wrap (k + (j : Int) + 1) = k + (j : Int) + 1 := by rw [IntKind.wrap_i64]; omega
      clear hc
      go_wp2
      go_roundg (n - (j + 1))
      case measure => omega
      case rel => exact ⟨j + 1, by omega, rfl, by go_num, by rw [show k + (j : Int) + 1 = k + ((j + 1 : Nat) : Int) by omega], rfl⟩
    · obtain rfl : j = n := by omega
      go_wp2
      go_ret
      exact ⟨rfl, rfl⟩

set_option maxRecDepth 100000 in
theorem markFrameS_nil (a : Option Addr) (c : Nat) (k : Int) (w : World) : Calls Try.prog 115 #[.slice a 0 c, .int .i64 k] w fun e w' => e = .returned (.int .i64 k) ∧ w' = w := by
  go_enter Try.func115, Try.ntmps115
  go_wp2
  go_loopg [1, 5] 0 (fun d kv i wr => kv = .int .i64 k ∧ i = .int .i64 0 ∧ wr = w)
  case atStart => exact ⟨rfl, rfl, rfl⟩
  case round =>
    obtain ⟨rfl, rfl, hw⟩ := hrel
    subst hw
    go_wp2
    go_ret
    exact ⟨rfl, rfl⟩
set_option maxRecDepth 100000 in
theorem heldFrameS_nil (a : Option Addr) (c : Nat) (k : Int) (w : World) : Calls Try.prog 116 #[.slice a 0 c, .int .i64 k] w fun e w' => e = .returned (.int .i64 k) ∧ w' = w := by
  go_enter Try.func116, Try.ntmps116
  go_wp2
  go_loopg [1, 5] 0 (fun d kv i wr => kv = .int .i64 k ∧ i = .int .i64 0 ∧ wr = w)
  case atStart => exact ⟨rfl, rfl, rfl⟩
  case round =>
    obtain ⟨rfl, rfl, hw⟩ := hrel
    subst hw
    go_wp2
    go_ret
    exact ⟨rfl, rfl⟩
set_option maxRecDepth 100000 in
theorem markTwinS_nil (a : Option Addr) (c : Nat) (k : Int) (w : World) : Calls Try.prog 68 #[.slice a 0 c, .int .i64 k] w fun e w' => e = .returned (.int .i64 k) ∧ w' = w := by
  go_enter Try.func68, Try.ntmps68
  go_wp2
  go_loopg [1, 5] 0 (fun d kv i wr => kv = .int .i64 k ∧ i = .int .i64 0 ∧ wr = w)
  case atStart => exact ⟨rfl, rfl, rfl⟩
  case round =>
    obtain ⟨rfl, rfl, hw⟩ := hrel
    subst hw
    go_wp2
    go_ret
    exact ⟨rfl, rfl⟩
set_option maxRecDepth 100000 in
theorem heldTwinS_nil (a : Option Addr) (c : Nat) (k : Int) (w : World) : Calls Try.prog 72 #[.slice a 0 c, .int .i64 k] w fun e w' => e = .returned (.int .i64 k) ∧ w' = w := by
  go_enter Try.func72, Try.ntmps72
  go_wp2
  go_loopg [1, 5] 0 (fun d kv i wr => kv = .int .i64 k ∧ i = .int .i64 0 ∧ wr = w)
  case atStart => exact ⟨rfl, rfl, rfl⟩
  case round =>
    obtain ⟨rfl, rfl, hw⟩ := hrel
    subst hw
    go_wp2
    go_ret
    exact ⟨rfl, rfl⟩

set_option maxRecDepth 100000 in
set_option maxHeartbeats 2000000 in
theorem markFrameS_one (B gf : Nat) (vt vs : Value) (x0 x1 x2 : Int) (ts ss : List (Int × Int)) (k : Int) (w : World) (hf : Bx w gf 53 [.int .i64 x0, .int .i64 x1, .int .i64 x2, vt, vs]) (ht : PairRow B w vt ts) (hs : PairRow B w vs ss)
    (n1 : vt.ownBlock ≠ some gf) (n2 : vs.ownBlock ≠ some gf) (n3 : ∀ g, vt.ownBlock = some g → vs.ownBlock ≠ some g) (hl1 : ts.length ≤ 1000000) (hl2 : ss.length ≤ 1000000) (hk0 : 0 ≤ k) (hk1 : k ≤ 1000000000) :
    Calls Try.prog 115 #[.slice (some ⟨gf, 0, none⟩) 1 1, .int .i64 k] w fun e w' => e = .returned (.int .i64 (k + 3 + 2 * (ts.length : Int) + 2 * (ss.length : Int))) ∧ Bx w' gf 53 [.int .i64 k, .int .i64 (k + 1), .int .i64 (k + 2), vt, vs] ∧
      PairRow B w' vt (markV (k + 3) ts.length) ∧ PairRow B w' vs (markV (k + 3 + 2 * (ts.length : Int)) ss.length) ∧ Wr (fun g => g = gf ∨ vt.ownBlock = some g ∨ vs.ownBlock = some g) w w' := by
  obtain ⟨at', ct, hvt, _⟩ := ht.slice
  obtain ⟨as', cs, hvs, _⟩ := hs.slice
  subst hvt hvs
  go_enter Try.func115, Try.ntmps115
  go_wp2
  go_loopg [1, 5] 1 (fun d kv i wr => (d = 1 ∧ kv = .int .i64 k ∧ i = .int .i64 0 ∧ wr = w) ∨ (d = 0 ∧ kv = .int .i64 (k + 3 + 2 * (ts.length : Int) + 2 * (ss.length : Int)) ∧ i = .int .i64 1 ∧ Bx wr gf 53 [.int .i64 k, .int .i64 (k + 1), .int .i64 (k + 2), .slice at' ts.length ct, .slice as' ss.length cs] ∧
      PairRow B wr (.slice at' ts.length ct) (markV (k + 3) ts.length) ∧ PairRow B wr (.slice as' ss.length cs) (markV (k + 3 + 2 * (ts.length : Int)) ss.length) ∧ Wr (fun g => g = gf ∨ (Value.slice at' ts.length ct).ownBlock = some g ∨ (Value.slice as' ss.length cs).ownBlock = some g) w wr))
  case atStart => exact .inl ⟨rfl, rfl, rfl, rfl⟩
  case round =>
    rcases hrel with ⟨rfl, rfl, rfl, hw⟩ | ⟨rfl, rfl, rfl, h1, h2, h3, h4⟩
    · subst hw
      have c0 := hf.cell 0 rfl
      have c1 := hf.cell 1 rfl
      have c2 := hf.cell 2 rfl
      have f0 := hf.frozen 0
      have f1 := hf.frozen 1
      have f2 := hf.frozen 2
      have hw1 : IntKind.i64.wrap (k + 1) = k + 1 := by rw [IntKind.wrap_i64]; omega
      have hw2 : IntKind.i64.wrap (k + 1 + 1) = k + 1 + 1 := by rw [IntKind.wrap_i64]; omega
      have hw3 : IntKind.i64.wrap (k + 1 + 1 + 1) = k + 1 + 1 + 1 := by rw [IntKind.wrap_i64]; omega
      go_upto_region 10 with fail
      refine wp_gen (fun W => Bx W gf 53 [.int .i64 k, .int .i64 (k + 1), .int .i64 (k + 1 + 1), .slice at' ts.length ct, .slice as' ss.length cs] ∧ Wr (fun g => g = gf) wr W) ⟨((hf.set 0 _).set 1 _).set 2 _, ((Wr.refl1 gf wr).set1 (o := 0) _).set1 (o := 1) _ |>.set1 (o := 2) _⟩ ?_
      rintro W1 ⟨b1, hw1'⟩
      have t1 := hw1'.pair ht (fun g e e2 => n1 (e2 ▸ e))
      have s1 := hw1'.pair hs (fun g e e2 => n2 (e2 ▸ e))
      have WW1 : Wr (fun g => g = gf ∨ (Value.slice at' ts.length ct).ownBlock = some g ∨ (Value.slice as' ss.length cs).ownBlock = some g) wr W1 := hw1'.mono fun g e => .inl e
      clear hf ht hs hw1' c0 c1 c2 f0 f1 f2
      have c3 := b1.cell 3 rfl
      go_wp2_with fail
      refine (markValS_any B _ ts _ _ t1 (by omega) (by omega) (by omega)).mono ?_
      rintro e W2 ⟨rfl, t2, w2⟩
      have b2 := w2.bx b1 n1
      have s2 := w2.pair s1 (fun g e e2 => n3 g e2 e)
      have WW2 := WW1.trans (w2.mono fun g e => .inr (.inl e))
      clear b1 t1 s1 WW1 w2 c3
      have c4 := b2.cell 4 rfl
      go_wp2_with fail
      refine (markValS_any B _ ss _ _ s2 (by omega) (by omega) (by omega)).mono ?_
      rintro e W3 ⟨rfl, s3, w3⟩
      have b3 := w3.bx b2 n2
      have t3 := w3.pair t2 (fun g e e2 => n3 g e e2)
      have WW3 := WW2.trans (w3.mono fun g e => .inr (.inr e))
      clear b2 t2 s2 WW2 w3 c4
      have ek : k + 1 + 1 + 1 = k + 3 := by omega
      have ek2 : k + 1 + 1 = k + 2 := by omega
      rw [ek] at t3 s3
      rw [ek2] at b3
      have HF : Hid (Bx W3 gf 53 [.int .i64 k, .int .i64 (k + 1), .int .i64 (k + 2), .slice at' ts.length ct, .slice as' ss.length cs] ∧ PairRow B W3 (.slice at' ts.length ct) (markV (k + 3) ts.length) ∧ PairRow B W3 (.slice as' ss.length cs) (markV (k + 3 + 2 * (ts.length : Int)) ss.length) ∧ Wr (fun g => g = gf ∨ (Value.slice at' ts.length ct).ownBlock = some g ∨ (Value.slice as' ss.length cs).ownBlock = some g) wr W3) := ⟨b3, t3, s3, WW3⟩
      clear b3 t3 s3 WW3 ek ek2
      go_wp2
      go_roundg 0
      case measure => omega
      case rel => exact .inr ⟨rfl, by rw [show k + 1 + 1 + 1 + 2 * (ts.length : Int) + 2 * (ss.length : Int) = k + 3 + 2 * (ts.length : Int) + 2 * (ss.length : Int) by omega], rfl, HF.out⟩
    · go_wp2
      go_ret
      exact ⟨rfl, h1, h2, h3, h4⟩

set_option maxRecDepth 100000 in
set_option maxHeartbeats 2000000 in
theorem heldFrameS_one (gf : Nat) (vt vs : Value) (n m : Nat) (k : Int) (w : World) (c0 : w.cell? ⟨gf, 0, none⟩ = some (.int .i64 k)) (c1 : w.cell? ⟨gf, 1, none⟩ = some (.int .i64 (k + 1))) (c2 : w.cell? ⟨gf, 2, none⟩ = some (.int .i64 (k + 2))) (c3 : w.cell? ⟨gf, 3, none⟩ = some vt) (c4 : w.cell? ⟨gf, 4, none⟩ = some vs)
    (ht : OpsAt w vt (markV (k + 3) n)) (hs : OpsAt w vs (markV (k + 3 + 2 * (n : Int)) m)) (hn : n ≤ 1000000) (hm : m ≤ 1000000) (hk0 : 0 ≤ k) (hk1 : k ≤ 1000000000) :
    Calls Try.prog 116 #[.slice (some ⟨gf, 0, none⟩) 1 1, .int .i64 k] w fun e w' => e = .returned (.int .i64 (k + 3 + 2 * (n : Int) + 2 * (m : Int))) ∧ w' = w := by
  obtain ⟨at', ct, hvt⟩ := ht.shape
  obtain ⟨as', cs, hvs⟩ := hs.shape
  rw [markV_length] at hvt hvs
  subst hvt hvs
  have ek : k + 3 = k + 1 + 1 + 1 := by omega
  have ek2 : k + 2 = k + 1 + 1 := by omega
  rw [ek] at ht hs ⊢
  rw [ek2] at c2
  go_enter Try.func116, Try.ntmps116
  go_wp2
  go_loopg [1, 5] 1 (fun d kv i wr => (d = 1 ∧ kv = .int .i64 k ∧ i = .int .i64 0 ∧ wr = w) ∨ (d = 0 ∧ kv = .int .i64 (k + 1 + 1 + 1 + 2 * (n : Int) + 2 * (m : Int)) ∧ i = .int .i64 1 ∧ wr = w))
  case atStart => exact .inl ⟨rfl, rfl, rfl, rfl⟩
  case round =>
    rcases hrel with ⟨rfl, rfl, rfl, hw⟩ | ⟨rfl, rfl, rfl, hw⟩
    · subst hw
      have hw1 : IntKind.i64.wrap (k + 1) = k + 1 := by rw [IntKind.wrap_i64]; omega
      have hw2 : IntKind.i64.wrap (k + 1 + 1) = k + 1 + 1 := by rw [IntKind.wrap_i64]; omega
      have hw3 : IntKind.i64.wrap (k + 1 + 1 + 1) = k + 1 + 1 + 1 := by rw [IntKind.wrap_i64]; omega
      clear ek ek2
      go_wp2_with fail
      refine (heldValS_any _ n _ _ ht (by omega) (by omega) (by omega)).mono ?_
      rintro e W2 ⟨rfl, hw'⟩
      obtain rfl := hw'.symm
      clear hw'
      have hn1 : ¬ (k + 1 + 1 + 1 + 2 * (n : Int) < 0) := by omega
      go_wp2_with fail
      refine (heldValS_any _ m _ _ hs (by omega) (by omega) (by omega)).mono ?_
      rintro e W3 ⟨rfl, hw'⟩
      obtain rfl := hw'.symm
      clear hw'
      have hn2 : ¬ (k + 1 + 1 + 1 + 2 * (n : Int) + 2 * (m : Int) < 0) := by omega
      go_wp2
      go_roundg 0
      case measure => omega
      case rel => exact .inr ⟨rfl, rfl, rfl, rfl⟩
    · subst hw
      go_wp2
      go_ret
      exact ⟨rfl, rfl⟩

end Go.Proofs.Ytldiccheboipeaa
