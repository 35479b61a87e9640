/-
  What draws: l71Ops makes operations of numbers, two by two; what a pick is in the middle of a draw.
-/
import Derived.Test.YtldiccheboipeaaDraw2
namespace Go.Proofs.Ytldiccheboipeaa
open Go.RowKit

theorem below_grown {w w' : World} (h : Below w.heap.size w w') (b : Option Nat) : w.grownBy w' b := ⟨h.os, h.tape, h.output, h.size, fun k hk _ => h.block k hk⟩

/-- an append to a row of one's own, from block B on: what lies below B stays (W: the world as it stands at the append) -/
theorem append_cell {w W w' : World} {v : Value} {L : List (Int × Int)} {B : Nat} (hown : OpsRow B w v L) (hg2 : W.grownBy w' v.ownBlock) {p : Addr} (hp : p.block < B) (hW : Below w.heap.size w W) {u : Value} (h : w.cell? p = some u) : w'.cell? p = some u :=
  hg2.cell (cell_below hW h) (fun e => by have := hown.lt _ e.symm; omega)

theorem append_below {w0 w W w' : World} {v : Value} {L : List (Int × Int)} (hown : OpsRow w0.heap.size w v L) (hg2 : W.grownBy w' v.ownBlock) (hW : Below w.heap.size w W) (hb : Below w0.heap.size w0 w) : Below w0.heap.size w0 w' :=
  (hb.trans (hW.mono hb.size)).grown hg2 (Nat.le_trans hb.size hW.size) (fun k e => (hown.lt k e).1)

/-- numbers, two by two -/
def pairUp : List Int → List (Int × Int)
  | x :: y :: l => (x, y) :: pairUp l
  | _ => []

theorem pairUp_snoc : ∀ (k : Nat) (xs : List Int) (h : 2 * k + 1 < xs.length), pairUp (xs.take (2 * k + 2)) = pairUp (xs.take (2 * k)) ++ [(xs[2 * k], xs[2 * k + 1])]
  | 0, x :: y :: l, _ => by simp [pairUp]
  | k + 1, x :: y :: l, h => by
    have e1 : 2 * (k + 1) + 2 = (2 * k + 2) + 2 := by omega
    have e2 : 2 * (k + 1) = 2 * k + 2 := by omega
    have ih := pairUp_snoc k l (by simp at h; omega)
    simp only [e2, List.take_succ_cons, pairUp, ih, List.getElem_cons_succ, List.cons_append]
  | _, [], h => by simp at h
  | _, [x], h => by simp at h
theorem pairUp_end : ∀ (k : Nat) (xs : List Int), xs.length ≤ 2 * k + 1 → pairUp (xs.take (2 * k)) = pairUp xs
  | 0, [], _ => rfl
  | 0, [x], _ => rfl
  | 0, x :: y :: l, h => by simp at h
  | k + 1, [], _ => rfl
  | k + 1, [x], _ => by
    have e2 : 2 * (k + 1) = 2 * k + 2 := by omega
    simp only [e2, List.take_succ_cons, List.take_nil]
  | k + 1, x :: y :: l, h => by
    have e2 : 2 * (k + 1) = 2 * k + 2 := by omega
    have ih := pairUp_end k l (by simp at h; omega)
    simp only [e2, List.take_succ_cons, pairUp, ih]

set_option maxRecDepth 100000 in
set_option maxHeartbeats 1000000 in
theorem l71Ops_fit (w : World) (g cap : Nat) (xs : List Int) (hx : ∀ i, (hi : i < xs.length) → w.cell? ⟨g, i, none⟩ = some (.int .i64 xs[i])) (hl : xs.length ≤ 20) :
    Calls Try.prog 159 #[.slice (some ⟨g, 0, none⟩) xs.length cap] w fun e w' => ∃ v ops, e = .returned v ∧ OpsRow w.heap.size w' v ops ∧ ops.length * 2 ≤ xs.length ∧ xs.length ≤ ops.length * 2 + 1 ∧ Below w.heap.size w w' ∧ ops = pairUp xs := by
  go_enter Try.func159, Try.ntmps159
  go_wp2
  go_loopg [3, 4] xs.length (fun d v i wr => ∃ (L : List (Int × Int)) (k : Nat), k ≤ xs.length ∧ d = xs.length - k ∧ i = .int .i64 k ∧ OpsRow w.heap.size wr v L ∧ Below w.heap.size w wr ∧ Hid (k = L.length * 2 ∧ L = pairUp (xs.take (2 * L.length))))
  case atStart => exact ⟨[], 0, Nat.zero_le _, rfl, rfl, OpsRow.made w, (Below.refl _ _).alloc (Nat.le_refl _) _, rfl, rfl⟩
  case round =>
    obtain ⟨L, k, hk, rfl, rfl, hrow, hb, HK⟩ := hrel
    by_cases hlt : k + 1 < xs.length
    · have hkz : (k : Int) + 1 < (xs.length : Int) := by omega
      have hkz0 : (k : Int) < (xs.length : Int) := by omega
      have hk0 : (0 : Int) ≤ (k : Int) := by omega
      have hk1 : (0 : Int) ≤ (k : Int) + 1 := by omega
      have hw : IntKind.i64.wrap ((k : Int) + 1) = (k : Int) + 1 := by rw [IntKind.wrap_i64]; omega
      have d0 := cell_below hb (hx k (by omega))
      have d1 := cell_below hb (hx (k + 1) (by omega))
      have hsz := hb.size
      have hgw : g < w.heap.size := World.block_lt_of_cell? _ _ (hx k (by omega))
      have hLl : L.length ≤ 20 := by have := HK.out.1; omega
      have HP : Hid (∀ y0 y1, xs[k]? = some y0 → xs[k + 1]? = some y1 → L ++ [(y0, y1)] = pairUp (xs.take (2 * (L ++ [(y0, y1)]).length))) := by
        intro y0 y1 e0 e1
        obtain ⟨hk2, hL2⟩ := HK.out
        have ek : k = 2 * L.length := by omega
        have e2 : 2 * (L ++ [(y0, y1)]).length = 2 * L.length + 2 := by simp; omega
        have g0 := List.getElem?_eq_some_iff.1 (ek ▸ e0)
        have g1 := List.getElem?_eq_some_iff.1 (ek ▸ e1)
        rw [e2, pairUp_snoc L.length xs (by omega), ← hL2, g0.2, g1.2]
      have HP0 : Hid (xs[k]? = some xs[k]) := List.getElem?_eq_getElem (by omega)
      have HP1 : Hid (xs[k + 1]? = some xs[k + 1]) := List.getElem?_eq_getElem (by omega)
      have HPP : Hid (L ++ [(xs[k], xs[k + 1])] = pairUp (xs.take (2 * (L ++ [(xs[k], xs[k + 1])]).length))) := HP.out _ _ HP0.out HP1.out
      clear HP HP0 HP1
      generalize xs[k] = x0 at d0 HPP
      generalize xs[k + 1] = x1 at d1 HPP
      go_wp2_with fail
      go_region_held3 (fun w' => w'.cell? ⟨g, k, none⟩ = some (.int .i64 x0) ∧ w'.cell? ⟨g, k + 1, none⟩ = some (.int .i64 x1))
        (first | exact ⟨append_cell hrow hg2 hgw ((Below.refl _ _).alloc (Nat.le_refl _) _).drew d0, append_cell hrow hg2 hgw ((Below.refl _ _).alloc (Nat.le_refl _) _).drew d1⟩ | go_keep)
        ((refine step_ops _ (by rfl) _ _ (by rfl) w.heap.size _ L (by rfl) (World.ownsRow.alloc hrow _) [(x0, x1)] wr.heap.size _ (by rfl) (World.news_of_block (Go.Deep.blk_alloc_new wr _)) (by simp) (by simp; omega) (by simp; omega) ?_; intro g' cp w2 hrow2 hg2 hBg hglt))
      have hb2 : Below w.heap.size w w2 := append_below hrow hg2 ((Below.refl _ _).alloc (Nat.le_refl _) _).drew hb
      have HK2 : Hid (k + 2 = (L ++ [(x0, x1)]).length * 2 ∧ L ++ [(x0, x1)] = pairUp (xs.take (2 * (L ++ [(x0, x1)]).length))) := by have := HK.out.1; exact ⟨by simp; omega, HPP.out⟩
      clear hg2 hrow hb d0 d1 HK HPP hBg hglt hw
      go_wp2
      go_roundg (xs.length - (k + 2))
      case measure => omega
      case rel => exact ⟨_, k + 2, by omega, rfl, by go_num, hrow2, hb2, HK2⟩
    · go_wp2
      go_ret
      exact ⟨_, L, rfl, hrow, by have := HK.out.1; omega, by have := HK.out.1; omega, hb, by rw [← pairUp_end L.length xs (by have := HK.out.1; omega)]; exact HK.out.2⟩

theorem l71Ops_any (w : World) (g cap : Nat) (xs : List Int) (hx : ∀ i, (hi : i < xs.length) → w.cell? ⟨g, i, none⟩ = some (.int .i64 xs[i])) (hl : xs.length ≤ 20) :
    Calls Try.prog 159 #[.slice (some ⟨g, 0, none⟩) xs.length cap] w fun e w' => ∃ v ops, e = .returned v ∧ OpsRow w.heap.size w' v ops ∧ ops.length * 2 ≤ xs.length ∧ xs.length ≤ ops.length * 2 + 1 ∧ Below w.heap.size w w' :=
  (l71Ops_fit w g cap xs hx hl).mono fun _ _ ⟨v, ops, h1, h2, h3, h4, h5, _⟩ => ⟨v, ops, h1, h2, h3, h4, h5⟩

/-- l71Ops of numbers that were just written down, in the middle of a draw that began in w0 -/
theorem opsLitF {w0 w : World} {b : Nat} {a : Option Addr} {len cap p0 p : Nat} (h0 : Rd w0 b a len cap p0) (hr : Rd w b a len cap p) (hg : w0.grownBy w (some b)) (xs : List Int) (cs : Array Value) (t : TypeId) (c : Nat) (hcs : cs = (xs.map fun x => Value.int .i64 x).toArray) (hl : xs.length ≤ 20) :
    Calls Try.prog 159 #[.slice (some ⟨w.heap.size, 0, none⟩) xs.length c] (w.alloc (.cells cs t)) fun e w' => ∃ v ops, e = .returned v ∧ OpsRow w0.heap.size w' v ops ∧ ops.length * 2 ≤ xs.length ∧ xs.length ≤ ops.length * 2 + 1 ∧ Rd w' b a len cap p ∧ w0.grownBy w' (some b) ∧ ops = pairUp xs := by
  subst hcs
  refine (l71Ops_fit _ w.heap.size c xs (fun i hi => ?_) hl).mono ?_
  · simp [hi]
  · rintro e w' ⟨v, ops, rfl, hrow, hlen, hlen', hb, hpu⟩
    have hA := World.grownBy_alloc w (.cells (xs.map fun x => Value.int .i64 x).toArray t) none
    have hN : w.grownBy w' none := ⟨hb.os.trans hA.os, hb.tape.trans hA.tape, hb.output.trans hA.output, Nat.le_trans hA.size hb.size, fun i hi hn => (hb.block i (Nat.lt_of_lt_of_le hi hA.size)).trans (hA.block i hi hn)⟩
    exact ⟨v, ops, rfl, hrow.mono (by have := hg.size; simp; omega), hlen, hlen', Rd.kept h0 hr hg.size hN (fun g e => by cases e), grown_own hg hN (fun g e => by cases e), hpu⟩

theorem opsLit {w0 w : World} {b : Nat} {a : Option Addr} {len cap p0 p : Nat} (h0 : Rd w0 b a len cap p0) (hr : Rd w b a len cap p) (hg : w0.grownBy w (some b)) (xs : List Int) (cs : Array Value) (t : TypeId) (c : Nat) (hcs : cs = (xs.map fun x => Value.int .i64 x).toArray) (hl : xs.length ≤ 20) :
    Calls Try.prog 159 #[.slice (some ⟨w.heap.size, 0, none⟩) xs.length c] (w.alloc (.cells cs t)) fun e w' => ∃ v ops, e = .returned v ∧ OpsRow w0.heap.size w' v ops ∧ ops.length * 2 ≤ xs.length ∧ xs.length ≤ ops.length * 2 + 1 ∧ Rd w' b a len cap p ∧ w0.grownBy w' (some b) :=
  (opsLitF h0 hr hg xs cs t c hcs hl).mono fun _ _ ⟨v, ops, h1, h2, h3, h4, h5, h6, _⟩ => ⟨v, ops, h1, h2, h3, h4, h5, h6⟩

/-- a pick, in the middle of a draw that began in w0 -/
theorem pickIn {w0 w : World} {b : Nat} {a : Option Addr} {len cap p0 p : Nat} (h0 : Rd w0 b a len cap p0) (hg : w0.grownBy w (some b)) (hr : Rd w b a len cap p) (n : Int) (hp : p ≤ 1000000) (h1 : 1 ≤ n) (h2 : n ≤ 1000000) :
    Calls Try.prog 83 #[.pointer (some ⟨b, 0, none⟩), .int .i64 n] w fun e w' => ∃ x : Int, e = .returned (.int .i64 x) ∧ 0 ≤ x ∧ x < n ∧ Rd w' b a len cap (p + 1) ∧ w0.grownBy w' (some b) ∧ ∀ v L, OpsRow w0.heap.size w v L → OpsRow w0.heap.size w' v L := by
  have hb : b < w0.heap.size := World.block_lt_of_cell? _ _ h0.s
  refine (pick_any _ _ _ _ _ _ _ hr hp h1 h2).mono ?_
  rintro e w' ⟨x, rfl, hx0, hx1, hrd, hgr⟩
  exact ⟨x, rfl, hx0, hx1, hrd, grown_trans hg hgr, fun v L h => h.kept hgr (fun g e k => by cases e; have := h.lt _ k; omega)⟩

end Go.Proofs.Ytldiccheboipeaa
