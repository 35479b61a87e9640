/-
  What draws: l71Prog draws a program; its methods, and their operations, lie in rows of their own.
-/
import Derived.Test.YtldiccheboipeaaDraw9

namespace Go.Proofs.Ytldiccheboipeaa
open Go.RowKit
theorem pbox_new (w : World) (v : Value) : (w.alloc (.cells #[v] 25)).rowIs w.heap.size 25 1 (fun _ => v) :=
  ⟨_, Go.Deep.blk_alloc_new _ _, rfl, fun i hi => by match i, hi with | 0, _ => rfl⟩
theorem row_ne_ops {w : World} {g : Nat} {t : TypeId} {n : Nat} {f : Nat → Value} {B : Nat} {v : Value} {L : List (Int × Int)} (hr : w.rowIs g t n f) (h : OpsRow B w v L) (ht : t ≠ 175) : v.ownBlock ≠ some g := row_ne hr h ht
theorem row_ne_meths {w : World} {g : Nat} {t : TypeId} {n : Nat} {f : Nat → Value} {B : Nat} {v : Value} {L : List (Int × Int × Value)} (hr : w.rowIs g t n f) (h : MRow B w v L) (ht : t ≠ 83) : v.ownBlock ≠ some g := by
  intro e
  obtain ⟨c, hc, _⟩ := hr
  rcases h.2 with ⟨rfl, _⟩ | ⟨g', cap, cur, rfl, _, hh, _⟩
  · cases e
  · simp [Value.ownBlock] at e
    subst e
    rw [hc] at hh
    simp at hh
    exact ht hh.2
theorem row_ne_nums {w : World} {g : Nat} {t : TypeId} {n : Nat} {f : Nat → Value} {B : Nat} {v : Value} {L : List Int} (hr : w.rowIs g t n f) (h : NumRow B w v L) (ht : t ≠ 3) : v.ownBlock ≠ some g := by
  intro e
  obtain ⟨c, hc, _⟩ := hr
  rcases h.2 with ⟨rfl, _⟩ | ⟨g', cap, cur, rfl, _, hh, _⟩
  · cases e
  · simp [Value.ownBlock] at e
    subst e
    rw [hc] at hh
    simp at hh
    exact ht hh.2
theorem after_append_num {w0 w w' : World} {b : Nat} {a : Option Addr} {len cap p0 p : Nat} {v : Value} {L : List Int} {o : Obj} (h0 : Rd w0 b a len cap p0) (hr : Rd w b a len cap p) (hg : w0.grownBy w (some b)) (hown : NumRow w0.heap.size w v L) {g : Nat} {f : Nat → Value} (hres : w.rowIs g 25 1 f)
    (hg2 : (w.alloc o).grownBy w' v.ownBlock) : Rd w' b a len cap p ∧ w0.grownBy w' (some b) ∧ w'.rowIs g 25 1 f := by
  have hrow : ∀ g, v.ownBlock = some g → w0.heap.size ≤ g := fun g e => (hown.lt g e).1
  have hA := World.grownBy_alloc w o v.ownBlock
  have hA2 : w.grownBy w' v.ownBlock := ⟨hg2.os.trans hA.os, hg2.tape.trans hA.tape, hg2.output.trans hA.output, Nat.le_trans hA.size hg2.size, fun i hi hn => (hg2.block i (Nat.lt_of_lt_of_le hi hA.size) hn).trans (hA.block i hi hn)⟩
  exact ⟨Rd.kept h0 hr hg.size hA2 hrow, grown_own hg hA2 hrow, row_kept hres hA2 (fun e => row_ne_nums hres hown (by decide) e.symm)⟩
structure PS (w0 w : World) (b : Nat) (a : Option Addr) (len cap p g : Nat) (va : Value) (xs : List Int) (v : Value) (ms : List MM) : Prop where
  rd : Rd w b a len cap p
  gr : w0.grownBy w (some b)
  args : NumRow w0.heap.size w va xs
  box : w.rowIs g 25 1 (fun _ => v)
  own : w0.heap.size < g
  row : PRow w0.heap.size w v ms
  res : w.rowIs w0.heap.size 25 1 (fun _ => .slice none 0 0)
  r0 : ∃ p0, Rd w0 b a len cap p0
namespace PS
variable {w0 w w' W : World} {b : Nat} {a : Option Addr} {len cap p q g : Nat} {va : Value} {xs : List Int} {v v' : Value} {ms ms' : List MM}
theorem blt (h : PS w0 w b a len cap p g va xs v ms) : b < w0.heap.size := by obtain ⟨_, h0⟩ := h.r0; exact World.block_lt_of_cell? _ _ h0.s
theorem c0 (h : PS w0 w b a len cap p g va xs v ms) : w.cell? ⟨g, 0, none⟩ = some v := h.box.cell (by decide)
theorem f0 (h : PS w0 w b a len cap p g va xs v ms) : w.frozen? ⟨g, 0, none⟩ = false := h.box.frozen 0
theorem pick (h : PS w0 w b a len cap p g va xs v ms) (hrd : Rd w' b a len cap q) (hg : w.grownBy w' (some b)) : PS w0 w' b a len cap q g va xs v ms :=
  ⟨hrd, grown_trans h.gr hg, h.args.kept hg (fun k e hk => by cases e; have := (h.args.lt _ hk).1; have := h.blt; omega), row_kept h.box hg (by have := h.own; have := h.blt; simp; omega), h.own, h.row.low hg h.blt, row_kept h.res hg (by have := h.blt; simp; omega), h.r0⟩
theorem drew (h : PS w0 w b a len cap p g va xs v ms) : PS w0 w.drew b a len cap p g va xs v ms := ⟨Rd.heap h.rd rfl, ⟨h.gr.os, h.gr.tape, h.gr.output, h.gr.size, h.gr.block⟩, h.args, h.box, h.own, ⟨h.row.row, h.row.ops, h.row.dis⟩, h.res, h.r0⟩
theorem alloc (h : PS w0 w b a len cap p g va xs v ms) (o : Obj) : PS w0 (w.alloc o) b a len cap p g va xs v ms := by
  have hA := World.grownBy_alloc w o none
  exact ⟨h.rd.alloc o, grown_alloc h.gr o, World.ownsRow.alloc h.args o, row_kept h.box hA (by simp), h.own, h.row.kept hA (fun g e => by cases e), row_kept h.res hA (by simp), h.r0⟩
theorem appended (h : PS w0 w b a len cap p g va xs v ms) (hg2 : w.grownBy w' v.ownBlock) : Rd w' b a len cap p ∧ w0.grownBy w' (some b) ∧ NumRow w0.heap.size w' va xs ∧ w'.rowIs g 25 1 (fun _ => v) ∧ w'.rowIs w0.heap.size 25 1 (fun _ => .slice none 0 0) ∧ ∀ u L, OpsRow w0.heap.size w u L → OpsRow w0.heap.size w' u L := by
  have hrow : ∀ k, v.ownBlock = some k → w0.heap.size ≤ k := fun k e => (h.row.row.lt k e).1
  obtain ⟨p0, h0⟩ := h.r0
  exact ⟨Rd.kept h0 h.rd h.gr.size hg2 hrow, grown_own h.gr hg2 hrow, h.args.kept hg2 (fun k e hk => nrow_ne' h.args h.row.row k hk e), row_kept h.box hg2 (fun e => row_ne_meths h.box h.row.row (by decide) e.symm), row_kept h.res hg2 (fun e => row_ne_meths h.res h.row.row (by decide) e.symm),
    fun u L hu => hu.kept hg2 (fun k e hk => mrow_ne h.row.row hu k e hk)⟩
theorem stored (h : PS w0 w b a len cap p g va xs v ms) (hg2 : w.grownBy w' v.ownBlock) {A T : Int} {vo : Value} {L : List (Int × Int)} (hrow' : MRow w0.heap.size w' v' (ms.map MM.tri ++ [(A, T, vo)])) (ho : OpsRow w0.heap.size w vo L) (hd : ∀ m ∈ ms, ∀ k, m.2.2.1.ownBlock = some k → vo.ownBlock ≠ some k) :
    PS w0 (w'.setCell ⟨g, 0, none⟩ v') b a len cap p g va xs v' (ms ++ [(A, T, vo, L)]) := by
  obtain ⟨h1, h2, h3, h4, h5, h6⟩ := h.appended hg2
  have hown := h.own
  have k := grown_set w' g 0 v'
  have e : ∀ k, some g = some k → w0.heap.size ≤ k := fun k e => by cases e; omega
  obtain ⟨p0, h0⟩ := h.r0
  have hmr : MRow w0.heap.size w' v' ((ms ++ [(A, T, vo, L)]).map MM.tri) := by simpa [MM.tri] using hrow'
  have hops : ∀ m ∈ ms ++ [((A, T, vo, L) : MM)], OpsRow w0.heap.size w' m.2.2.1 m.2.2.2 := by
    intro m hm
    rcases List.mem_append.1 hm with hm | hm
    · exact h6 _ _ (h.row.ops m hm)
    · simp at hm; subst hm; exact h6 _ _ ho
  refine ⟨Rd.kept h0 h1 h2.size k e, grown_own h2 k e, h3.kept k (fun q hq hk => by cases hq; exact row_ne_nums h4 h3 (by decide) hk), (h4.set 0 v').congr (fun i hi => ?_), hown,
    ⟨hmr.kept k (fun q hq hk => by cases hq; exact row_ne_meths h4 hmr (by decide) hk), fun m hm => (hops m hm).kept k (fun q hq hk => by cases hq; exact row_ne_ops h4 (hops m hm) (by decide) hk), ?_⟩, row_kept h5 k (by simp; omega), h.r0⟩
  · match i, hi with | 0, _ => simp
  · exact List.pairwise_append.2 ⟨h.row.dis, by simp, fun m hm n hn => by simp at hn; subst hn; exact hd m hm⟩
theorem final (h : PS w0 w b a len cap p g va xs v ms) : PRow w0.heap.size (w.setCell ⟨w0.heap.size, 0, none⟩ v) v ms ∧ Rd (w.setCell ⟨w0.heap.size, 0, none⟩ v) b a len cap p ∧ w0.grownBy (w.setCell ⟨w0.heap.size, 0, none⟩ v) (some b) ∧ (w.setCell ⟨w0.heap.size, 0, none⟩ v).cell? ⟨w0.heap.size, 0, none⟩ = some v := by
  have k := grown_set w w0.heap.size 0 v
  have e : ∀ k, some w0.heap.size = some k → w0.heap.size ≤ k := fun k e => by cases e; exact Nat.le_refl _
  obtain ⟨p0, h0⟩ := h.r0
  refine ⟨h.row.kept k (fun q e => by cases e; exact ⟨row_ne_meths h.res h.row.row (by decide), fun m hm => row_ne_ops h.res (h.row.ops m hm) (by decide)⟩), Rd.kept h0 h.rd h.gr.size k e, grown_own h.gr k e, ?_⟩
  exact World.cell?_setCell_same _ _ _ (h.res.cell (i := 0) (by decide))
end PS
def mmOk (m : MM) : Prop := 2 ≤ m.2.2.2.length ∧ m.2.2.2.length ≤ 14
theorem prog_fit {ms : List MM} {xs : List Int} (hl : ms.length = xs.length) (h1 : 1 ≤ xs.length) (h4 : xs.length ≤ 4) (h0 : xs[0]? = some 0) (hw : ∀ i, (hi : i < ms.length) → methOk xs.length (ms[i].1, ms[i].2.1, ms[i].2.2.2) = true ∧ xs[i]? = some ms[i].1) : progOk (plainOf ms) = true := by
  have hpl : (plainOf ms).length = xs.length := by simp [plainOf, hl]
  have hm0 : 0 < ms.length := by omega
  have e0 : ms[0].1 = 0 := by
    have := (hw 0 hm0).2
    rw [h0] at this
    exact (Option.some.inj this).symm
  unfold progOk
  rw [hpl]
  simp only [Bool.and_eq_true]
  refine ⟨⟨inR_true.2 ⟨by omega, by omega⟩, ?_⟩, all_of fun i hi => ?_⟩
  · have e : (plainOf ms).getD 0 (0, 0, []) = (ms[0].1, ms[0].2.1, ms[0].2.2.2) := by simp [plainOf, hm0]
    rw [e, beq_iff_eq]
    exact e0
  · have hi' : i < ms.length := by rw [hpl] at hi; omega
    have e : (plainOf ms)[i] = (ms[i].1, ms[i].2.1, ms[i].2.2.2) := by simp [plainOf]
    rw [e]
    exact (hw i hi').1
set_option maxRecDepth 100000 in
set_option maxHeartbeats 4000000 in
theorem l71Prog_fit (w : World) (b : Nat) (a : Option Addr) (len cap p : Nat) (hr : Rd w b a len cap p) (hp : p + 400 ≤ 1000000) :
    Calls Try.prog 82 #[.pointer (some ⟨b, 0, none⟩)] w fun e w' => ∃ (v : Value) (ms : List MM) (p' : Nat), e = .returned (.agg #[v]) ∧ PRow w.heap.size w' v ms ∧ 2 ≤ ms.length ∧ ms.length ≤ 4 ∧ (∀ m ∈ ms, mmOk m) ∧ p ≤ p' ∧ p' ≤ p + 400 ∧ Rd w' b a len cap p' ∧ w.grownBy w' (some b) ∧ progOk (plainOf ms) = true := by
  have hbw : b < w.heap.size := World.block_lt_of_cell? _ _ hr.s
  have hrA := hr.alloc (.cells #[.slice none 0 0] 25)
  have hgA := grown_alloc (grown_refl w (some b)) (.cells #[.slice none 0 0] 25)
  have resA := pbox_new w (.slice none 0 0)
  have nB := NumRow.one (w.alloc (.cells #[.slice none 0 0] 25)) 0
  have hrB := hrA.alloc (.cells #[.int .i64 0] 3)
  have hgB := grown_alloc hgA (.cells #[.int .i64 0] 3)
  have resB := resA.alloc (.cells #[.int .i64 0] 3)
  simp only [World.size_alloc] at nB
  replace nB := nB.mono (Nat.le_succ _)
  clear hrA hgA resA
  go_enter Try.func82, Try.ntmps82
  go_wp2_with fail
  generalize (w.alloc (.cells #[.slice none 0 0] 25)).alloc (.cells #[.int .i64 0] 3) = W0 at *
  have hszB := hgB.size
  refine (pick_any _ _ _ _ _ _ _ hrB (by omega) (by omega) (by omega)).mono ?_
  rintro e w1 ⟨x, rfl, hx0, hx1, hrd1, hg1⟩
  have n1 := nB.kept hg1 (fun k e hk => by cases e; have := (nB.lt _ hk).1; omega)
  have res1 := row_kept resB hg1 (by simp; omega)
  have hgr1 := grown_trans hgB hg1
  clear hrB hgB hg1 nB resB
  obtain ⟨m, rfl⟩ := Int.eq_ofNat_of_zero_le hx0
  go_wp2_with fail
  go_loopg [3, 4] (m + 1) (fun d va n wr => ∃ (xs : List Int) (k q : Nat), d = k ∧ n = .int .i64 k ∧ NumRow w.heap.size wr va xs ∧ xs.length + k = m + 2 ∧ 1 ≤ xs.length ∧ (∀ i, (hi : i < xs.length) → 0 ≤ xs[i] ∧ xs[i] ≤ 2) ∧ p + 1 ≤ q ∧ q ≤ p + xs.length ∧ Rd wr b a len cap q ∧ w.grownBy wr (some b) ∧ wr.rowIs w.heap.size 25 1 (fun _ => .slice none 0 0) ∧ Hid (xs[0]? = some 0))
  case atStart => exact ⟨[0], m + 1, p + 1, rfl, by go_num, n1, by simp; omega, by simp, by simp, by omega, by simp, hrd1, hgr1, res1, rfl⟩
  case round =>
    obtain ⟨xs, k, q, hgk, rfl, hn, hlen, hl1, hxs, hq, hq', hrd, hgr, hres, H0⟩ := hrel
    replace hgk := hgk.symm
    subst hgk
    by_cases hk : 0 < k
    · have hkz : (0 : Int) < (k : Int) := by omega
      have hsz := hgr.size
      go_wp2_with fail
      refine (pick_any _ _ _ _ _ _ _ hrd (by omega) (by omega) (by omega)).mono ?_
      rintro e w2 ⟨y, rfl, hy0, hy1, hrd2, hg2⟩
      have hn2 := hn.kept hg2 (fun k e hk => by cases e; have := (hn.lt _ hk).1; omega)
      have hres2 := row_kept hres hg2 (by simp; omega)
      have hgr2 := grown_trans hgr hg2
      have hsz2 := hgr2.size
      clear hn hrd hgr hres hg2
      go_wp2_with (at_builtin; refine append_num _ (by rfl) _ _ (by rfl) _ _ xs (by rfl) hn2 _ _ (by rfl) (by omega) (by omega) ?_; intro g3 cp3 w3 hn3 hg3 hB3 hlt3)
      obtain ⟨hrd3, hgr3, hres3⟩ := after_append_num hr hrd2 hgr2 hn2 hres2 hg3
      clear hn2 hrd2 hgr2 hres2 hg3 hB3 hlt3
      go_wp2
      go_roundg (k - 1)
      case measure => omega
      case rel => exact ⟨xs ++ [y], k - 1, q + 1, rfl, by first | go_num | (simp; omega), by simpa using hn3, by simp; omega, by simp, fun i hi => by
        rw [List.getElem_append]
        split
        · exact hxs _ _
        · simp; omega, by omega, by simp; omega, hrd3, hgr3, hres3, by show _ = _; rw [List.getElem?_append_left (by omega)]; exact H0.out⟩
    · obtain rfl : k = 0 := by omega
      have hsz := hgr.size
      have hP : PS w (wr.alloc (.cells #[.slice none 0 0] 25)) b a len cap q wr.heap.size u3 xs (.slice none 0 0) [] := by
        refine ⟨hrd.alloc _, grown_alloc hgr _, World.ownsRow.alloc hn _, pbox_new _ _, ?_, PRow.nil _ _, hres.alloc _, ⟨p, hr⟩⟩
        have := hres.lt; omega
      obtain ⟨ga, ca, hva⟩ := hn.shape1 hl1
      subst hva
      have hxl : Hid (xs.length = m + 2) := by show xs.length = m + 2; omega
      clear hn hrd hgr hlen n1 hrd1 hgr1 res1 hres
      go_wp2_with fail
      generalize wr.alloc (.cells #[.slice none 0 0] 25) = W1 at *
      generalize wr.heap.size = gB at *
      go_loopg [6] xs.length (fun d i wq => ∃ (k q' : Nat) (v : Value) (ms : List MM), k ≤ xs.length ∧ d = xs.length - k ∧ i = .int .i64 k ∧ ms.length = k ∧ (∀ m ∈ ms, mmOk m) ∧ q ≤ q' ∧ q' ≤ q + 70 * k ∧ PS w wq b a len cap q' gB (.slice (some ⟨ga, 0, none⟩) xs.length ca) xs v ms ∧ Hid (∀ i, (hi : i < ms.length) → methOk xs.length (ms[i].1, ms[i].2.1, ms[i].2.2.2) = true ∧ xs[i]? = some ms[i].1))
      case atStart => exact ⟨0, q, _, [], Nat.zero_le _, rfl, rfl, rfl, by simp, by omega, by omega, hP, fun i hi => absurd hi (Nat.not_lt_zero _)⟩
      case round =>
        obtain ⟨k, q', v, ms, hk, rfl, rfl, HML, hmo, hqq, hqq', hPS, HW⟩ := hrel
        have hml : Hid (ms.length = k) := HML
        clear HML
        have hm4 : ms.length ≤ 4 := by have := hml.out; have := hxl.out; omega
        by_cases hlt : k < xs.length
        · have hkz : (k : Int) < (xs.length : Int) := by omega
          have c0 := hPS.c0
          have hszr := hPS.gr.size
          obtain ⟨aV, cV, hvV⟩ := hPS.row.shape
          subst hvV
          have HD : Hid (∀ m ∈ ms, ∀ k, m.2.2.1.ownBlock = some k → k < wr.heap.size) := fun m hm k e => ((hPS.row.ops m hm).lt k e).2
          have HX : Hid (∀ i, (hi : i < xs.length) → wr.cell? ⟨ga, i, none⟩ = some (.int .i64 xs[i]) ∧ 0 ≤ xs[i] ∧ xs[i] ≤ 2) := fun i hi => ⟨hPS.args.cell i hi, hxs i hi⟩
          have hgab : ga ≠ b := by have := (hPS.args.lt ga rfl).1; omega
          have hPd := hPS.drew
          clear hxs hPS
          have hl4 : xs.length ≤ 4 := by have := hxl.out; omega
          go_wp2_with fail
          go_region_law (first
            | (refine step_meths _ (by rfl) _ _ (by rfl) w.heap.size _ (ms.map MM.tri) (by rfl) (World.ownsRow.alloc hP4.row.row _) [(A, T, vo)] (by simp; exact hsl) ⟨w4.heap.size, 0, none⟩ _ (by rfl) (World.news_of_block (Go.Deep.blk_alloc_new w4 _)) (by simp) (by simp; omega) (by have := hP4.gr.size; simp; omega) ?_; intro g5 cp5 w5 hrow5 hg5 hB5 hlt5; have hap := (hP4.alloc _).appended hg5; have q0 := hap.2.2.2.1.cell (i := 0) (by decide); have e0 := hap.2.2.2.1.frozen 0)
            | (go_simp; go_at_call 122; refine (l71Method_fit _ _ _ _ _ _ ga _ xs k hPd.rd (by omega) HX.out hgab hlt hl4).mono ?_; rintro e w4 ⟨A, T, vo, L, q4, rfl, hrow4, hL2, hL14, hA0, hA2, hT1, hT4, hq4, hq4', hrd4, hg4, hAx, hAT, hOps⟩; have HM : Hid (methOk xs.length (A, T, L) = true ∧ xs[k]? = some A) := ⟨methOk_of (inR_true.2 ⟨hA0, hA2⟩) (inR_true.2 ⟨hAT, hT4⟩) hL14 hOps, by rw [hAx]; exact List.getElem?_eq_getElem _⟩; clear hAx hAT hOps; have hP4 := hPd.pick hrd4 hg4; have k0 := hP4.c0; have k0' := (fun o => cell_below ((Below.refl _ _).alloc (Nat.le_refl _) o) k0); have hsl : IsSlice vo := by obtain ⟨a1, c1, h1⟩ := hrow4.shape; exact ⟨_, _, _, h1⟩))
          all_goals
            simp only [List.length_map, List.length_cons, List.length_nil, Nat.zero_add] at hrow5
            have hPY := (hP4.alloc _).stored hg5 hrow5 (World.ownsRow.alloc (hrow4.mono (by simpa using hszr)) _) (fun m hm j e e' => by have := HD.out m hm j e; have := (hrow4.lt j e').1; simp at this; omega)
            have hmo' : ∀ m ∈ ms ++ [((A, T, vo, L) : MM)], mmOk m := fun m hm => by
              rcases List.mem_append.1 hm with hm | hm
              · exact hmo m hm
              · simp at hm; subst hm; exact ⟨hL2, hL14⟩
            have HW' : Hid (∀ i, (hi : i < (ms ++ [((A, T, vo, L) : MM)]).length) → methOk xs.length ((ms ++ [((A, T, vo, L) : MM)])[i].1, (ms ++ [((A, T, vo, L) : MM)])[i].2.1, (ms ++ [((A, T, vo, L) : MM)])[i].2.2.2) = true ∧ xs[i]? = some (ms ++ [((A, T, vo, L) : MM)])[i].1) := by
              intro i hi
              by_cases e : i < ms.length
              · rw [List.getElem_append_left e]
                exact HW.out i e
              · have e2 : i = ms.length := by simp at hi; omega
                subst e2
                rw [List.getElem_append_right (Nat.le_refl _)]
                simp only [Nat.sub_self, List.getElem_cons_zero]
                rw [hml.out]
                exact HM.out
            clear HW HM
            clear hap q0 e0 hg5 hrow5 hB5 hlt5 k0 k0' hP4 hrd4 hg4 hPd HX HD hrow4
            go_wp2
            go_roundg (xs.length - (k + 1))
            case measure => omega
            case rel => exact ⟨k + 1, q4, _, _, by omega, rfl, by go_num, by have := hml.out; simp; omega, hmo', by omega, by omega, hPY, HW'⟩
        · obtain rfl : k = xs.length := by omega
          have c0 := hPS.c0
          have r0 := hPS.res.cell (i := 0) (by decide)
          have rf := hPS.res.frozen 0
          have HPK : Hid (progOk (plainOf ms) = true) := prog_fit hml.out (by omega) (by have := hml.out; omega) H0.out HW.out
          have hF := hPS.final
          obtain ⟨aV, cV, hvV⟩ := hPS.row.shape
          subst hvV
          clear hPS
          go_wp2
          generalize wr.setCell ⟨w.heap.size, 0, none⟩ (.slice aV ms.length cV) = W3 at hF ⊢
          obtain ⟨h1, h2, h3, d0⟩ := hF
          exact bodyPost_ret (v := .agg #[.slice aV ms.length cV]) (by simp [results, Try.results82, go_sem, d0]) rfl ⟨_, _, _, rfl, h1, by have := hml.out; have := hxl.out; omega, hm4, hmo, by omega, by have := hxl.out; omega, h2, h3, HPK.out⟩
theorem l71Prog_any (w : World) (b : Nat) (a : Option Addr) (len cap p : Nat) (hr : Rd w b a len cap p) (hp : p + 400 ≤ 1000000) :
    Calls Try.prog 82 #[.pointer (some ⟨b, 0, none⟩)] w fun e w' => ∃ (v : Value) (ms : List MM) (p' : Nat), e = .returned (.agg #[v]) ∧ PRow w.heap.size w' v ms ∧ 2 ≤ ms.length ∧ ms.length ≤ 4 ∧ (∀ m ∈ ms, mmOk m) ∧ p ≤ p' ∧ p' ≤ p + 400 ∧ Rd w' b a len cap p' ∧ w.grownBy w' (some b) :=
  (l71Prog_fit w b a len cap p hr hp).mono fun _ _ ⟨v, ms, p', h1, h2, h3, h4, h5, h6, h7, h8, h9, _⟩ => ⟨v, ms, p', h1, h2, h3, h4, h5, h6, h7, h8, h9⟩
end Go.Proofs.Ytldiccheboipeaa
