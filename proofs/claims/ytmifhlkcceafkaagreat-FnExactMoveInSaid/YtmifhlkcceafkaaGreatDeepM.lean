/-
  markProg of the exact laws: it writes into the blocks of the program that it is handed, and nowhere else.
-/
import Derived.Test.YtmifhlkcceafkaaGreatCopy2
import Derived.Test.YtmifhlkcceafkaaGreatInts
import Derived.Test.YtmifhlkcceafkaaGreatHPlain
import Derived.Test.YtmifhlkcceafkaaGreatOwn

namespace Go.Proofs.YtmifhlkcceafkaaGreat
open Go.RowKit
def IP (w w' : World) : Prop := ∀ p x, w.cell? p = some (.int .i64 x) → ∃ y, w'.cell? p = some (.int .i64 y)
theorem IP.refl (w : World) : IP w w := fun _ x h => ⟨x, h⟩
theorem IP.trans {a b c : World} (h : IP a b) (k : IP b c) : IP a c := fun p x hx => by obtain ⟨y, hy⟩ := h p x hx; exact k p y hy
theorem IP.set {a b : World} (h : IP a b) (q : Addr) (z : Int) : IP a (b.setCell q (.int .i64 z)) := fun p x hx => by
  obtain ⟨y, hy⟩ := h p x hx
  by_cases e : q = p
  · subst e; exact ⟨z, World.cell?_setCell_same _ _ _ hy⟩
  · exact ⟨y, by rw [World.cell?_setCell_other _ _ _ _ e]; exact hy⟩
def FS (w w' : World) : Prop := ∀ p, w'.frozen? p = w.frozen? p
structure Mid (B C : Nat) (w w' : World) : Prop where
  os : w'.os = w.os
  tape : w'.tape = w.tape
  output : w'.output = w.output
  size : w.heap.size ≤ w'.heap.size
  block : ∀ k, k < w.heap.size → k < B ∨ C ≤ k → w'.heap[k]? = w.heap[k]?
theorem Mid.refl (B C : Nat) (w : World) : Mid B C w w := ⟨rfl, rfl, rfl, Nat.le_refl _, fun _ _ _ => rfl⟩
theorem Mid.grown {B C : Nat} {w w1 w2 : World} (h : Mid B C w w1) {g : Nat} (hg : w1.grownBy w2 (some g)) (h1 : B ≤ g) (h2 : g < C) : Mid B C w w2 :=
  ⟨hg.os.trans h.os, hg.tape.trans h.tape, hg.output.trans h.output, Nat.le_trans h.size hg.size, fun k hk hc => (hg.block k (Nat.lt_of_lt_of_le hk h.size) (fun e => by cases e; omega)).trans (h.block k hk hc)⟩
theorem Mid.set {B C : Nat} {w w1 : World} (h : Mid B C w w1) (g o : Nat) (v : Value) (h1 : B ≤ g) (h2 : g < C) : Mid B C w (w1.setCell ⟨g, o, none⟩ v) :=
  h.grown (g := g) ⟨rfl, rfl, rfl, by simp [World.setCell], fun k _ hk => Below.heap_setCell _ _ _ _ (fun e => hk (by rw [e]))⟩ h1 h2
def rowOfM (n g : Nat) : Option Nat := if n = 0 then none else some g
theorem Mid.row {B C n : Nat} {w w1 w2 : World} (h : Mid B C w w1) {g : Nat} (hg : w1.grownBy w2 (rowOfM n g)) (h1 : n ≠ 0 → B ≤ g ∧ g < C) : Mid B C w w2 := by
  by_cases e : n = 0
  · rw [show rowOfM n g = none from if_pos e] at hg
    exact ⟨hg.os.trans h.os, hg.tape.trans h.tape, hg.output.trans h.output, Nat.le_trans h.size hg.size, fun k hk hc => (hg.block k (Nat.lt_of_lt_of_le hk h.size) (fun e => by cases e)).trans (h.block k hk hc)⟩
  · rw [show rowOfM n g = some g from if_neg e] at hg
    exact h.grown hg (h1 e).1 (h1 e).2
theorem row_cell {n g : Nat} {w w2 : World} (hg : w.grownBy w2 (rowOfM n g)) {p : Addr} {v : Value} (h : w.cell? p = some v) (hne : p.block ≠ g) : w2.cell? p = some v :=
  hg.cell h (fun e => by
    unfold rowOfM at e
    split at e
    · cases e
    · exact hne (by injection e))
set_option maxRecDepth 100000 in
set_option maxHeartbeats 1000000 in
theorem markOpS_any (g n c : Nat) (k : Int) (w : World) (hn : n ≤ 1048576) (hk0 : 0 ≤ k) (hk1 : k ≤ 1125899906842624) (hc : ∀ q, q < n * 2 → ∃ x, w.cell? ⟨g, q, none⟩ = some (.int .i64 x)) (hf : ∀ q, q < n * 2 → w.frozen? ⟨g, q, none⟩ = false) :
    Calls Tryz.prog 82 #[.slice (some ⟨g, 0, none⟩) n c, .int .i64 k] w fun e w' => e = .returned (.int .i64 (k + 2 * (n : Int))) ∧ w.grownBy w' (rowOfM n g) ∧ IP w w' ∧ FS w w' := by
  go_enter Tryz.func82, Tryz.ntmps82
  go_wp2
  go_loopg [1, 5] n (fun gg kv i wr => ∃ j : Nat, j ≤ n ∧ gg = n - j ∧ i = .int .i64 j ∧ kv = .int .i64 (k + 2 * (j : Int)) ∧ w.grownBy wr (rowOfM n g) ∧ IP w wr ∧ FS w wr)
  case atStart => exact ⟨0, Nat.zero_le _, rfl, rfl, by simp, ⟨rfl, rfl, rfl, Nat.le_refl _, fun _ _ _ => rfl⟩, IP.refl w, fun _ => rfl⟩
  case round =>
    obtain ⟨j, hj, rfl, rfl, rfl, hg, hip, hfs⟩ := hrel
    by_cases hlt : j < n
    · obtain ⟨x0, e0⟩ := hc (j * 2) (by omega)
      obtain ⟨x1, e1⟩ := hc (j * 2 + 1) (by omega)
      obtain ⟨y0, d0⟩ := hip _ _ e0
      obtain ⟨y1, d1⟩ := hip _ _ e1
      have f0 : wr.frozen? ⟨g, j * 2, none⟩ = false := (hfs _).trans (hf _ (by omega))
      have f1 : wr.frozen? ⟨g, j * 2 + 1, none⟩ = false := (hfs _).trans (hf _ (by omega))
      have hro : rowOfM n g = some g := if_neg (by omega)
      have hjz : (j : Int) < (n : Int) := by omega
      have hg2 : ∀ u1 u2, w.grownBy ((wr.setCell ⟨g, j * 2, none⟩ u1).setCell ⟨g, j * 2 + 1, none⟩ u2) (rowOfM n g) := fun u1 u2 => by rw [hro] at hg ⊢; exact ⟨hg.os, hg.tape, hg.output, by simp [World.setCell]; exact hg.size, fun q hq hne => (Below.heap_setCell _ _ _ _ (fun e => hne (by rw [e]))).trans ((Below.heap_setCell _ _ _ _ (fun e => hne (by rw [e]))).trans (hg.block q hq hne))⟩
      have hip2 : ∀ z1 z2, IP w ((wr.setCell ⟨g, j * 2, none⟩ (.int .i64 z1)).setCell ⟨g, j * 2 + 1, none⟩ (.int .i64 z2)) := fun z1 z2 => (hip.set _ _).set _ _
      have hfs2 : ∀ u1 u2, FS w ((wr.setCell ⟨g, j * 2, none⟩ u1).setCell ⟨g, j * 2 + 1, none⟩ u2) := fun u1 u2 p => by rw [World.frozen?_setCell, World.frozen?_setCell]; exact hfs p
      have hw1 : IntKind.i64.wrap (k + 2 * (j : Int) + 1) = k + 2 * (j : Int) + 1 := by rw [IntKind.wrap_i64]; omega
      have hw2 : IntKind.i64.wrap (k + 2 * (j : Int) + 1 + 1) = k + 2 * (j : Int) + 1 + 1 := by rw [IntKind.wrap_i64]; omega
      clear hip hfs hg hro
      go_wp2
      go_roundg (n - (j + 1))
      case measure => omega
      case rel => exact ⟨j + 1, by omega, rfl, by go_num, by rw [show k + 2 * (j : Int) + 1 + 1 = k + 2 * ((j + 1 : Nat) : Int) by omega], hg2 _ _, hip2 _ _, hfs2 _ _⟩
    · obtain rfl : j = n := by omega
      go_wp2
      go_ret
      exact ⟨rfl, hg, hip, hfs⟩
set_option maxRecDepth 100000 in
set_option maxHeartbeats 1000000 in
theorem markMethodS_any (B : Nat) (v : Value) (ms : List (Int × Int × List (Int × Int))) (w2 w : World) (h : MethsNew B w2 v ms) (hnf : NF B w2) (hhi : MethsHi w2 v ms) (hb : Below w2.heap.size w2 w) (hn : ms.length ≤ 1048576) (ho : ∀ i, (hi : i < ms.length) → ms[i].2.2.length ≤ 1048576) :
    Calls Tryz.prog 41 #[v, .int .i64 1] w fun e w' => Mid B w2.heap.size w w' ∧ ∃ K : Int, e = .returned (.int .i64 K) ∧ 0 ≤ K ∧ K ≤ 2199025352705 := by
  obtain ⟨g, cap, rfl, hBg, hl, hc⟩ := h
  obtain ⟨g', cap', e, hc2⟩ := hhi
  obtain ⟨rfl, rfl⟩ : g = g' ∧ cap = cap' := by injection e with e1 _ e2; injection e1 with e1; injection e1 with e1; exact ⟨e1, e2⟩
  clear e
  unfold maxLen at hl
  have HTS0 : Hid (∀ q, q < ms.length → (w.cell? ⟨g, q * 3 + 2, none⟩).isSome = true) := fun q hq => by
    obtain ⟨vo, h1, _⟩ := hc2 q hq
    rw [cell_below hb h1]; rfl
  go_enter Tryz.func41, Tryz.ntmps41
  go_wp2
  go_loopg [1, 5] ms.length (fun gg kv i wr => ∃ (j : Nat) (K : Int), j ≤ ms.length ∧ gg = ms.length - j ∧ i = .int .i64 j ∧ kv = .int .i64 K ∧ 0 ≤ K ∧ K ≤ 1 + (j : Int) * 2097154 ∧ Mid B w2.heap.size w wr ∧ IP w wr ∧ FS w wr ∧ ∀ q, q < ms.length → wr.cell? ⟨g, q * 3 + 2, none⟩ = w.cell? ⟨g, q * 3 + 2, none⟩)
  case atStart => exact ⟨0, 1, Nat.zero_le _, rfl, rfl, rfl, by omega, by omega, Mid.refl _ _ _, IP.refl w, fun _ => rfl, fun _ _ => rfl⟩
  case round =>
    obtain ⟨j, K, hj, rfl, rfl, rfl, hK0, hK1, hmid, hip, hfs, hth⟩ := hrel
    by_cases hlt : j < ms.length
    · obtain ⟨vo, c0, c1, c2, c3, c4⟩ := hc j hlt
      obtain ⟨vo', c2', c5⟩ := hc2 j hlt
      rw [Nat.zero_add] at c0 c1 c2
      obtain rfl : vo = vo' := Option.some.inj (c2.symm.trans c2')
      obtain ⟨go, lo, co, rfl, hgo⟩ := c5
      have hgl : g < w2.heap.size := World.block_lt_of_cell? _ _ c0
      obtain ⟨ao, cc, hvo, _, hcc⟩ := c3
      obtain ⟨rfl, rfl, rfl⟩ : ao = some ⟨go, 0, none⟩ ∧ lo = ms[j].2.2.length ∧ cc = co := by injection hvo with e1 e2 e3; exact ⟨e1.symm, e2, e3.symm⟩
      clear hvo
      have hol := ho j hlt
      obtain ⟨y0, d0⟩ := hip _ _ (cell_below hb c0)
      obtain ⟨y1, d1⟩ := hip _ _ (cell_below hb c1)
      have d2 : wr.cell? ⟨g, j * 3 + 2, none⟩ = some (.slice (some ⟨go, 0, none⟩) ms[j].2.2.length cc) := (hth j hlt).trans (cell_below hb c2)
      have fr : ∀ b o, B ≤ b → b < w2.heap.size → wr.frozen? ⟨b, o, none⟩ = false := fun b o h1 h2 => (hfs _).trans ((hb.frozen (p := ⟨b, o, none⟩) h2).trans (hnf b o h1))
      have f0 := fr g (j * 3) hBg hgl
      have f1 := fr g (j * 3 + 1) hBg hgl
      have hjz : (j : Int) < (ms.length : Int) := by omega
      have hopc : ∀ q, q < ms[j].2.2.length * 2 → ∃ x, wr.cell? ⟨go, q, none⟩ = some (.int .i64 x) := fun q hq => by
        obtain ⟨b', o', e', h0', h1'⟩ := hcc (q / 2) (by omega)
        obtain ⟨rfl, rfl⟩ : go = b' ∧ 0 = o' := by simpa using e'
        rcases Nat.mod_two_eq_zero_or_one q with hm | hm
        · rw [show 0 + q / 2 * 2 = q by omega] at h0'; exact hip _ _ (cell_below hb h0')
        · rw [show 0 + q / 2 * 2 + 1 = q by omega] at h1'; exact hip _ _ (cell_below hb h1')
      have hgoB : ∀ q, q < ms[j].2.2.length * 2 → go < w2.heap.size := fun q hq => by
        obtain ⟨b', o', e', h0', _⟩ := hcc (q / 2) (by omega)
        obtain ⟨rfl, rfl⟩ : go = b' ∧ 0 = o' := by simpa using e'
        exact World.block_lt_of_cell? _ _ h0'
      have hw1 : IntKind.i64.wrap (K + 1) = K + 1 := by rw [IntKind.wrap_i64]; omega
      have hw2 : IntKind.i64.wrap (K + 1 + 1) = K + 1 + 1 := by rw [IntKind.wrap_i64]; omega
      have hne : go ≠ g := by omega
      clear c0 c1 c2 c2' c4 hcc hc hc2 ho
      have hd2 : ∀ u1 u2, ((wr.setCell ⟨g, j * 3, none⟩ u1).setCell ⟨g, j * 3 + 1, none⟩ u2).cell? ⟨g, j * 3 + 2, none⟩ = some (.slice (some ⟨go, 0, none⟩) ms[j].2.2.length cc) := fun u1 u2 => by
        rw [World.cell?_setCell_other _ _ _ _ (fun e => by have := congrArg Addr.off e; simp at this), World.cell?_setCell_other _ _ _ _ (fun e => by have := congrArg Addr.off e; simp at this)]; exact d2
      have HTH : Hid (∀ q, q < ms.length → wr.cell? ⟨g, q * 3 + 2, none⟩ = w.cell? ⟨g, q * 3 + 2, none⟩) := hth
      have HTS : Hid (∀ q, q < ms.length → (w.cell? ⟨g, q * 3 + 2, none⟩).isSome = true) := HTS0.out
      have hm3 : ∀ u1 u2, Mid B w2.heap.size w ((wr.setCell ⟨g, j * 3, none⟩ u1).setCell ⟨g, j * 3 + 1, none⟩ u2) := fun u1 u2 => (hmid.set g _ _ hBg hgl).set g _ _ hBg hgl
      have hip3 : ∀ z1 z2, IP w ((wr.setCell ⟨g, j * 3, none⟩ (.int .i64 z1)).setCell ⟨g, j * 3 + 1, none⟩ (.int .i64 z2)) := fun z1 z2 => (hip.set _ _).set _ _
      have hip0 : ∀ z1 z2, IP wr ((wr.setCell ⟨g, j * 3, none⟩ (.int .i64 z1)).setCell ⟨g, j * 3 + 1, none⟩ (.int .i64 z2)) := fun z1 z2 => ((IP.refl wr).set _ _).set _ _
      have hfs3 : ∀ u1 u2, FS w ((wr.setCell ⟨g, j * 3, none⟩ u1).setCell ⟨g, j * 3 + 1, none⟩ u2) := fun u1 u2 p => by rw [World.frozen?_setCell, World.frozen?_setCell]; exact hfs p
      clear hmid hip hfs hth
      go_wp2_with fail
      refine (markOpS_any go _ _ _ _ hol (by omega) (by omega) (fun q hq => by obtain ⟨x, hx⟩ := hopc q hq; exact hip0 _ _ _ _ hx) (fun q hq => by rw [World.frozen?_setCell, World.frozen?_setCell]; exact fr go q (by omega) (hgoB q hq))).mono ?_
      rintro e w5 ⟨rfl, hg5, hip5, hfs5⟩
      have M5 := (hm3 _ _).row hg5 (fun hne0 => ⟨by omega, hgoB 0 (by omega)⟩)
      have I5 := (hip3 _ _).trans hip5
      have F5 : FS w w5 := fun p => (hfs5 p).trans (hfs3 _ _ p)
      have T5 : Hid (∀ q, q < ms.length → w5.cell? ⟨g, q * 3 + 2, none⟩ = w.cell? ⟨g, q * 3 + 2, none⟩) := fun q hq => by
        obtain ⟨u, hu⟩ := Option.isSome_iff_exists.1 (HTS.out q hq)
        have h1 := (HTH.out q hq).trans hu
        rw [hu]
        refine row_cell hg5 ?_ (Ne.symm hne)
        rw [World.cell?_setCell_other _ _ _ _ (fun e => by have := congrArg Addr.off e; simp at this; omega), World.cell?_setCell_other _ _ _ _ (fun e => by have := congrArg Addr.off e; simp at this; omega)]; exact h1
      have hKn : K + 1 + 1 + 2 * (ms[j].2.2.length : Int) ≤ 1 + ((j + 1 : Nat) : Int) * 2097154 := by omega
      clear hg5 hip5 hfs5 hm3 hip3 hip0 hfs3 HTH hd2 hopc fr
      go_wp2
      go_roundg (ms.length - (j + 1))
      case measure => omega
      case rel => exact ⟨j + 1, _, by omega, rfl, by go_num, rfl, by omega, hKn, M5, I5, F5, T5.out⟩
    · obtain rfl : j = ms.length := by omega
      go_wp2
      go_ret
      exact ⟨hmid, K, rfl, hK0, by omega⟩
set_option maxRecDepth 100000 in
theorem markProg_any (B : Nat) (v : Value) (ms : List (Int × Int × List (Int × Int))) (w2 w : World) (h : MethsNew B w2 v ms) (hnf : NF B w2) (hhi : MethsHi w2 v ms) (hb : Below w2.heap.size w2 w) (hn : ms.length ≤ 1048576) (ho : ∀ i, (hi : i < ms.length) → ms[i].2.2.length ≤ 1048576) :
    Calls Tryz.prog 13 #[.agg #[v], .int .i64 1] w fun e w' => Mid B w2.heap.size w w' ∧ ∃ K : Int, e = .returned (.int .i64 K) ∧ 0 ≤ K ∧ K ≤ 2199025352705 := by
  obtain ⟨g, l, c, rfl, hg⟩ := h.own
  have hA : Below w.heap.size w (w.alloc (.cells #[.slice (some ⟨g, 0, none⟩) l c] 41)) := (Below.refl _ _).alloc (Nat.le_refl _) _
  go_enter Tryz.func13, Tryz.ntmps13
  go_wp2_with fail
  generalize w.alloc (.cells #[.slice (some ⟨g, 0, none⟩) l c] 41) = W0 at *
  refine (markMethodS_any B _ ms w2 _ h hnf hhi (hb.trans (hA.mono hb.size)) hn ho).mono ?_
  rintro e w1 ⟨hm, K, rfl, hK⟩
  have M1 : Mid B w2.heap.size w w1 := ⟨hm.os.trans hA.os, hm.tape.trans hA.tape, hm.output.trans hA.output, Nat.le_trans hA.size hm.size, fun k hk hc => (hm.block k (Nat.lt_of_lt_of_le hk hA.size) hc).trans (hA.block k hk)⟩
  clear hm h hhi hnf ho
  go_wp2
  go_ret
  exact ⟨M1, K, rfl, hK⟩
end Go.Proofs.YtmifhlkcceafkaaGreat

/-
  Plain words for what machines of this project look like in memory (frames, pages, twins), and how such facts are carried from one world to a later one. Boxes of any number of cells. Nothing of the translation is used here.
-/
namespace Go.Proofs.YtmifhlkcceafkaaGreat
open Go.RowKit
structure Fr where
  m : Int
  pc : Int
  twin : Int
  temps : List (Int × Int)
  stack : List (Int × Int)
structure Pg where
  base : Int
  frames : List Fr
structure Tw where
  page : Int
  place : Int
  left : Cl
structure Mc where
  cells : Int
  pages : List Pg
  order : List Int
  now : Int
  twins : List Tw
  born : Int
  said : List (Int × Int)
  code : Int
def IntsAt (w : World) (v : Value) (xs : List Int) : Prop :=
  ∃ (a : Option Addr) (cap : Nat), v = .slice a xs.length cap ∧ xs.length ≤ maxLen ∧ ∀ i, (h : i < xs.length) → ∃ b o, a = some ⟨b, o, none⟩ ∧ w.cell? ⟨b, o + i, none⟩ = some (.int .i64 xs[i])
theorem IntsAt.below {w w' : World} {v : Value} {xs : List Int} (h : IntsAt w v xs) (hb : Below w.heap.size w w') : IntsAt w' v xs := by
  obtain ⟨a, cap, hv, hl, hc⟩ := h
  refine ⟨a, cap, hv, hl, fun i hi => ?_⟩
  obtain ⟨b, o, ha, h0⟩ := hc i hi
  exact ⟨b, o, ha, cell_below hb h0⟩
theorem IntsAt.shape {w : World} {v : Value} {xs : List Int} (h : IntsAt w v xs) : ∃ a c, v = .slice a xs.length c := by
  obtain ⟨a, c, hv, _⟩ := h
  exact ⟨a, c, hv⟩
theorem IntRow.at {B : Nat} {w : World} {v : Value} {xs : List Int} (h : IntRow B w v xs) : IntsAt w v xs := by
  rcases h with ⟨rfl, rfl⟩ | ⟨g, off, cap, rfl, _, _, hl, hm, _, hx⟩
  · exact ⟨none, 0, rfl, Nat.zero_le _, fun _ hi => absurd hi (Nat.not_lt_zero _)⟩
  · exact ⟨_, cap, rfl, by omega, fun i hi => ⟨g, off, rfl, hx i hi⟩⟩
structure FrAt (w : World) (b o : Nat) (vt vs : Value) (f : Fr) : Prop where
  c0 : w.cell? ⟨b, o, none⟩ = some (.int .i64 f.m)
  c1 : w.cell? ⟨b, o + 1, none⟩ = some (.int .i64 f.pc)
  c2 : w.cell? ⟨b, o + 2, none⟩ = some (.int .i64 f.twin)
  c3 : w.cell? ⟨b, o + 3, none⟩ = some vt
  c4 : w.cell? ⟨b, o + 4, none⟩ = some vs
  t : OpsAt w vt f.temps
  s : OpsAt w vs f.stack
theorem FrAt.below {w w' : World} {b o : Nat} {vt vs : Value} {f : Fr} (h : FrAt w b o vt vs f) (hb : Below w.heap.size w w') : FrAt w' b o vt vs f :=
  ⟨cell_below hb h.c0, cell_below hb h.c1, cell_below hb h.c2, cell_below hb h.c3, cell_below hb h.c4, h.t.below hb, h.s.below hb⟩
def FramesAt (w : World) (v : Value) (fs : List Fr) : Prop :=
  ∃ (a : Option Addr) (cap : Nat), v = .slice a fs.length cap ∧ fs.length ≤ maxLen ∧
    ∀ i, (h : i < fs.length) → ∃ b o vt vs, a = some ⟨b, o, none⟩ ∧ FrAt w b (o + i * 5) vt vs fs[i]
theorem FramesAt.below {w w' : World} {v : Value} {fs : List Fr} (h : FramesAt w v fs) (hb : Below w.heap.size w w') : FramesAt w' v fs := by
  obtain ⟨a, cap, hv, hl, hc⟩ := h
  refine ⟨a, cap, hv, hl, fun i hi => ?_⟩
  obtain ⟨b, o, vt, vs, ha, h0⟩ := hc i hi
  exact ⟨b, o, vt, vs, ha, h0.below hb⟩
theorem FramesAt.shape {w : World} {v : Value} {fs : List Fr} (h : FramesAt w v fs) : ∃ a c, v = .slice a fs.length c := by
  obtain ⟨a, c, hv, _⟩ := h
  exact ⟨a, c, hv⟩
theorem FramesAt.nil (w : World) : FramesAt w (.slice none 0 0) [] := ⟨none, 0, rfl, Nat.zero_le _, fun _ hi => absurd hi (Nat.not_lt_zero _)⟩
structure PgAt (w : World) (b o : Nat) (vf : Value) (p : Pg) : Prop where
  c0 : w.cell? ⟨b, o, none⟩ = some (.int .i64 p.base)
  c1 : w.cell? ⟨b, o + 1, none⟩ = some vf
  f : FramesAt w vf p.frames
theorem PgAt.below {w w' : World} {b o : Nat} {vf : Value} {p : Pg} (h : PgAt w b o vf p) (hb : Below w.heap.size w w') : PgAt w' b o vf p := ⟨cell_below hb h.c0, cell_below hb h.c1, h.f.below hb⟩
def PagesAt (w : World) (v : Value) (ps : List Pg) : Prop :=
  ∃ (a : Option Addr) (cap : Nat), v = .slice a ps.length cap ∧ ps.length ≤ maxLen ∧ ∀ i, (h : i < ps.length) → ∃ b o vf, a = some ⟨b, o, none⟩ ∧ PgAt w b (o + i * 2) vf ps[i]
theorem PagesAt.below {w w' : World} {v : Value} {ps : List Pg} (h : PagesAt w v ps) (hb : Below w.heap.size w w') : PagesAt w' v ps := by
  obtain ⟨a, cap, hv, hl, hc⟩ := h
  refine ⟨a, cap, hv, hl, fun i hi => ?_⟩
  obtain ⟨b, o, vf, ha, h0⟩ := hc i hi
  exact ⟨b, o, vf, ha, h0.below hb⟩
theorem PagesAt.shape {w : World} {v : Value} {ps : List Pg} (h : PagesAt w v ps) : ∃ a c, v = .slice a ps.length c := by
  obtain ⟨a, c, hv, _⟩ := h
  exact ⟨a, c, hv⟩
structure TwAt (w : World) (b o : Nat) (vt vs : Value) (x : Tw) : Prop where
  c0 : w.cell? ⟨b, o, none⟩ = some (.int .i64 x.page)
  c1 : w.cell? ⟨b, o + 1, none⟩ = some (.int .i64 x.place)
  c2 : w.cell? ⟨b, o + 2, none⟩ = some (.int .i64 x.left.m)
  c3 : w.cell? ⟨b, o + 3, none⟩ = some (.int .i64 x.left.pc)
  c4 : w.cell? ⟨b, o + 4, none⟩ = some vt
  c5 : w.cell? ⟨b, o + 5, none⟩ = some vs
  c6 : w.cell? ⟨b, o + 6, none⟩ = some (.int .i64 x.left.sender)
  c7 : w.cell? ⟨b, o + 7, none⟩ = some (.bool x.left.dead)
  t : OpsAt w vt x.left.temps
  s : OpsAt w vs x.left.stack
theorem TwAt.below {w w' : World} {b o : Nat} {vt vs : Value} {t : Tw} (h : TwAt w b o vt vs t) (hb : Below w.heap.size w w') : TwAt w' b o vt vs t :=
  ⟨cell_below hb h.c0, cell_below hb h.c1, cell_below hb h.c2, cell_below hb h.c3, cell_below hb h.c4, cell_below hb h.c5, cell_below hb h.c6, cell_below hb h.c7, h.t.below hb, h.s.below hb⟩
def TwinsAt (w : World) (v : Value) (ts : List Tw) : Prop :=
  ∃ (a : Option Addr) (cap : Nat), v = .slice a ts.length cap ∧ ts.length ≤ maxLen ∧ ∀ i, (h : i < ts.length) → ∃ b o vt vs, a = some ⟨b, o, none⟩ ∧ TwAt w b (o + i * 8) vt vs ts[i]
theorem TwinsAt.below {w w' : World} {v : Value} {ts : List Tw} (h : TwinsAt w v ts) (hb : Below w.heap.size w w') : TwinsAt w' v ts := by
  obtain ⟨a, cap, hv, hl, hc⟩ := h
  refine ⟨a, cap, hv, hl, fun i hi => ?_⟩
  obtain ⟨b, o, vt, vs, ha, h0⟩ := hc i hi
  exact ⟨b, o, vt, vs, ha, h0.below hb⟩
theorem TwinsAt.shape {w : World} {v : Value} {ts : List Tw} (h : TwinsAt w v ts) : ∃ a c, v = .slice a ts.length c := by
  obtain ⟨a, c, hv, _⟩ := h
  exact ⟨a, c, hv⟩
theorem TwinsAt.nil (w : World) : TwinsAt w (.slice none 0 0) [] := ⟨none, 0, rfl, Nat.zero_le _, fun _ hi => absurd hi (Nat.not_lt_zero _)⟩
def mcCells (vp vo vt vs : Value) (m : Mc) : List Value := [.int .i64 m.cells, vp, vo, .int .i64 m.now, vt, .int .i64 m.born, vs, .int .i64 m.code]
structure MachAt (w : World) (vp vo vt vs : Value) (m : Mc) : Prop where
  p : PagesAt w vp m.pages
  o : IntsAt w vo m.order
  t : TwinsAt w vt m.twins
  s : OpsAt w vs m.said
theorem MachAt.below {w w' : World} {vp vo vt vs : Value} {m : Mc} (h : MachAt w vp vo vt vs m) (hb : Below w.heap.size w w') : MachAt w' vp vo vt vs m := ⟨h.p.below hb, h.o.below hb, h.t.below hb, h.s.below hb⟩
structure Mc.small (m : Mc) : Prop where
  pages : m.pages.length ≤ 1048576
  frames : ∀ i, (hi : i < m.pages.length) → m.pages[i].frames.length ≤ 1048576
  twins : m.twins.length ≤ 1048576
  order : m.order.length ≤ 1048576
  said : m.said.length ≤ 1048576
  temps : ∀ i, (hi : i < m.pages.length) → ∀ j, (hj : j < m.pages[i].frames.length) → m.pages[i].frames[j].temps.length ≤ 1048576 ∧ m.pages[i].frames[j].stack.length ≤ 1048576
  left : ∀ i, (hi : i < m.twins.length) → m.twins[i].left.small
/-! ### boxes -/
def Bx (w : World) (g : Nat) (t : TypeId) (l : List Value) : Prop := w.rowIs g t l.length fun i => l.getD i undef
theorem Bx.new (w : World) (t : TypeId) (l : List Value) : Bx (w.alloc (.cells l.toArray t)) w.heap.size t l :=
  ⟨_, Go.Deep.blk_alloc_new _ _, by simp, fun i hi => by simp [hi]⟩
theorem Bx.lt {w : World} {g : Nat} {t : TypeId} {l : List Value} (h : Bx w g t l) : g < w.heap.size := World.rowIs.lt h
theorem Bx.cell {w : World} {g : Nat} {t : TypeId} {l : List Value} (h : Bx w g t l) (i : Nat) {v : Value} (hi : l[i]? = some v) : w.cell? ⟨g, i, none⟩ = some v := by
  obtain ⟨hl, hv⟩ := List.getElem?_eq_some_iff.1 hi
  have := World.rowIs.cell h (i := i) hl
  rw [this]
  simp [hl, hv]
theorem Bx.frozen {w : World} {g : Nat} {t : TypeId} {l : List Value} (h : Bx w g t l) (i : Nat) : w.frozen? ⟨g, i, none⟩ = false := World.rowIs.frozen h i
theorem Bx.set {w : World} {g : Nat} {t : TypeId} {l : List Value} (h : Bx w g t l) (i : Nat) (v : Value) : Bx (w.setCell ⟨g, i, none⟩ v) g t (l.set i v) := by
  unfold Bx
  rw [List.length_set]
  refine (World.rowIs.set h i v).congr fun j hj => ?_
  by_cases e : j = i
  · subst e; simp [hj]
  · simp [e, List.getElem?_set_ne (Ne.symm e)]
theorem Bx.other {w : World} {g k o : Nat} {t : TypeId} {l : List Value} (h : Bx w g t l) (hk : g ≠ k) (v : Value) : Bx (w.setCell ⟨k, o, none⟩ v) g t l := World.rowIs.of_block h (Below.heap_setCell _ _ _ _ hk)
theorem Bx.below {w w' : World} {g : Nat} {t : TypeId} {l : List Value} (h : Bx w g t l) (hb : Below w.heap.size w w') : Bx w' g t l := row_below hb h
theorem Bx.kept {w w' : World} {g : Nat} {t : TypeId} {l : List Value} (h : Bx w g t l) (hb : w'.heap[g]? = w.heap[g]?) : Bx w' g t l := World.rowIs.of_block h hb
theorem Bx.alloc {w : World} {g : Nat} {t : TypeId} {l : List Value} (h : Bx w g t l) (o : Obj) : Bx (w.alloc o) g t l := h.below ((Below.refl _ _).alloc (Nat.le_refl _) _)
theorem Bx.drew {w : World} {g : Nat} {t : TypeId} {l : List Value} (h : Bx w g t l) : Bx w.drew g t l := h
theorem Bx.grown {w w' : World} {g : Nat} {t : TypeId} {l : List Value} {q : Option Nat} (h : Bx w g t l) (hg : w.grownBy w' q) (hq : q ≠ some g) : Bx w' g t l := h.kept (hg.block _ h.lt fun e => hq e.symm)
theorem Bx.newAt (w : World) (t : TypeId) (l : List Value) {g : Nat} (hg : w.heap.size = g) : Bx (w.alloc (.cells l.toArray t)) g t l := hg ▸ Bx.new w t l
theorem wp_gen {P : Program} {c : Code} {K : Exit → Act → World → Prop} {a : Act} {W : World} (F : World → Prop) (hF : F W) (h : ∀ W', F W' → Code.wp P c K a W') : Code.wp P c K a W := h W hF
theorem bp_gen {P : Program} {fn : Func} {R : Ending → World → Prop} {e : Exit} {a : Act} {W : World} (F : World → Prop) (hF : F W) (h : ∀ W', F W' → bodyPost P fn R e a W') : bodyPost P fn R e a W := h W hF
theorem ex_gen {X : Exit → Act → World → Prop} {e : Exit} {a : Act} {W : World} (F : World → Prop) (hF : F W) (h : ∀ W', F W' → X e a W') : X e a W := h W hF
theorem Wr.refl1 (g : Nat) (w : World) : Wr (fun k => k = g) w w := Wr.refl _ _
theorem Wr.set1 {g o : Nat} {w w' : World} (h : Wr (fun k => k = g) w w') (u : Value) : Wr (fun k => k = g) w (w'.setCell ⟨g, o, none⟩ u) := h.set (p := ⟨g, o, none⟩) rfl u
theorem Wr.bx {T : Nat → Prop} {w w' : World} {g : Nat} {t : TypeId} {l : List Value} (h : Wr T w w') (hx : Bx w g t l) (hT : ¬ T g) : Bx w' g t l := hx.kept (h.block _ hx.lt hT)
theorem Wr.ints {T : Nat → Prop} {B : Nat} {w w' : World} {v : Value} {xs : List Int} (h : Wr T w w') (hr : IntRow B w v xs) (hT : ∀ g, v.ownBlock = some g → ¬ T g) : IntRow B w' v xs := hr.kept h.size fun g e => h.block g (hr.lt g e).2 (hT g e)
theorem Wr.below1 {g B : Nat} {w0 a b : World} (h : Wr (fun k => k = g) a b) (hb : Below B w0 a) (h0 : B ≤ w0.heap.size) (hg : B ≤ g) : Below B w0 b := h.below hb h0 fun _ e => e ▸ hg
theorem bx8 {w : World} {g : Nat} {t : TypeId} {x0 x1 x2 x3 x4 x5 x6 x7 : Value} (h : Bx w g t [x0, x1, x2, x3, x4, x5, x6, x7]) :
    (w.cell? ⟨g, 0, none⟩ = some x0 ∧ w.cell? ⟨g, 1, none⟩ = some x1 ∧ w.cell? ⟨g, 2, none⟩ = some x2 ∧ w.cell? ⟨g, 3, none⟩ = some x3 ∧ w.cell? ⟨g, 4, none⟩ = some x4 ∧ w.cell? ⟨g, 5, none⟩ = some x5 ∧ w.cell? ⟨g, 6, none⟩ = some x6 ∧ w.cell? ⟨g, 7, none⟩ = some x7) ∧
    (w.frozen? ⟨g, 0, none⟩ = false ∧ w.frozen? ⟨g, 1, none⟩ = false ∧ w.frozen? ⟨g, 2, none⟩ = false ∧ w.frozen? ⟨g, 3, none⟩ = false ∧ w.frozen? ⟨g, 4, none⟩ = false ∧ w.frozen? ⟨g, 5, none⟩ = false ∧ w.frozen? ⟨g, 6, none⟩ = false ∧ w.frozen? ⟨g, 7, none⟩ = false) :=
  ⟨⟨h.cell 0 rfl, h.cell 1 rfl, h.cell 2 rfl, h.cell 3 rfl, h.cell 4 rfl, h.cell 5 rfl, h.cell 6 rfl, h.cell 7 rfl⟩, h.frozen 0, h.frozen 1, h.frozen 2, h.frozen 3, h.frozen 4, h.frozen 5, h.frozen 6, h.frozen 7⟩
end Go.Proofs.YtmifhlkcceafkaaGreat
