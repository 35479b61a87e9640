/-
  What draws a heap, in memory: the boxes of the program and of the heap, and what stays while they are written.
-/
import Derived.Test.YtlpbklgkafjfmaaGreatDoorSMem2
import Derived.Test.YtlpbklgkafjfmaaGreatDoorDraw13
import Derived.Test.YtlpbklgkafjfmaaGreatDoorVApart

namespace Go.Proofs.YtlpbklgkafjfmaaGreatDoor
open Go.RowKit
theorem OpsAt.stay {w w' : World} {v : Value} {ops : List (Int × Int)} (h : OpsAt w v ops) (hb : ∀ g, v.ownBlock = some g → w'.heap[g]? = w.heap[g]?) : OpsAt w' v ops := by
  obtain ⟨a, cap, rfl, hl, hc⟩ := h
  refine ⟨a, cap, rfl, hl, fun i hi => ?_⟩
  obtain ⟨b, o, rfl, h0, h1⟩ := hc i hi
  have e := hb b rfl
  exact ⟨b, o, rfl, (World.cell?_of_block (a := ⟨b, _, none⟩) e).trans h0, (World.cell?_of_block (a := ⟨b, _, none⟩) e).trans h1⟩
theorem PRow.stay {B C : Nat} {w w' : World} {v : Value} {ms : List MM} (h : PRow B w v ms) (hl : ms.length ≤ maxLen) (ho : ∀ m ∈ ms, m.2.2.2.length ≤ maxLen) (hv : ∀ g, v.ownBlock = some g → g < C) (hm : ∀ m ∈ ms, ∀ g, m.2.2.1.ownBlock = some g → g < C)
    (hb : ∀ g, B ≤ g → g < C → w'.heap[g]? = w.heap[g]?) : MethsAt w' v (plainOf ms) := by
  rcases h.row.2 with ⟨rfl, hn⟩ | ⟨g, cap, cur, hv', _⟩
  · have : ms = [] := by simpa using hn
    subst this
    exact ⟨none, 0, rfl, Nat.zero_le _, fun i hi => absurd hi (Nat.not_lt_zero _)⟩
  · subst hv'
    refine ⟨some ⟨g, 0, none⟩, cap, by simp [plainOf], by simpa [plainOf] using hl, fun i hi => ?_⟩
    have hi' : i < ms.length := by simpa [plainOf] using hi
    have c := h.row.cell i (by simpa using hi')
    rw [PRow.ofMap hi'] at c
    have e := hb g (h.row.lt g rfl).1 (hv g rfl)
    have hmi := List.getElem_mem hi'
    have key : ∀ o x, w.cell? ⟨g, o, none⟩ = some x → w'.cell? ⟨g, o, none⟩ = some x := fun o x hx => (World.cell?_of_block (a := ⟨g, o, none⟩) e).trans hx
    refine ⟨g, 0, ms[i].2.2.1, rfl, ?_, ?_, ?_, ?_⟩
    · simp only [plainOf, List.getElem_map, Nat.zero_add]; exact key _ _ c.1
    · simp only [plainOf, List.getElem_map, Nat.zero_add]; exact key _ _ c.2.1
    · simp only [Nat.zero_add]; exact key _ _ c.2.2
    · simp only [plainOf, List.getElem_map]; exact ((h.ops _ hmi).at (ho _ hmi)).stay fun q hq => hb q ((h.ops _ hmi).lt q hq).1 (hm _ hmi q hq)
def Stays (B : Nat) (w : World) (P : World → Prop) : Prop := ∀ w' : World, w.heap.size ≤ w'.heap.size → (∀ g, B ≤ g → g < w.heap.size → w'.heap[g]? = w.heap[g]?) → P w'
theorem Stays.here {B : Nat} {w : World} {P : World → Prop} (h : Stays B w P) : P w := h w (Nat.le_refl _) fun _ _ _ => rfl
theorem Stays.grown {B b : Nat} {w w' : World} {P : World → Prop} (h : Stays B w P) (hg : w.grownBy w' (some b)) (hb : b < B) : Stays B w' P := fun w'' e1 e2 => h w'' (Nat.le_trans hg.size e1) fun g x1 x2 => (e2 g x1 (Nat.lt_of_lt_of_le x2 hg.size)).trans (hg.block g x2 (fun e => by injection e with e; omega))
theorem Stays.below {B : Nat} {w w' : World} {P : World → Prop} (h : Stays B w P) (hb : Below w.heap.size w w') : Stays B w' P := fun w'' e1 e2 => h w'' (Nat.le_trans hb.size e1) fun g x1 x2 => (e2 g x1 (Nat.lt_of_lt_of_le x2 hb.size)).trans (hb.block g x2)
theorem Stays.mono {B B' : Nat} {w : World} {P : World → Prop} (h : Stays B w P) (hB : B' ≤ B) : Stays B' w P := fun w'' e1 e2 => h w'' e1 fun g x1 x2 => e2 g (Nat.le_trans hB x1) x2
def dtwo (x0 x1 : Value) : Nat → Value := fun i => if i = 0 then x0 else x1
theorem dtwo_new (w : World) (t : TypeId) (x0 x1 : Value) : (w.alloc (.cells #[x0, x1] t)).rowIs w.heap.size t 2 (dtwo x0 x1) :=
  ⟨_, Go.Deep.blk_alloc_new _ _, rfl, fun i hi => by match i, hi with | 0, _ => rfl | 1, _ => rfl⟩
theorem dtwo_cells {w : World} {g : Nat} {t : TypeId} {x0 x1 : Value} (h : w.rowIs g t 2 (dtwo x0 x1)) : (w.cell? ⟨g, 0, none⟩ = some x0 ∧ w.cell? ⟨g, 1, none⟩ = some x1) ∧ (w.frozen? ⟨g, 0, none⟩ = false ∧ w.frozen? ⟨g, 1, none⟩ = false) :=
  ⟨⟨h.cell (i := 0) (by decide), h.cell (i := 1) (by decide)⟩, h.frozen 0, h.frozen 1⟩
structure DH (w : World) (b : Nat) (a : Option Addr) (len cap q B0 bp bh : Nat) (vp : Value) (ms : List MM) (vc vs : Value) (h : Hp) (wx : World) : Prop where
  rd : Rd wx b a len cap q
  gr : w.grownBy wx (some b)
  rp : wx.rowIs w.heap.size 25 1 (fun _ => .slice none 0 0)
  rh : wx.rowIs (w.heap.size + 1) 29 5 (five (.slice none 0 0) (.int .i64 0) (.int .i64 0) (.slice none 0 0) (.int .i64 0))
  rb : wx.rowIs bp 25 1 (fun _ => vp)
  R : wx.rowIs bh 29 5 (five vc (.int .i64 h.now) (.int .i64 h.born) vs (.int .i64 h.code))
  mx : ∀ w' : World, wx.heap.size ≤ w'.heap.size → (∀ g, B0 ≤ g → g < bh → w'.heap[g]? = wx.heap[g]?) → MethsAt w' vp (plainOf ms)
  hx : ∀ w' : World, wx.heap.size ≤ w'.heap.size → (∀ g, bh < g → g < wx.heap.size → w'.heap[g]? = wx.heap[g]?) → HeapAt w' vc vs h
  r0 : ∃ q0, Rd w b a len cap q0
  n0 : b < w.heap.size
  n1 : w.heap.size + 1 < B0
  n2 : w.heap.size + 1 < bp
  n3 : bp < bh
variable {w wx w' : World} {b : Nat} {a : Option Addr} {len cap q B0 bp bh : Nat} {vp vc vs : Value} {ms : List MM} {h : Hp}
theorem DH.drew (k : DH w b a len cap q B0 bp bh vp ms vc vs h wx) : DH w b a len cap q B0 bp bh vp ms vc vs h wx.drew :=
  ⟨Rd.heap k.rd rfl, ⟨k.gr.os, k.gr.tape, k.gr.output, k.gr.size, k.gr.block⟩, k.rp, k.rh, k.rb, k.R, k.mx, k.hx, k.r0, k.n0, k.n1, k.n2, k.n3⟩
theorem DH.pick {q' : Nat} (k : DH w b a len cap q B0 bp bh vp ms vc vs h wx) (hr : Rd w' b a len cap q') (hg : wx.grownBy w' (some b)) : DH w b a len cap q' B0 bp bh vp ms vc vs h w' := by
  have h0 := k.n0
  have h1 := k.n1
  have h2 := k.n2
  have h3 := k.n3
  have hbh := k.R.lt
  refine ⟨hr, grown_trans k.gr hg, row_kept k.rp hg (by intro e; injection e with e; omega), row_kept k.rh hg (by intro e; injection e with e; omega), row_kept k.rb hg (by intro e; injection e with e; omega), row_kept k.R hg (by intro e; injection e with e; omega), fun w'' e1 e2 => k.mx w'' (Nat.le_trans hg.size e1) fun g x1 x2 => (e2 g x1 x2).trans (hg.block g (by omega) (by intro e; injection e with e; omega)), fun w'' e1 e2 => k.hx w'' (Nat.le_trans hg.size e1) fun g x1 x2 => (e2 g x1 (Nat.lt_of_lt_of_le x2 hg.size)).trans (hg.block g x2 (by intro e; injection e with e; omega)), k.r0, h0, h1, h2, h3⟩
theorem DH.alloc (k : DH w b a len cap q B0 bp bh vp ms vc vs h wx) (o : Obj) : DH w b a len cap q B0 bp bh vp ms vc vs h (wx.alloc o) := by
  have hb : Below wx.heap.size wx (wx.alloc o) := (Below.refl _ _).alloc (Nat.le_refl _) _
  have hbh := k.R.lt
  have h3 := k.n3
  exact ⟨k.rd.alloc o, grown_alloc k.gr o, row_below hb k.rp, row_below hb k.rh, row_below hb k.rb, row_below hb k.R, fun w'' e1 e2 => k.mx w'' (Nat.le_trans hb.size e1) fun g x1 x2 => (e2 g x1 x2).trans (hb.block g (by omega)), fun w'' e1 e2 => k.hx w'' (Nat.le_trans hb.size e1) fun g x1 x2 => (e2 g x1 (Nat.lt_of_lt_of_le x2 hb.size)).trans (hb.block g x2), k.r0, k.n0, k.n1, k.n2, h3⟩
theorem DH.re {vc' vs' : Value} {h' : Hp} (k : DH w b a len cap q B0 bp bh vp ms vc vs h wx) (hb : Below bh wx w') (hR : w'.rowIs bh 29 5 (five vc' (.int .i64 h'.now) (.int .i64 h'.born) vs' (.int .i64 h'.code)))
    (hx : ∀ w'' : World, w'.heap.size ≤ w''.heap.size → (∀ g, bh < g → g < w'.heap.size → w''.heap[g]? = w'.heap[g]?) → HeapAt w'' vc' vs' h') : DH w b a len cap q B0 bp bh vp ms vc' vs' h' w' := by
  have h0 := k.n0
  have h1 := k.n1
  have h2 := k.n2
  have h3 := k.n3
  have hbh := k.R.lt
  have hz := k.gr.size
  refine ⟨?_, ⟨hb.os.trans k.gr.os, hb.tape.trans k.gr.tape, hb.output.trans k.gr.output, Nat.le_trans k.gr.size hb.size, fun g x1 x2 => (hb.block g (by omega)).trans (k.gr.block g x1 x2)⟩, k.rp.of_block (hb.block _ (by omega)), k.rh.of_block (hb.block _ (by omega)), k.rb.of_block (hb.block _ (by omega)), hR, fun w'' e1 e2 => k.mx w'' (Nat.le_trans hb.size e1) fun g x1 x2 => (e2 g x1 x2).trans (hb.block g x2), hx, k.r0, h0, h1, h2, h3⟩
  have r := k.rd
  exact ⟨(World.cell?_of_block (a := ⟨b, 0, none⟩) (hb.block b (by omega))).trans r.s, (World.cell?_of_block (a := ⟨b, 1, none⟩) (hb.block b (by omega))).trans r.p, (World.frozen?_of_block (a := ⟨b, 1, none⟩) (hb.block b (by omega))).trans r.f, r.l, fun i hi => by
    obtain ⟨q0, r0⟩ := k.r0
    obtain ⟨b0, o0, x0, e0, _, hc0, _⟩ := r0.c i hi
    have hlt := World.block_lt_of_cell? _ _ hc0
    obtain ⟨b', o, x, e1, hb', hc, hx'⟩ := r.c i hi
    have hbb : b' = b0 := by
      rw [e0] at e1
      injection e1 with e1
      injection e1 with e1 _
      exact e1.symm
    subst hbb
    have hlt' : b' < w.heap.size := hlt
    exact ⟨b', o, x, e1, hb', (World.cell?_of_block (a := ⟨b', o + i, none⟩) (hb.block b' (by omega))).trans hc, hx'⟩⟩
theorem DH.num {h' : Hp} {i : Nat} {x : Int} (k : DH w b a len cap q B0 bp bh vp ms vc vs h wx) (hc : h'.calls = h.calls) (hs : h'.said = h.said)
    (hR : (wx.setCell ⟨bh, i, none⟩ (.int .i64 x)).rowIs bh 29 5 (five vc (.int .i64 h'.now) (.int .i64 h'.born) vs (.int .i64 h'.code))) : DH w b a len cap q B0 bp bh vp ms vc vs h' (wx.setCell ⟨bh, i, none⟩ (.int .i64 x)) := by
  have hz : (wx.setCell ⟨bh, i, none⟩ (.int .i64 x)).heap.size = wx.heap.size := by simp [World.setCell]
  refine k.re ((Below.refl _ _).setCell (p := ⟨bh, i, none⟩) (Nat.le_refl _) _) hR fun w'' e1 e2 => ?_
  have H := k.hx w'' (by omega) fun g x1 x2 => (e2 g x1 (by omega)).trans (Below.heap_setCell _ _ _ _ (by intro e; have : g = bh := e; omega))
  exact ⟨by rw [hc]; exact H.c, by rw [hs]; exact H.s⟩
theorem DH.fin (k : DH w b a len cap q B0 bp bh vp ms vc vs h wx) : ∃ WF : World, WF = ((((((wx.setCell ⟨w.heap.size, 0, none⟩ vp).setCell ⟨w.heap.size + 1, 0, none⟩ vc).setCell ⟨w.heap.size + 1, 1, none⟩ (.int .i64 h.now)).setCell ⟨w.heap.size + 1, 2, none⟩ (.int .i64 h.born)).setCell ⟨w.heap.size + 1, 3, none⟩ vs).setCell ⟨w.heap.size + 1, 4, none⟩ (.int .i64 h.code)) ∧
    WF.cell? ⟨w.heap.size, 0, none⟩ = some vp ∧ WF.rowIs (w.heap.size + 1) 29 5 (five vc (.int .i64 h.now) (.int .i64 h.born) vs (.int .i64 h.code)) ∧ Stays w.heap.size WF (fun x => MethsAt x vp (plainOf ms) ∧ HeapAt x vc vs h) ∧ Rd WF b a len cap q ∧ w.grownBy WF (some b) := by
  have h0 := k.n0
  have h1 := k.n1
  have h2 := k.n2
  have h3 := k.n3
  have hbh := k.R.lt
  obtain ⟨q0, r0⟩ := k.r0
  have k1 := grown_set wx w.heap.size 0 vp
  have k2 := grown_trans (grown_trans (grown_trans (grown_trans (grown_set (wx.setCell ⟨w.heap.size, 0, none⟩ vp) (w.heap.size + 1) 0 vc) (grown_set _ (w.heap.size + 1) 1 (.int .i64 h.now))) (grown_set _ (w.heap.size + 1) 2 (.int .i64 h.born))) (grown_set _ (w.heap.size + 1) 3 vs)) (grown_set _ (w.heap.size + 1) 4 (.int .i64 h.code))
  have e1 : ∀ g, some w.heap.size = some g → w.heap.size ≤ g := fun g e => by injection e with e; omega
  have e2 : ∀ g, some (w.heap.size + 1) = some g → w.heap.size ≤ g := fun g e => by injection e with e; omega
  have g1 := grown_own k.gr k1 e1
  have hz1 : (wx.setCell ⟨w.heap.size, 0, none⟩ vp).heap.size = wx.heap.size := by simp [World.setCell]
  have hbl : ∀ g, w.heap.size + 1 < g → g < wx.heap.size → ((((((wx.setCell ⟨w.heap.size, 0, none⟩ vp).setCell ⟨w.heap.size + 1, 0, none⟩ vc).setCell ⟨w.heap.size + 1, 1, none⟩ (.int .i64 h.now)).setCell ⟨w.heap.size + 1, 2, none⟩ (.int .i64 h.born)).setCell ⟨w.heap.size + 1, 3, none⟩ vs).setCell ⟨w.heap.size + 1, 4, none⟩ (.int .i64 h.code)).heap[g]? = wx.heap[g]? := fun g x1 x2 => (k2.block g (by omega) (fun e => by injection e with e; omega)).trans (k1.block g x2 (fun e => by injection e with e; omega))
  refine ⟨_, rfl, k2.cell (World.cell?_setCell_same wx ⟨w.heap.size, 0, none⟩ vp (k.rp.cell (i := 0) (by decide))) (by intro e; simp at e), five_set4 (five_set3 (five_set2 (five_set1 (five_set0 (row_kept k.rh k1 (by intro e; injection e with e; omega)) vc) (.int .i64 h.now)) (.int .i64 h.born)) vs) (.int .i64 h.code), fun w'' y1 y2 => ⟨k.mx _ (Nat.le_trans (Nat.le_trans k1.size k2.size) y1) fun g x1 x2 => (y2 g (by omega) (by have := k1.size; have := k2.size; omega)).trans (hbl g (by omega) (by omega)), k.hx _ (Nat.le_trans (Nat.le_trans k1.size k2.size) y1) fun g x1 x2 => (y2 g (by omega) (by have := k1.size; have := k2.size; omega)).trans (hbl g (by omega) x2)⟩, Rd.kept r0 (Rd.kept r0 k.rd k.gr.size k1 e1) g1.size k2 e2, grown_own g1 k2 e2⟩
theorem OwnHeap.put {B : Nat} {w w' : World} {vs : Value} {g off n cap : Nat} {h : Hp} {V : Nat → Value × Value} (k : OwnHeap B w (.slice (some ⟨g, off, Option.none⟩) n cap) vs h V) {j : Nat} (hj : j < h.calls.length) {c : Cl} {vt vs' : Value}
    (p : Put B w w' g off j V c vt vs') : OwnHeap B w' (.slice (some ⟨g, off, Option.none⟩) n cap) vs { h with calls := h.calls.set j c } (putV V j (vt, vs')) := by
  have hV1 : ∀ q, (V j).1.ownBlock = some q → CallBlocks (.slice (some ⟨g, off, Option.none⟩) n cap) h.calls.length V q := fun q e => .inr ⟨j * 2, by omega, by rw [lst_0]; exact e⟩
  have hV2 : ∀ q, (V j).2.ownBlock = some q → CallBlocks (.slice (some ⟨g, off, Option.none⟩) n cap) h.calls.length V q := fun q e => .inr ⟨j * 2 + 1, by omega, by rw [lst_1]; exact e⟩
  have hout : ∀ q, q < w.heap.size → ¬ CallBlocks (.slice (some ⟨g, off, Option.none⟩) n cap) h.calls.length V q → w'.heap[q]? = w.heap[q]? := fun q hq hn => p.bl q hq (fun e => hn (.inl (by rw [e]; rfl))) (fun e => hn (hV1 q e)) (fun e => hn (hV2 q e))
  have hnew : ∀ q, q < w.heap.size → ¬ CallBlocks (.slice (some ⟨g, off, Option.none⟩) n cap) h.calls.length V q → ¬ CallBlocks (.slice (some ⟨g, off, Option.none⟩) n cap) (h.calls.set j c).length (putV V j (vt, vs')) q := fun q hq hn e => by
    rcases e with e | ⟨i, hi, e⟩
    · exact hn (.inl e)
    · rw [List.length_set] at hi
      rw [lst_put] at e
      by_cases e1 : i / 2 = j
      · rw [if_pos e1] at e
        by_cases e2 : i % 2 = 0
        · rw [if_pos e2] at e
          rcases p.nt q e with x | x | x
          · exact hn (hV1 q x)
          · exact hn (hV2 q x)
          · omega
        · rw [if_neg e2] at e
          rcases p.ns q e with x | x | x
          · exact hn (hV1 q x)
          · exact hn (hV2 q x)
          · omega
      · rw [if_neg e1] at e
        exact hn (.inr ⟨i, hi, e⟩)
  exact ⟨k.c.put hj c vt vs' p.sz p.fr p.row p.bl p.c0 p.c1 p.c2 p.c3 p.c4 p.c5 p.ht p.hs p.nt p.ns p.ts, k.s.kept p.sz fun q e => hout q (k.s.lt q e).2 (k.apart q e), fun q e => hnew q (k.s.lt q e).2 (k.apart q e)⟩
theorem OwnHeap.stays {B bh : Nat} {w : World} {vc vs : Value} {h : Hp} {V : Nat → Value × Value} (k : OwnHeap B w vc vs h V) (hB : bh < B) : ∀ w' : World, w.heap.size ≤ w'.heap.size → (∀ g, bh < g → g < w.heap.size → w'.heap[g]? = w.heap[g]?) → HeapAt w' vc vs h :=
  fun _ e1 e2 => (k.kept e1 fun g hg => e2 g (by have := (k.lt hg).1; omega) (k.lt hg).2).at
theorem OwnHeap.say {B : Nat} {w w2 : World} {vc vs : Value} {h : Hp} {V : Nat → Value × Value} (k : OwnHeap B w vc vs h V) (v' : Value) (sd : List (Int × Int)) (hsz : w.heap.size ≤ w2.heap.size)
    (hbl : ∀ q, q < w.heap.size → vs.ownBlock ≠ some q → w2.heap[q]? = w.heap[q]?) (hr : PairRow B w2 v' sd) (hv : ∀ q, v'.ownBlock = some q → vs.ownBlock = some q ∨ w.heap.size ≤ q) : OwnHeap B w2 vc v' { h with said := sd } V :=
  ⟨k.c.kept hsz fun q e => hbl q (k.c.lt e).2 (fun e2 => k.apart q e2 e), hr, fun q e e2 => by
    rcases hv q e with x | x
    · exact k.apart q x e2
    · have := (k.c.lt e2).2; omega⟩
theorem OwnHeap.setLow {B : Nat} {w : World} {vc vs : Value} {h : Hp} {V : Nat → Value × Value} (k : OwnHeap B w vc vs h V) {p : Addr} (hp : p.block < B) (u : Value) : OwnHeap B (w.setCell p u) vc vs h V :=
  k.kept (by simp [World.setCell]) fun g hg => Below.heap_setCell _ _ _ _ (fun e => by have := (k.lt hg).1; omega)
theorem put_temps {B : Nat} {w w2 : World} {g off cap n : Nat} {cs : List Cl} {V : Nat → Value × Value} (h : OwnCalls B w (.slice (some ⟨g, off, none⟩) n cap) cs V) {j : Nat} (hj : j < cs.length) (v' : Value) (st : List (Int × Int)) (hsz : w.heap.size ≤ w2.heap.size)
    (hbl : ∀ k, k < w.heap.size → (V j).1.ownBlock ≠ some k → w2.heap[k]? = w.heap[k]?) (hr : PairRow B w2 v' st) (hv : ∀ q, v'.ownBlock = some q → (V j).1.ownBlock = some q ∨ w.heap.size ≤ q) :
    Put B w (w2.setCell ⟨g, off + j * 6 + 2, none⟩ v') g off j V { cs[j] with temps := st } v' (V j).2 := by
  have hgl : g < w.heap.size := (h.lt (g := g) (.inl rfl)).2
  obtain ⟨⟨c0, c1, c2, c3, c4, c5⟩, _⟩ := h.cells hj
  obtain ⟨a1, a2⟩ : (∀ q, (V j).2.ownBlock = some q → q ≠ g ∧ (V j).1.ownBlock ≠ some q) ∧ (∀ q, (V j).1.ownBlock = some q → q ≠ g) := by
    refine ⟨fun q e => ?_, fun q e eg => ?_⟩
    · obtain ⟨x1, x2⟩ := h.apart (j * 2 + 1) (by omega) q (by rw [lst_1]; exact e)
      have x3 := x2 (j * 2) (by omega) (by omega)
      rw [lst_0] at x3
      exact ⟨fun eg => x1 (by rw [eg]; rfl), x3⟩
    · exact (h.apart (j * 2) (by omega) q (by rw [lst_0]; exact e)).1 (by rw [eg]; rfl)
  have hg2 : w2.heap[g]? = w.heap[g]? := hbl g hgl (fun e => a2 g e rfl)
  have cg : ∀ o, w2.cell? ⟨g, o, none⟩ = w.cell? ⟨g, o, none⟩ := fun o => World.cell?_of_block (a := ⟨g, o, none⟩) hg2
  have fg : ∀ o, w2.frozen? ⟨g, o, none⟩ = w.frozen? ⟨g, o, none⟩ := fun o => World.frozen?_of_block (a := ⟨g, o, none⟩) hg2
  have hoth : ∀ o, o ≠ off + j * 6 + 2 → (w2.setCell ⟨g, off + j * 6 + 2, none⟩ v').cell? ⟨g, o, none⟩ = w.cell? ⟨g, o, none⟩ := fun o ho => by
    rw [World.cell?_setCell_other _ _ _ _ (fun q => ho (by have := congrArg Addr.off q; simpa using this.symm)), cg]
  have hvg : v'.ownBlock ≠ some g := fun e => by
    rcases hv g e with x | x
    · exact a2 g x rfl
    · omega
  have ht := (h.lists j hj).2
  refine ⟨by simp [World.setCell]; exact hsz, fun o => by rw [World.frozen?_setCell]; exact fg o, fun o ho => hoth o (by omega), fun k hk hkg h1 h2 => ?_, ?_, ?_, ?_, ?_, ?_, ?_, hr.set_other _ hvg, ?_, fun q e => ?_, fun q e => .inr (.inl e), fun q e e2 => ?_⟩
  · rw [Below.heap_setCell _ _ _ _ (fun e => hkg e)]
    exact hbl k hk h1
  · rw [hoth _ (by omega)]; exact c0
  · rw [hoth _ (by omega)]; exact c1
  · exact World.cell?_setCell_same _ _ _ (by rw [cg]; exact c2)
  · rw [hoth _ (by omega)]; exact c3
  · rw [hoth _ (by omega)]; exact c4
  · rw [hoth _ (by omega)]; exact c5
  · exact (ht.kept hsz fun q e => hbl q (ht.lt q e).2 (a1 q e).2).set_other _ (fun e => (a1 _ e).1 rfl)
  · rcases hv q e with x | x
    · exact .inl x
    · exact .inr (.inr x)
  · rcases hv q e with x | x
    · exact (a1 q e2).2 x
    · have := (ht.lt q e2).2; omega
theorem CallsAt.tail {w : World} {g off n c : Nat} {cs : List Cl} (h : CallsAt w (.slice (some ⟨g, off, none⟩) n c) cs) (h1 : 1 ≤ cs.length) (c' : Nat) : CallsAt w (.slice (some ⟨g, off + 6, none⟩) (cs.length - 1) c') (cs.drop 1) := by
  obtain ⟨a, cap, hv, hl, hc⟩ := h
  refine ⟨some ⟨g, off + 6, none⟩, c', by simp, by simp; omega, fun i hi => ?_⟩
  have hi' : i + 1 < cs.length := by simp at hi; omega
  obtain ⟨b, o, vt, vs, ha, k⟩ := hc (i + 1) hi'
  injection hv with e1 e2 e3
  rw [ha] at e1
  injection e1 with e1
  injection e1 with e1 e2 _
  subst e1 e2
  refine ⟨g, off + 6, vt, vs, rfl, ?_⟩
  rw [List.getElem_drop, show off + 6 + i * 6 = off + (i + 1) * 6 by omega]
  simpa [Nat.add_comm] using k
end Go.Proofs.YtlpbklgkafjfmaaGreatDoor

/-
  Rows of whatever elements that are copied whole into memory of their own; a method, a call of such a row is another one then.
-/
namespace Go.Proofs.YtlpbklgkafjfmaaGreatDoor
open Go.RowKit
theorem append_row {ops : Array Oper} {rest : List Oper} {o : Oper} {act : Act} {Q : Exit → Act → World → Prop} (w : World) (hgd : o.guard = none) (s x : Operand) (t e : TypeId)
    (ho : o.op = .call { callee := .builtin .append, args := #[s, x], argTypes := #[t, t] }) (ht : Tryz.prog.underlying t = some (.slice e)) {z : Value} {sz nb : Nat} (hinf : (Tryz.prog.info? e).map (fun i => (i.zero, i.size, i.bytes)) = some (some z, sz, nb)) (hzs : z.cells.size = sz) (hby : nb ≤ 1000)
    (B : Nat) (v xv : Value) (n m : Nat) (xs ys : List Value) (hs : act.eval s = v) (hx : act.eval x = xv) (hown : CRow B sz w v n xs) (hsrc : Src Tryz.prog sz t xv m ys w) (hL : n + m ≤ 3000000) (hB : B ≤ w.heap.size)
    (h : ∀ v' w', CRow B sz w' v' (n + m) (xs ++ ys) → w.grownBy w' v.ownBlock → (v'.ownBlock = v.ownBlock ∨ v'.ownBlock = some w.heap.size) → wpList Tryz.prog ops Q rest (act.put o.dst v') w') :
    wpList Tryz.prog ops Q (o :: rest) act w := by
  obtain ⟨i0, hi, hz0, hz1, hz2⟩ := info_parts hinf
  subst hz1
  obtain ⟨v', w', hr, h2, h3, h4⟩ := run_append_rows (P := Tryz.prog) (ty := o.type) ht hi hz0 hzs (by omega) hown xv m ys hsrc hL hB
  refine wpList_plain hgd fun K hK => ?_
  unfold Oper.wp execOp
  simp only [ho, resolve, invoke, builtin, Sem.run_bind, Sem.run_pure, Result.andThen_ok, List.map_toArray, List.map_cons, List.map_nil, hs, hx, hr]
  exact hK _ _ (h v' w' h2 h3 h4)
theorem CRow.form {B sz n : Nat} {w : World} {v : Value} {xs : List Value} (h : CRow B sz w v n xs) (hn : 0 < n) : ∃ g off cap, v = .slice (some ⟨g, off, none⟩) n cap ∧ B ≤ g ∧ g < w.heap.size := by
  rcases h.2 with ⟨_, h0⟩ | ⟨g, off, cap, hv, hB, hg, _⟩
  · omega
  · exact ⟨g, off, cap, hv, hB, hg⟩
theorem CRow.at {B sz n m : Nat} {w : World} {g off cap : Nat} {xs : List Value} (h : CRow B sz w (.slice (some ⟨g, off, none⟩) m cap) n xs) : n ≤ maxLen ∧ ∀ i u, xs[i]? = some u → w.cell? ⟨g, off + i, none⟩ = some u ∧ w.frozen? ⟨g, off + i, none⟩ = false := by
  rcases h.2 with ⟨h0, _⟩ | ⟨g', off', cap', hv, hB, hg, hl, hm, hsp, hx⟩
  · cases h0
  · cases hv
    refine ⟨by omega, fun i u hu => ?_⟩
    have hi : i < xs.length := by
      by_cases e : i < xs.length
      · exact e
      · rw [List.getElem?_eq_none (by omega)] at hu; cases hu
    rw [List.getElem?_eq_getElem hi] at hu
    injection hu with hu
    have hle : n * sz ≤ cap * sz := Nat.mul_le_mul_right _ hl
    have hxl := h.1
    exact ⟨by rw [← hu]; exact hx i hi, (hsp i (by omega)).2⟩
theorem src_calls {w : World} {v : Value} {cs : List Cl} (h : CallsAt w v cs) : ∃ V : Nat → Value × Value, (∀ w', Below w.heap.size w w' → Src Tryz.prog 6 26 v cs.length (rowC (rowOf cs V)) w') ∧ ∀ i, (hi : i < cs.length) → OpsAt w (V i).1 cs[i].temps ∧ OpsAt w (V i).2 cs[i].stack := by
  obtain ⟨a, cap, rfl, hl, hc⟩ := h
  cases a with
  | none =>
    cases cs with
    | nil => exact ⟨fun _ => (.slice none 0 0, .slice none 0 0), fun w' _ => Src.ofNil w' Tryz.underlying26 cap, fun i hi => absurd hi (Nat.not_lt_zero _)⟩
    | cons x l =>
      obtain ⟨b, o, vt, vs, e, _⟩ := hc 0 (by simp)
      cases e
  | some ad =>
    have hV : ∀ i, (hi : i < cs.length) → ClAt w ad.block (ad.off + i * 6) ((w.cell? ⟨ad.block, ad.off + i * 6 + 2, none⟩).getD (.slice none 0 0)) ((w.cell? ⟨ad.block, ad.off + i * 6 + 3, none⟩).getD (.slice none 0 0)) cs[i] ∧ ad = ⟨ad.block, ad.off, none⟩ := fun i hi => by
      obtain ⟨b, o, vt, vs, e, k⟩ := hc i hi
      obtain rfl : ad = ⟨b, o, none⟩ := by injection e
      have h2 : (w.cell? ⟨b, o + i * 6 + 2, none⟩).getD (.slice none 0 0) = vt := by rw [k.c2]; rfl
      have h3 : (w.cell? ⟨b, o + i * 6 + 3, none⟩).getD (.slice none 0 0) = vs := by rw [k.c3]; rfl
      exact ⟨by simp only [h2, h3]; exact k, rfl⟩
    refine ⟨fun i => ((w.cell? ⟨ad.block, ad.off + i * 6 + 2, none⟩).getD (.slice none 0 0), (w.cell? ⟨ad.block, ad.off + i * 6 + 3, none⟩).getD (.slice none 0 0)), fun w' hb => ?_, fun i hi => ⟨(hV i hi).1.t, (hV i hi).1.s⟩⟩
    refine Src.ofSlice w' Tryz.underlying26 ad _ cap _ (by rw [rowC_length, rowOf_len]) (fun j u hu => ?_) (fun u hu => ?_)
    · have hj : j < cs.length * 6 := by
        by_cases e : j < cs.length * 6
        · exact e
        · rw [List.getElem?_eq_none (by rw [rowC_length, rowOf_len]; omega)] at hu; cases hu
      have hi : j / 6 < cs.length := by omega
      obtain ⟨k, had⟩ := hV (j / 6) hi
      have hr := rowC_at (rowOf cs fun i => ((w.cell? ⟨ad.block, ad.off + i * 6 + 2, none⟩).getD (.slice none 0 0), (w.cell? ⟨ad.block, ad.off + i * 6 + 3, none⟩).getD (.slice none 0 0))) (j / 6) (by rw [rowOf_len]; exact hi)
      rw [rowOf_at hi] at hr
      obtain ⟨r0, r1, r2, r3, r4, r5⟩ := hr
      rw [had, Addr.add_lit]
      have h6 : j = j / 6 * 6 ∨ j = j / 6 * 6 + 1 ∨ j = j / 6 * 6 + 2 ∨ j = j / 6 * 6 + 3 ∨ j = j / 6 * 6 + 4 ∨ j = j / 6 * 6 + 5 := by omega
      rcases h6 with e | e | e | e | e | e <;> rw [e] at hu ⊢
      · rw [r0] at hu; rw [← hu]; exact cell_below hb k.c0
      · rw [r1] at hu; rw [← hu]; exact cell_below hb k.c1
      · rw [r2] at hu; rw [← hu]; exact cell_below hb k.c2
      · rw [r3] at hu; rw [← hu]; exact cell_below hb k.c3
      · rw [r4] at hu; rw [← hu]; exact cell_below hb k.c4
      · rw [r5] at hu; rw [← hu]; exact cell_below hb k.c5
    · unfold rowC at hu
      obtain ⟨x, hx, hux⟩ := List.mem_flatMap.1 hu
      unfold rowOf at hx
      obtain ⟨i, hi, rfl⟩ := List.mem_map.1 hx
      have hi' : i < cs.length := by simpa using hi
      obtain ⟨k, _⟩ := hV i hi'
      obtain ⟨a1, c1, e1⟩ := k.t.shape
      obtain ⟨a2, c2, e2⟩ := k.s.shape
      simp only [cells6, List.mem_cons, List.not_mem_nil, or_false] at hux
      rcases hux with rfl | rfl | rfl | rfl | rfl | rfl
      · rfl
      · rfl
      · rw [e1]; rfl
      · rw [e2]; rfl
      · rfl
      · rfl
def methL (ms : List (Int × Int × List (Int × Int))) (V : Nat → Value) : List (Int × Int × Value) := (List.range ms.length).map fun i => ((ms.getD i (0, 0, [])).1, (ms.getD i (0, 0, [])).2.1, V i)
theorem methL_len (ms : List (Int × Int × List (Int × Int))) (V : Nat → Value) : (methL ms V).length = ms.length := by simp [methL]
theorem methL_at {ms : List (Int × Int × List (Int × Int))} {V : Nat → Value} {i : Nat} (hi : i < ms.length) : (methL ms V)[i]'(by rw [methL_len]; exact hi) = (ms[i].1, ms[i].2.1, V i) := by simp [methL, hi]
theorem src_meths {w : World} {v : Value} {ms : List (Int × Int × List (Int × Int))} (h : MethsAt w v ms) : ∃ V : Nat → Value, (∀ w', Below w.heap.size w w' → Src Tryz.prog 3 23 v ms.length (flat3 (methL ms V)) w') ∧ ∀ i, (hi : i < ms.length) → OpsAt w (V i) ms[i].2.2 := by
  obtain ⟨a, cap, rfl, hl, hc⟩ := h
  cases a with
  | none =>
    cases ms with
    | nil => exact ⟨fun _ => .slice none 0 0, fun w' _ => Src.ofNil w' Tryz.underlying23 cap, fun i hi => absurd hi (Nat.not_lt_zero _)⟩
    | cons x l =>
      obtain ⟨b, o, vo, e, _⟩ := hc 0 (by simp)
      cases e
  | some ad =>
    have hV : ∀ i, (hi : i < ms.length) → (w.cell? ⟨ad.block, ad.off + i * 3, none⟩ = some (.int .i64 ms[i].1) ∧ w.cell? ⟨ad.block, ad.off + i * 3 + 1, none⟩ = some (.int .i64 ms[i].2.1) ∧ w.cell? ⟨ad.block, ad.off + i * 3 + 2, none⟩ = some ((w.cell? ⟨ad.block, ad.off + i * 3 + 2, none⟩).getD (.slice none 0 0)) ∧ OpsAt w ((w.cell? ⟨ad.block, ad.off + i * 3 + 2, none⟩).getD (.slice none 0 0)) ms[i].2.2) ∧ ad = ⟨ad.block, ad.off, none⟩ := fun i hi => by
      obtain ⟨b, o, vo, e, k0, k1, k2, k3⟩ := hc i hi
      obtain rfl : ad = ⟨b, o, none⟩ := by injection e
      have h2 : (w.cell? ⟨b, o + i * 3 + 2, none⟩).getD (.slice none 0 0) = vo := by rw [k2]; rfl
      exact ⟨by simp only [h2]; exact ⟨k0, k1, k2, k3⟩, rfl⟩
    refine ⟨fun i => (w.cell? ⟨ad.block, ad.off + i * 3 + 2, none⟩).getD (.slice none 0 0), fun w' hb => ?_, fun i hi => (hV i hi).1.2.2.2⟩
    refine Src.ofSlice w' Tryz.underlying23 ad _ cap _ (by rw [flat3_length, methL_len]) (fun j u hu => ?_) (flat3_one_cell _ fun m hm => ?_)
    · have hj : j < ms.length * 3 := by
        by_cases e : j < ms.length * 3
        · exact e
        · rw [List.getElem?_eq_none (by rw [flat3_length, methL_len]; omega)] at hu; cases hu
      have hi : j / 3 < ms.length := by omega
      obtain ⟨⟨k0, k1, k2, _⟩, had⟩ := hV (j / 3) hi
      have hr := flat3_at (methL ms fun i => (w.cell? ⟨ad.block, ad.off + i * 3 + 2, none⟩).getD (.slice none 0 0)) (j / 3) (by rw [methL_len]; exact hi)
      rw [methL_at hi] at hr
      obtain ⟨r0, r1, r2⟩ := hr
      rw [had, Addr.add_lit]
      have h3 : j = j / 3 * 3 ∨ j = j / 3 * 3 + 1 ∨ j = j / 3 * 3 + 2 := by omega
      rcases h3 with e | e | e <;> rw [e] at hu ⊢
      · rw [r0] at hu; rw [← hu]; exact cell_below hb k0
      · rw [r1] at hu; rw [← hu]; exact cell_below hb k1
      · rw [r2] at hu; rw [← hu]; exact cell_below hb k2
    · unfold methL at hm
      obtain ⟨i, hi, rfl⟩ := List.mem_map.1 hm
      have hi' : i < ms.length := by simpa using hi
      obtain ⟨a1, c1, e1⟩ := (hV i hi').1.2.2.2.shape
      exact ⟨a1, _, c1, e1⟩
theorem src_ops {w : World} {v : Value} {ops : List (Int × Int)} (hM : OpsAt w v ops) : Src Tryz.prog 2 42 v ops.length (pcells ops) w := src_vals (P := Tryz.prog) Tryz.underlying42 hM
theorem calls_put {B n cap g off : Nat} {w w' : World} {cs : List Cl} {V : Nat → Value × Value} (h : CRow B 6 w (.slice (some ⟨g, off, none⟩) n cap) cs.length (rowC (rowOf cs V))) (hn : n = cs.length) {j : Nat} (hj : j < cs.length) (c : Cl) (vt vs : Value)
    (hrow : ∀ o, (o < off + j * 6 ∨ off + j * 6 + 6 ≤ o) → w'.cell? ⟨g, o, none⟩ = w.cell? ⟨g, o, none⟩)
    (hc : ClAt w' g (off + j * 6) vt vs c) (hl : ∀ i, (hi : i < cs.length) → OpsAt w' (V i).1 cs[i].temps ∧ OpsAt w' (V i).2 cs[i].stack) : CallsAt w' (.slice (some ⟨g, off, none⟩) n cap) (cs.set j c) := by
  obtain ⟨hm, hx⟩ := h.at
  refine ⟨_, cap, by rw [List.length_set, hn], by rw [List.length_set]; exact hm, fun i hi => ?_⟩
  rw [List.length_set] at hi
  by_cases e : i = j
  · subst e
    rw [List.getElem_set_self]
    exact ⟨g, off, vt, vs, rfl, hc⟩
  · rw [List.getElem_set_ne (Ne.symm e)]
    have hr := rowC_at (rowOf cs V) i (by rw [rowOf_len]; exact hi)
    rw [rowOf_at hi] at hr
    obtain ⟨r0, r1, r2, r3, r4, r5⟩ := hr
    refine ⟨g, off, (V i).1, (V i).2, rfl, ?_, ?_, ?_, ?_, ?_, ?_, (hl i hi).1, (hl i hi).2⟩
    · rw [hrow _ (by omega)]; exact (hx _ _ r0).1
    · rw [hrow _ (by omega), Nat.add_assoc]; exact (hx _ _ r1).1
    · rw [hrow _ (by omega), Nat.add_assoc]; exact (hx _ _ r2).1
    · rw [hrow _ (by omega), Nat.add_assoc]; exact (hx _ _ r3).1
    · rw [hrow _ (by omega), Nat.add_assoc]; exact (hx _ _ r4).1
    · rw [hrow _ (by omega), Nat.add_assoc]; exact (hx _ _ r5).1
theorem meths_put {B n cap g off : Nat} {w w' : World} {ms : List (Int × Int × List (Int × Int))} {V : Nat → Value} (h : CRow B 3 w (.slice (some ⟨g, off, none⟩) n cap) ms.length (flat3 (methL ms V))) (hn : n = ms.length) {j : Nat} (hj : j < ms.length) (m : Int × Int × List (Int × Int)) (vo : Value)
    (hrow : ∀ o, (o < off + j * 3 ∨ off + j * 3 + 3 ≤ o) → w'.cell? ⟨g, o, none⟩ = w.cell? ⟨g, o, none⟩)
    (c0 : w'.cell? ⟨g, off + j * 3, none⟩ = some (.int .i64 m.1)) (c1 : w'.cell? ⟨g, off + j * 3 + 1, none⟩ = some (.int .i64 m.2.1)) (c2 : w'.cell? ⟨g, off + j * 3 + 2, none⟩ = some vo) (ho : OpsAt w' vo m.2.2)
    (hl : ∀ i, (hi : i < ms.length) → OpsAt w' (V i) ms[i].2.2) : MethsAt w' (.slice (some ⟨g, off, none⟩) n cap) (ms.set j m) := by
  obtain ⟨hm, hx⟩ := h.at
  refine ⟨_, cap, by rw [List.length_set, hn], by rw [List.length_set]; exact hm, fun i hi => ?_⟩
  rw [List.length_set] at hi
  by_cases e : i = j
  · subst e
    rw [List.getElem_set_self]
    exact ⟨g, off, vo, rfl, c0, c1, c2, ho⟩
  · rw [List.getElem_set_ne (Ne.symm e)]
    have hr := flat3_at (methL ms V) i (by rw [methL_len]; exact hi)
    rw [methL_at hi] at hr
    obtain ⟨r0, r1, r2⟩ := hr
    refine ⟨g, off, V i, rfl, ?_, ?_, ?_, hl i hi⟩
    · rw [hrow _ (by omega)]; exact (hx _ _ r0).1
    · rw [hrow _ (by omega), Nat.add_assoc]; exact (hx _ _ r1).1
    · rw [hrow _ (by omega), Nat.add_assoc]; exact (hx _ _ r2).1
theorem fin_meths {B B' : Nat} {w W4 W7 W8 w' : World} {ms : List (Int × Int × List (Int × Int))} {V : Nat → Value} {gq oq cq m q go oo ln c6 : Nat} {k x : Int}
    (hrow : CRow B 3 W4 (.slice (some ⟨gq, oq, none⟩) ms.length cq) ms.length (flat3 (methL ms V))) (hm : m < ms.length) (h47 : W7.heap[gq]? = W4.heap[gq]?)
    (h8 : W8 = ((W7.setCell ⟨gq, oq + m * 3, none⟩ (.int .i64 ms[m].1)).setCell ⟨gq, oq + m * 3 + 1, none⟩ (.int .i64 ms[m].2.1)).setCell ⟨gq, oq + m * 3 + 2, none⟩ (.slice (some ⟨go, oo, none⟩) ln c6))
    (hP : PairRow B' W8 (.slice (some ⟨go, oo, none⟩) ln c6) (ms[m].2.2.set q (k, x))) (hV : ∀ i, (hi : i < ms.length) → OpsAt w (V i) ms[i].2.2)
    (hb : Below w.heap.size w w') (e1 : w'.heap[gq]? = W8.heap[gq]?) (e2 : w'.heap[go]? = W8.heap[go]?) (hsz : W8.heap.size ≤ w'.heap.size) :
    MethsAt w' (.slice (some ⟨gq, oq, none⟩) ms.length cq) (ms.set m (ms[m].1, ms[m].2.1, ms[m].2.2.set q (k, x))) := by
  obtain ⟨_, hx⟩ := hrow.at
  have hr := flat3_at (methL ms V) m (by rw [methL_len]; exact hm)
  rw [methL_at hm] at hr
  obtain ⟨r0, r1, r2⟩ := hr
  have c0 := (hx _ _ r0).1
  have c1 := (hx _ _ r1).1
  have c2 := (hx _ _ r2).1
  rw [← Nat.add_assoc] at c1 c2
  rw [← World.cell?_of_block (a := ⟨gq, oq + m * 3, none⟩) h47] at c0
  rw [← World.cell?_of_block (a := ⟨gq, oq + m * 3 + 1, none⟩) h47] at c1
  rw [← World.cell?_of_block (a := ⟨gq, oq + m * 3 + 2, none⟩) h47] at c2
  have hne : ∀ {a b : Nat}, a ≠ b → (⟨gq, a, none⟩ : Addr) ≠ ⟨gq, b, none⟩ := fun h e => h (by injection e)
  have d1 : (W7.setCell ⟨gq, oq + m * 3, none⟩ (.int .i64 ms[m].1)).cell? ⟨gq, oq + m * 3 + 1, none⟩ = some (.int .i64 ms[m].2.1) := by rw [World.cell?_setCell_other _ _ _ _ (hne (by omega))]; exact c1
  have d2 : ((W7.setCell ⟨gq, oq + m * 3, none⟩ (.int .i64 ms[m].1)).setCell ⟨gq, oq + m * 3 + 1, none⟩ (.int .i64 ms[m].2.1)).cell? ⟨gq, oq + m * 3 + 2, none⟩ = some (V m) := by rw [World.cell?_setCell_other _ _ _ _ (hne (by omega)), World.cell?_setCell_other _ _ _ _ (hne (by omega))]; exact c2
  refine meths_put (j := m) hrow rfl hm _ (.slice (some ⟨go, oo, none⟩) ln c6) (fun o ho => ?_) ?_ ?_ ?_ ?_ (fun i hi => (hV i hi).below hb)
  · rw [World.cell?_of_block (a := ⟨gq, o, none⟩) e1, h8, World.cell?_setCell_other _ _ _ _ (hne (by omega)), World.cell?_setCell_other _ _ _ _ (hne (by omega)), World.cell?_setCell_other _ _ _ _ (hne (by omega)), World.cell?_of_block (a := ⟨gq, o, none⟩) h47]
  · rw [World.cell?_of_block (a := ⟨gq, _, none⟩) e1, h8, World.cell?_setCell_other _ _ _ _ (hne (by omega)), World.cell?_setCell_other _ _ _ _ (hne (by omega)), World.cell?_setCell_same _ _ _ c0]
  · rw [World.cell?_of_block (a := ⟨gq, _, none⟩) e1, h8, World.cell?_setCell_other _ _ _ _ (hne (by omega)), World.cell?_setCell_same _ _ _ d1]
  · rw [World.cell?_of_block (a := ⟨gq, _, none⟩) e1, h8, World.cell?_setCell_same _ _ _ d2]
  · exact (hP.kept hsz fun g hg => by simp [Value.ownBlock] at hg; subst hg; exact e2).at
theorem fin_calls {B B' : Nat} {w W10 W11 W12 w' : World} {cs : List Cl} {VC : Nat → Value × Value} {gg og cg j : Nat} {c : Cl} {vT vS : Value}
    (hrow : CRow B 6 W10 (.slice (some ⟨gg, og, none⟩) cs.length cg) cs.length (rowC (rowOf cs VC))) (hj : j < cs.length) (h11 : W11.heap[gg]? = W10.heap[gg]?)
    (h12 : W12 = (((((W11.setCell ⟨gg, og + j * 6, none⟩ (.int .i64 c.m)).setCell ⟨gg, og + j * 6 + 1, none⟩ (.int .i64 c.pc)).setCell ⟨gg, og + j * 6 + 2, none⟩ vT).setCell ⟨gg, og + j * 6 + 3, none⟩ vS).setCell ⟨gg, og + j * 6 + 4, none⟩ (.int .i64 c.sender)).setCell ⟨gg, og + j * 6 + 5, none⟩ (.bool c.dead))
    (hT : OpsAt w vT c.temps) (hS : PairRow B' W12 vS c.stack) (hVC : ∀ i, (hi : i < cs.length) → OpsAt w (VC i).1 cs[i].temps ∧ OpsAt w (VC i).2 cs[i].stack)
    (hb : Below w.heap.size w w') (e1 : w'.heap[gg]? = W12.heap[gg]?) (e2 : ∀ g, vS.ownBlock = some g → w'.heap[g]? = W12.heap[g]?) (hsz : W12.heap.size ≤ w'.heap.size) :
    CallsAt w' (.slice (some ⟨gg, og, none⟩) cs.length cg) (cs.set j c) := by
  obtain ⟨_, hx⟩ := hrow.at
  have hr := rowC_at (rowOf cs VC) j (by rw [rowOf_len]; exact hj)
  obtain ⟨r0, r1, r2, r3, r4, r5⟩ := hr
  have c0 := (hx _ _ r0).1
  have c1 := (hx _ _ r1).1
  have c2 := (hx _ _ r2).1
  have c3 := (hx _ _ r3).1
  have c4 := (hx _ _ r4).1
  have c5 := (hx _ _ r5).1
  rw [← Nat.add_assoc] at c1 c2 c3 c4 c5
  rw [← World.cell?_of_block (a := ⟨gg, og + j * 6, none⟩) h11] at c0
  rw [← World.cell?_of_block (a := ⟨gg, og + j * 6 + 1, none⟩) h11] at c1
  rw [← World.cell?_of_block (a := ⟨gg, og + j * 6 + 2, none⟩) h11] at c2
  rw [← World.cell?_of_block (a := ⟨gg, og + j * 6 + 3, none⟩) h11] at c3
  rw [← World.cell?_of_block (a := ⟨gg, og + j * 6 + 4, none⟩) h11] at c4
  rw [← World.cell?_of_block (a := ⟨gg, og + j * 6 + 5, none⟩) h11] at c5
  have hne : ∀ {a b : Nat}, a ≠ b → (⟨gg, a, none⟩ : Addr) ≠ ⟨gg, b, none⟩ := fun h e => h (by injection e)
  have o1 : ∀ {W : World} {a b : Nat} {u : Value}, a ≠ b → (W.setCell ⟨gg, b, none⟩ u).cell? ⟨gg, a, none⟩ = W.cell? ⟨gg, a, none⟩ := fun h => World.cell?_setCell_other _ _ _ _ (hne (Ne.symm h))
  refine calls_put (j := j) hrow rfl hj c vT vS (fun o ho => ?_) ⟨?_, ?_, ?_, ?_, ?_, ?_, hT.below hb, (hS.kept hsz e2).at⟩ (fun i hi => ⟨(hVC i hi).1.below hb, (hVC i hi).2.below hb⟩)
  · rw [World.cell?_of_block (a := ⟨gg, o, none⟩) e1, h12, o1 (by omega), o1 (by omega), o1 (by omega), o1 (by omega), o1 (by omega), o1 (by omega), World.cell?_of_block (a := ⟨gg, o, none⟩) h11]
  · rw [World.cell?_of_block (a := ⟨gg, _, none⟩) e1, h12, o1 (by omega), o1 (by omega), o1 (by omega), o1 (by omega), o1 (by omega), World.cell?_setCell_same _ _ _ c0]
  · rw [World.cell?_of_block (a := ⟨gg, _, none⟩) e1, h12, o1 (by omega), o1 (by omega), o1 (by omega), o1 (by omega)]
    exact World.cell?_setCell_same _ _ _ ((o1 (by omega)).trans c1)
  · rw [World.cell?_of_block (a := ⟨gg, _, none⟩) e1, h12, o1 (by omega), o1 (by omega), o1 (by omega)]
    exact World.cell?_setCell_same _ _ _ ((o1 (by omega)).trans ((o1 (by omega)).trans c2))
  · rw [World.cell?_of_block (a := ⟨gg, _, none⟩) e1, h12, o1 (by omega), o1 (by omega)]
    exact World.cell?_setCell_same _ _ _ ((o1 (by omega)).trans ((o1 (by omega)).trans ((o1 (by omega)).trans c3)))
  · rw [World.cell?_of_block (a := ⟨gg, _, none⟩) e1, h12, o1 (by omega)]
    exact World.cell?_setCell_same _ _ _ ((o1 (by omega)).trans ((o1 (by omega)).trans ((o1 (by omega)).trans ((o1 (by omega)).trans c4))))
  · rw [World.cell?_of_block (a := ⟨gg, _, none⟩) e1, h12]
    exact World.cell?_setCell_same _ _ _ ((o1 (by omega)).trans ((o1 (by omega)).trans ((o1 (by omega)).trans ((o1 (by omega)).trans ((o1 (by omega)).trans c5)))))
end Go.Proofs.YtlpbklgkafjfmaaGreatDoor
