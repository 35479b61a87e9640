/-
  What draws a heap, in memory: the boxes of the program and of the heap, and what stays while they are written.
-/
import Derived.Test.YtoaalcijdcmboacGreatDoorSMem3
import Derived.Test.YtoaalcijdcmboacGreatDoorDraw10
import Derived.Test.YtoaalcijdcmboacGreatDoorVImpl5
import Derived.Test.YtoaalcijdcmboacGreatDoorVSpec2
import Derived.Laws.IdiomCopy

namespace Go.Proofs.YtoaalcijdcmboacGreatDoor
open Go.RowKit
theorem OpsAt.stay {w w' : World} {v : Value} {ops : List (Int × Int)} (h : OpsAt w v ops) (hb : ∀ g, v.ownBlock = some g → w'.heap[g]? = w.heap[g]?) : OpsAt w' v ops := by
  obtain ⟨a, cap, rfl, hl, hc⟩ := h
  refine ⟨a, cap, rfl, hl, fun i hi => ?_⟩
  obtain ⟨b, o, rfl, h0, h1⟩ := hc i hi
  have e := hb b rfl
  exact ⟨b, o, rfl, (World.cell?_of_block (a := ⟨b, _, none⟩) e).trans h0, (World.cell?_of_block (a := ⟨b, _, none⟩) e).trans h1⟩
theorem PRow.stay {B C : Nat} {w w' : World} {v : Value} {ms : List MM} (h : PRow B w v ms) (hl : ms.length ≤ maxLen) (ho : ∀ m ∈ ms, m.2.2.2.length ≤ maxLen) (hv : ∀ g, v.ownBlock = some g → g < C) (hm : ∀ m ∈ ms, ∀ g, m.2.2.1.ownBlock = some g → g < C)
    (hb : ∀ g, B ≤ g → g < C → w'.heap[g]? = w.heap[g]?) : MethsAt w' v (plainOf ms) := by
  rcases h.row.2 with ⟨rfl, hn⟩ | ⟨g, cap, cur, hv', _⟩
  · have : ms = [] := by simpa using hn
    subst this
    exact ⟨none, 0, rfl, Nat.zero_le _, fun i hi => absurd hi (Nat.not_lt_zero _)⟩
  · subst hv'
    refine ⟨some ⟨g, 0, none⟩, cap, by simp [plainOf], by simpa [plainOf] using hl, fun i hi => ?_⟩
    have hi' : i < ms.length := by simpa [plainOf] using hi
    have c := h.row.cell i (by simpa using hi')
    rw [PRow.ofMap hi'] at c
    have e := hb g (h.row.lt g rfl).1 (hv g rfl)
    have hmi := List.getElem_mem hi'
    have key : ∀ o x, w.cell? ⟨g, o, none⟩ = some x → w'.cell? ⟨g, o, none⟩ = some x := fun o x hx => (World.cell?_of_block (a := ⟨g, o, none⟩) e).trans hx
    refine ⟨g, 0, ms[i].2.2.1, rfl, ?_, ?_, ?_, ?_⟩
    · simp only [plainOf, List.getElem_map, Nat.zero_add]; exact key _ _ c.1
    · simp only [plainOf, List.getElem_map, Nat.zero_add]; exact key _ _ c.2.1
    · simp only [Nat.zero_add]; exact key _ _ c.2.2
    · simp only [plainOf, List.getElem_map]; exact ((h.ops _ hmi).at (ho _ hmi)).stay fun q hq => hb q ((h.ops _ hmi).lt q hq).1 (hm _ hmi q hq)
def Stays (B : Nat) (w : World) (P : World → Prop) : Prop := ∀ w' : World, w.heap.size ≤ w'.heap.size → (∀ g, B ≤ g → g < w.heap.size → w'.heap[g]? = w.heap[g]?) → P w'
theorem Stays.here {B : Nat} {w : World} {P : World → Prop} (h : Stays B w P) : P w := h w (Nat.le_refl _) fun _ _ _ => rfl
theorem Stays.grown {B b : Nat} {w w' : World} {P : World → Prop} (h : Stays B w P) (hg : w.grownBy w' (some b)) (hb : b < B) : Stays B w' P := fun w'' e1 e2 => h w'' (Nat.le_trans hg.size e1) fun g x1 x2 => (e2 g x1 (Nat.lt_of_lt_of_le x2 hg.size)).trans (hg.block g x2 (fun e => by injection e with e; omega))
theorem Stays.below {B : Nat} {w w' : World} {P : World → Prop} (h : Stays B w P) (hb : Below w.heap.size w w') : Stays B w' P := fun w'' e1 e2 => h w'' (Nat.le_trans hb.size e1) fun g x1 x2 => (e2 g x1 (Nat.lt_of_lt_of_le x2 hb.size)).trans (hb.block g x2)
theorem Stays.mono {B B' : Nat} {w : World} {P : World → Prop} (h : Stays B w P) (hB : B' ≤ B) : Stays B' w P := fun w'' e1 e2 => h w'' e1 fun g x1 x2 => e2 g (Nat.le_trans hB x1) x2
def dtwo (x0 x1 : Value) : Nat → Value := fun i => if i = 0 then x0 else x1
theorem dtwo_new (w : World) (t : TypeId) (x0 x1 : Value) : (w.alloc (.cells #[x0, x1] t)).rowIs w.heap.size t 2 (dtwo x0 x1) :=
  ⟨_, Go.Deep.blk_alloc_new _ _, rfl, fun i hi => by match i, hi with | 0, _ => rfl | 1, _ => rfl⟩
theorem dtwo_cells {w : World} {g : Nat} {t : TypeId} {x0 x1 : Value} (h : w.rowIs g t 2 (dtwo x0 x1)) : (w.cell? ⟨g, 0, none⟩ = some x0 ∧ w.cell? ⟨g, 1, none⟩ = some x1) ∧ (w.frozen? ⟨g, 0, none⟩ = false ∧ w.frozen? ⟨g, 1, none⟩ = false) :=
  ⟨⟨h.cell (i := 0) (by decide), h.cell (i := 1) (by decide)⟩, h.frozen 0, h.frozen 1⟩
structure DH (w : World) (b : Nat) (a : Option Addr) (len cap q B0 bp bh : Nat) (vp : Value) (ms : List MM) (vc vs : Value) (h : Hp) (wx : World) : Prop where
  rd : Rd wx b a len cap q
  gr : w.grownBy wx (some b)
  rp : wx.rowIs w.heap.size 25 1 (fun _ => .slice none 0 0)
  rh : wx.rowIs (w.heap.size + 1) 29 5 (five (.slice none 0 0) (.int .i64 0) (.int .i64 0) (.slice none 0 0) (.int .i64 0))
  rb : wx.rowIs bp 25 1 (fun _ => vp)
  R : wx.rowIs bh 29 5 (five vc (.int .i64 h.now) (.int .i64 h.born) vs (.int .i64 h.code))
  mx : ∀ w' : World, wx.heap.size ≤ w'.heap.size → (∀ g, B0 ≤ g → g < bh → w'.heap[g]? = wx.heap[g]?) → MethsAt w' vp (plainOf ms)
  hx : ∀ w' : World, wx.heap.size ≤ w'.heap.size → (∀ g, bh < g → g < wx.heap.size → w'.heap[g]? = wx.heap[g]?) → HeapAt w' vc vs h
  r0 : ∃ q0, Rd w b a len cap q0
  n0 : b < w.heap.size
  n1 : w.heap.size + 1 < B0
  n2 : w.heap.size + 1 < bp
  n3 : bp < bh
variable {w wx w' : World} {b : Nat} {a : Option Addr} {len cap q B0 bp bh : Nat} {vp vc vs : Value} {ms : List MM} {h : Hp}
theorem DH.drew (k : DH w b a len cap q B0 bp bh vp ms vc vs h wx) : DH w b a len cap q B0 bp bh vp ms vc vs h wx.drew :=
  ⟨Rd.heap k.rd rfl, ⟨k.gr.os, k.gr.tape, k.gr.output, k.gr.size, k.gr.block⟩, k.rp, k.rh, k.rb, k.R, k.mx, k.hx, k.r0, k.n0, k.n1, k.n2, k.n3⟩
theorem DH.pick {q' : Nat} (k : DH w b a len cap q B0 bp bh vp ms vc vs h wx) (hr : Rd w' b a len cap q') (hg : wx.grownBy w' (some b)) : DH w b a len cap q' B0 bp bh vp ms vc vs h w' := by
  have h0 := k.n0
  have h1 := k.n1
  have h2 := k.n2
  have h3 := k.n3
  have hbh := k.R.lt
  refine ⟨hr, grown_trans k.gr hg, row_kept k.rp hg (by intro e; injection e with e; omega), row_kept k.rh hg (by intro e; injection e with e; omega), row_kept k.rb hg (by intro e; injection e with e; omega), row_kept k.R hg (by intro e; injection e with e; omega), fun w'' e1 e2 => k.mx w'' (Nat.le_trans hg.size e1) fun g x1 x2 => (e2 g x1 x2).trans (hg.block g (by omega) (by intro e; injection e with e; omega)), fun w'' e1 e2 => k.hx w'' (Nat.le_trans hg.size e1) fun g x1 x2 => (e2 g x1 (Nat.lt_of_lt_of_le x2 hg.size)).trans (hg.block g x2 (by intro e; injection e with e; omega)), k.r0, h0, h1, h2, h3⟩
theorem DH.alloc (k : DH w b a len cap q B0 bp bh vp ms vc vs h wx) (o : Obj) : DH w b a len cap q B0 bp bh vp ms vc vs h (wx.alloc o) := by
  have hb : Below wx.heap.size wx (wx.alloc o) := (Below.refl _ _).alloc (Nat.le_refl _) _
  have hbh := k.R.lt
  have h3 := k.n3
  exact ⟨k.rd.alloc o, grown_alloc k.gr o, row_below hb k.rp, row_below hb k.rh, row_below hb k.rb, row_below hb k.R, fun w'' e1 e2 => k.mx w'' (Nat.le_trans hb.size e1) fun g x1 x2 => (e2 g x1 x2).trans (hb.block g (by omega)), fun w'' e1 e2 => k.hx w'' (Nat.le_trans hb.size e1) fun g x1 x2 => (e2 g x1 (Nat.lt_of_lt_of_le x2 hb.size)).trans (hb.block g x2), k.r0, k.n0, k.n1, k.n2, h3⟩
theorem DH.re {vc' vs' : Value} {h' : Hp} (k : DH w b a len cap q B0 bp bh vp ms vc vs h wx) (hb : Below bh wx w') (hR : w'.rowIs bh 29 5 (five vc' (.int .i64 h'.now) (.int .i64 h'.born) vs' (.int .i64 h'.code)))
    (hx : ∀ w'' : World, w'.heap.size ≤ w''.heap.size → (∀ g, bh < g → g < w'.heap.size → w''.heap[g]? = w'.heap[g]?) → HeapAt w'' vc' vs' h') : DH w b a len cap q B0 bp bh vp ms vc' vs' h' w' := by
  have h0 := k.n0
  have h1 := k.n1
  have h2 := k.n2
  have h3 := k.n3
  have hbh := k.R.lt
  have hz := k.gr.size
  refine ⟨?_, ⟨hb.os.trans k.gr.os, hb.tape.trans k.gr.tape, hb.output.trans k.gr.output, Nat.le_trans k.gr.size hb.size, fun g x1 x2 => (hb.block g (by omega)).trans (k.gr.block g x1 x2)⟩, k.rp.of_block (hb.block _ (by omega)), k.rh.of_block (hb.block _ (by omega)), k.rb.of_block (hb.block _ (by omega)), hR, fun w'' e1 e2 => k.mx w'' (Nat.le_trans hb.size e1) fun g x1 x2 => (e2 g x1 x2).trans (hb.block g x2), hx, k.r0, h0, h1, h2, h3⟩
  have r := k.rd
  exact ⟨(World.cell?_of_block (a := ⟨b, 0, none⟩) (hb.block b (by omega))).trans r.s, (World.cell?_of_block (a := ⟨b, 1, none⟩) (hb.block b (by omega))).trans r.p, (World.frozen?_of_block (a := ⟨b, 1, none⟩) (hb.block b (by omega))).trans r.f, r.l, fun i hi => by
    obtain ⟨q0, r0⟩ := k.r0
    obtain ⟨b0, o0, x0, e0, _, hc0, _⟩ := r0.c i hi
    have hlt := World.block_lt_of_cell? _ _ hc0
    obtain ⟨b', o, x, e1, hb', hc, hx'⟩ := r.c i hi
    have hbb : b' = b0 := by
      rw [e0] at e1
      injection e1 with e1
      injection e1 with e1 _
      exact e1.symm
    subst hbb
    have hlt' : b' < w.heap.size := hlt
    exact ⟨b', o, x, e1, hb', (World.cell?_of_block (a := ⟨b', o + i, none⟩) (hb.block b' (by omega))).trans hc, hx'⟩⟩
theorem DH.num {h' : Hp} {i : Nat} {x : Int} (k : DH w b a len cap q B0 bp bh vp ms vc vs h wx) (hc : h'.calls = h.calls) (hs : h'.said = h.said)
    (hR : (wx.setCell ⟨bh, i, none⟩ (.int .i64 x)).rowIs bh 29 5 (five vc (.int .i64 h'.now) (.int .i64 h'.born) vs (.int .i64 h'.code))) : DH w b a len cap q B0 bp bh vp ms vc vs h' (wx.setCell ⟨bh, i, none⟩ (.int .i64 x)) := by
  have hz : (wx.setCell ⟨bh, i, none⟩ (.int .i64 x)).heap.size = wx.heap.size := by simp [World.setCell]
  refine k.re ((Below.refl _ _).setCell (p := ⟨bh, i, none⟩) (Nat.le_refl _) _) hR fun w'' e1 e2 => ?_
  have H := k.hx w'' (by omega) fun g x1 x2 => (e2 g x1 (by omega)).trans (Below.heap_setCell _ _ _ _ (by intro e; have : g = bh := e; omega))
  exact ⟨by rw [hc]; exact H.c, by rw [hs]; exact H.s⟩
theorem DH.fin (k : DH w b a len cap q B0 bp bh vp ms vc vs h wx) : ∃ WF : World, WF = ((((((wx.setCell ⟨w.heap.size, 0, none⟩ vp).setCell ⟨w.heap.size + 1, 0, none⟩ vc).setCell ⟨w.heap.size + 1, 1, none⟩ (.int .i64 h.now)).setCell ⟨w.heap.size + 1, 2, none⟩ (.int .i64 h.born)).setCell ⟨w.heap.size + 1, 3, none⟩ vs).setCell ⟨w.heap.size + 1, 4, none⟩ (.int .i64 h.code)) ∧
    WF.cell? ⟨w.heap.size, 0, none⟩ = some vp ∧ WF.rowIs (w.heap.size + 1) 29 5 (five vc (.int .i64 h.now) (.int .i64 h.born) vs (.int .i64 h.code)) ∧ Stays w.heap.size WF (fun x => MethsAt x vp (plainOf ms) ∧ HeapAt x vc vs h) ∧ Rd WF b a len cap q ∧ w.grownBy WF (some b) := by
  have h0 := k.n0
  have h1 := k.n1
  have h2 := k.n2
  have h3 := k.n3
  have hbh := k.R.lt
  obtain ⟨q0, r0⟩ := k.r0
  have k1 := grown_set wx w.heap.size 0 vp
  have k2 := grown_trans (grown_trans (grown_trans (grown_trans (grown_set (wx.setCell ⟨w.heap.size, 0, none⟩ vp) (w.heap.size + 1) 0 vc) (grown_set _ (w.heap.size + 1) 1 (.int .i64 h.now))) (grown_set _ (w.heap.size + 1) 2 (.int .i64 h.born))) (grown_set _ (w.heap.size + 1) 3 vs)) (grown_set _ (w.heap.size + 1) 4 (.int .i64 h.code))
  have e1 : ∀ g, some w.heap.size = some g → w.heap.size ≤ g := fun g e => by injection e with e; omega
  have e2 : ∀ g, some (w.heap.size + 1) = some g → w.heap.size ≤ g := fun g e => by injection e with e; omega
  have g1 := grown_own k.gr k1 e1
  have hz1 : (wx.setCell ⟨w.heap.size, 0, none⟩ vp).heap.size = wx.heap.size := by simp [World.setCell]
  have hbl : ∀ g, w.heap.size + 1 < g → g < wx.heap.size → ((((((wx.setCell ⟨w.heap.size, 0, none⟩ vp).setCell ⟨w.heap.size + 1, 0, none⟩ vc).setCell ⟨w.heap.size + 1, 1, none⟩ (.int .i64 h.now)).setCell ⟨w.heap.size + 1, 2, none⟩ (.int .i64 h.born)).setCell ⟨w.heap.size + 1, 3, none⟩ vs).setCell ⟨w.heap.size + 1, 4, none⟩ (.int .i64 h.code)).heap[g]? = wx.heap[g]? := fun g x1 x2 => (k2.block g (by omega) (fun e => by injection e with e; omega)).trans (k1.block g x2 (fun e => by injection e with e; omega))
  refine ⟨_, rfl, k2.cell (World.cell?_setCell_same wx ⟨w.heap.size, 0, none⟩ vp (k.rp.cell (i := 0) (by decide))) (by intro e; simp at e), five_set4 (five_set3 (five_set2 (five_set1 (five_set0 (row_kept k.rh k1 (by intro e; injection e with e; omega)) vc) (.int .i64 h.now)) (.int .i64 h.born)) vs) (.int .i64 h.code), fun w'' y1 y2 => ⟨k.mx _ (Nat.le_trans (Nat.le_trans k1.size k2.size) y1) fun g x1 x2 => (y2 g (by omega) (by have := k1.size; have := k2.size; omega)).trans (hbl g (by omega) (by omega)), k.hx _ (Nat.le_trans (Nat.le_trans k1.size k2.size) y1) fun g x1 x2 => (y2 g (by omega) (by have := k1.size; have := k2.size; omega)).trans (hbl g (by omega) x2)⟩, Rd.kept r0 (Rd.kept r0 k.rd k.gr.size k1 e1) g1.size k2 e2, grown_own g1 k2 e2⟩
theorem OwnHeap.put {B : Nat} {w w' : World} {vs : Value} {g off n cap : Nat} {h : Hp} {V : Nat → Value × Value} (k : OwnHeap B w (.slice (some ⟨g, off, Option.none⟩) n cap) vs h V) {j : Nat} (hj : j < h.calls.length) {c : Cl} {vt vs' : Value}
    (p : Put B w w' g off j V c vt vs') : OwnHeap B w' (.slice (some ⟨g, off, Option.none⟩) n cap) vs { h with calls := h.calls.set j c } (putV V j (vt, vs')) := by
  have hV1 : ∀ q, (V j).1.ownBlock = some q → CallBlocks (.slice (some ⟨g, off, Option.none⟩) n cap) h.calls.length V q := fun q e => .inr ⟨j * 2, by omega, by rw [lst_0]; exact e⟩
  have hV2 : ∀ q, (V j).2.ownBlock = some q → CallBlocks (.slice (some ⟨g, off, Option.none⟩) n cap) h.calls.length V q := fun q e => .inr ⟨j * 2 + 1, by omega, by rw [lst_1]; exact e⟩
  have hout : ∀ q, q < w.heap.size → ¬ CallBlocks (.slice (some ⟨g, off, Option.none⟩) n cap) h.calls.length V q → w'.heap[q]? = w.heap[q]? := fun q hq hn => p.bl q hq (fun e => hn (.inl (by rw [e]; rfl))) (fun e => hn (hV1 q e)) (fun e => hn (hV2 q e))
  have hnew : ∀ q, q < w.heap.size → ¬ CallBlocks (.slice (some ⟨g, off, Option.none⟩) n cap) h.calls.length V q → ¬ CallBlocks (.slice (some ⟨g, off, Option.none⟩) n cap) (h.calls.set j c).length (putV V j (vt, vs')) q := fun q hq hn e => by
    rcases e with e | ⟨i, hi, e⟩
    · exact hn (.inl e)
    · rw [List.length_set] at hi
      rw [lst_put] at e
      by_cases e1 : i / 2 = j
      · rw [if_pos e1] at e
        by_cases e2 : i % 2 = 0
        · rw [if_pos e2] at e
          rcases p.nt q e with x | x | x
          · exact hn (hV1 q x)
          · exact hn (hV2 q x)
          · omega
        · rw [if_neg e2] at e
          rcases p.ns q e with x | x | x
          · exact hn (hV1 q x)
          · exact hn (hV2 q x)
          · omega
      · rw [if_neg e1] at e
        exact hn (.inr ⟨i, hi, e⟩)
  exact ⟨k.c.put hj c vt vs' p.sz p.fr p.row p.bl p.c0 p.c1 p.c2 p.c3 p.c4 p.c5 p.ht p.hs p.nt p.ns p.ts, k.s.kept p.sz fun q e => hout q (k.s.lt q e).2 (k.apart q e), fun q e => hnew q (k.s.lt q e).2 (k.apart q e)⟩
theorem OwnHeap.stays {B bh : Nat} {w : World} {vc vs : Value} {h : Hp} {V : Nat → Value × Value} (k : OwnHeap B w vc vs h V) (hB : bh < B) : ∀ w' : World, w.heap.size ≤ w'.heap.size → (∀ g, bh < g → g < w.heap.size → w'.heap[g]? = w.heap[g]?) → HeapAt w' vc vs h :=
  fun _ e1 e2 => (k.kept e1 fun g hg => e2 g (by have := (k.lt hg).1; omega) (k.lt hg).2).at
theorem OwnHeap.say {B : Nat} {w w2 : World} {vc vs : Value} {h : Hp} {V : Nat → Value × Value} (k : OwnHeap B w vc vs h V) (v' : Value) (sd : List (Int × Int)) (hsz : w.heap.size ≤ w2.heap.size)
    (hbl : ∀ q, q < w.heap.size → vs.ownBlock ≠ some q → w2.heap[q]? = w.heap[q]?) (hr : PairRow B w2 v' sd) (hv : ∀ q, v'.ownBlock = some q → vs.ownBlock = some q ∨ w.heap.size ≤ q) : OwnHeap B w2 vc v' { h with said := sd } V :=
  ⟨k.c.kept hsz fun q e => hbl q (k.c.lt e).2 (fun e2 => k.apart q e2 e), hr, fun q e e2 => by
    rcases hv q e with x | x
    · exact k.apart q x e2
    · have := (k.c.lt e2).2; omega⟩
theorem OwnHeap.setLow {B : Nat} {w : World} {vc vs : Value} {h : Hp} {V : Nat → Value × Value} (k : OwnHeap B w vc vs h V) {p : Addr} (hp : p.block < B) (u : Value) : OwnHeap B (w.setCell p u) vc vs h V :=
  k.kept (by simp [World.setCell]) fun g hg => Below.heap_setCell _ _ _ _ (fun e => by have := (k.lt hg).1; omega)
theorem put_temps {B : Nat} {w w2 : World} {g off cap n : Nat} {cs : List Cl} {V : Nat → Value × Value} (h : OwnCalls B w (.slice (some ⟨g, off, none⟩) n cap) cs V) {j : Nat} (hj : j < cs.length) (v' : Value) (st : List (Int × Int)) (hsz : w.heap.size ≤ w2.heap.size)
    (hbl : ∀ k, k < w.heap.size → (V j).1.ownBlock ≠ some k → w2.heap[k]? = w.heap[k]?) (hr : PairRow B w2 v' st) (hv : ∀ q, v'.ownBlock = some q → (V j).1.ownBlock = some q ∨ w.heap.size ≤ q) :
    Put B w (w2.setCell ⟨g, off + j * 6 + 2, none⟩ v') g off j V { cs[j] with temps := st } v' (V j).2 := by
  have hgl : g < w.heap.size := (h.lt (g := g) (.inl rfl)).2
  obtain ⟨⟨c0, c1, c2, c3, c4, c5⟩, _⟩ := h.cells hj
  obtain ⟨a1, a2⟩ : (∀ q, (V j).2.ownBlock = some q → q ≠ g ∧ (V j).1.ownBlock ≠ some q) ∧ (∀ q, (V j).1.ownBlock = some q → q ≠ g) := by
    refine ⟨fun q e => ?_, fun q e eg => ?_⟩
    · obtain ⟨x1, x2⟩ := h.apart (j * 2 + 1) (by omega) q (by rw [lst_1]; exact e)
      have x3 := x2 (j * 2) (by omega) (by omega)
      rw [lst_0] at x3
      exact ⟨fun eg => x1 (by rw [eg]; rfl), x3⟩
    · exact (h.apart (j * 2) (by omega) q (by rw [lst_0]; exact e)).1 (by rw [eg]; rfl)
  have hg2 : w2.heap[g]? = w.heap[g]? := hbl g hgl (fun e => a2 g e rfl)
  have cg : ∀ o, w2.cell? ⟨g, o, none⟩ = w.cell? ⟨g, o, none⟩ := fun o => World.cell?_of_block (a := ⟨g, o, none⟩) hg2
  have fg : ∀ o, w2.frozen? ⟨g, o, none⟩ = w.frozen? ⟨g, o, none⟩ := fun o => World.frozen?_of_block (a := ⟨g, o, none⟩) hg2
  have hoth : ∀ o, o ≠ off + j * 6 + 2 → (w2.setCell ⟨g, off + j * 6 + 2, none⟩ v').cell? ⟨g, o, none⟩ = w.cell? ⟨g, o, none⟩ := fun o ho => by
    rw [World.cell?_setCell_other _ _ _ _ (fun q => ho (by have := congrArg Addr.off q; simpa using this.symm)), cg]
  have hvg : v'.ownBlock ≠ some g := fun e => by
    rcases hv g e with x | x
    · exact a2 g x rfl
    · omega
  have ht := (h.lists j hj).2
  refine ⟨by simp [World.setCell]; exact hsz, fun o => by rw [World.frozen?_setCell]; exact fg o, fun o ho => hoth o (by omega), fun k hk hkg h1 h2 => ?_, ?_, ?_, ?_, ?_, ?_, ?_, hr.set_other _ hvg, ?_, fun q e => ?_, fun q e => .inr (.inl e), fun q e e2 => ?_⟩
  · rw [Below.heap_setCell _ _ _ _ (fun e => hkg e)]
    exact hbl k hk h1
  · rw [hoth _ (by omega)]; exact c0
  · rw [hoth _ (by omega)]; exact c1
  · exact World.cell?_setCell_same _ _ _ (by rw [cg]; exact c2)
  · rw [hoth _ (by omega)]; exact c3
  · rw [hoth _ (by omega)]; exact c4
  · rw [hoth _ (by omega)]; exact c5
  · exact (ht.kept hsz fun q e => hbl q (ht.lt q e).2 (a1 q e).2).set_other _ (fun e => (a1 _ e).1 rfl)
  · rcases hv q e with x | x
    · exact .inl x
    · exact .inr (.inr x)
  · rcases hv q e with x | x
    · exact (a1 q e2).2 x
    · have := (ht.lt q e2).2; omega
theorem CallsAt.tail {w : World} {g off n c : Nat} {cs : List Cl} (h : CallsAt w (.slice (some ⟨g, off, none⟩) n c) cs) (h1 : 1 ≤ cs.length) (c' : Nat) : CallsAt w (.slice (some ⟨g, off + 6, none⟩) (cs.length - 1) c') (cs.drop 1) := by
  obtain ⟨a, cap, hv, hl, hc⟩ := h
  refine ⟨some ⟨g, off + 6, none⟩, c', by simp, by simp; omega, fun i hi => ?_⟩
  have hi' : i + 1 < cs.length := by simp at hi; omega
  obtain ⟨b, o, vt, vs, ha, k⟩ := hc (i + 1) hi'
  injection hv with e1 e2 e3
  rw [ha] at e1
  injection e1 with e1
  injection e1 with e1 e2 _
  subst e1 e2
  refine ⟨g, off + 6, vt, vs, rfl, ?_⟩
  rw [List.getElem_drop, show off + 6 + i * 6 = off + (i + 1) * 6 by omega]
  simpa [Nat.add_comm] using k
end Go.Proofs.YtoaalcijdcmboacGreatDoor

/-
  The program's heap at work: operations are done, part nine: one goes on elsewhere, if it is nothing, or 0.
-/
namespace Go.Proofs.YtoaalcijdcmboacGreatDoor
open Go.RowKit
variable {B : Nat} {w w' : World} {bl br : Nat} {vp vcs vsd : Value} {C D : Nat → Nat} {T : Nat → Value × Value} {h h' : Hp}
set_option maxRecDepth 100000 in
set_option maxHeartbeats 2000000 in
theorem isZero_any (k n : Int) (w : World) :
    Calls Tryz.prog 134 #[.agg #[.int .i64 k, .int .i64 n]] w fun e w' => e = .returned (.bool (decide (n = 0 ∧ (k = 0 ∨ k = 1)))) ∧ Below w.heap.size w w' := by
  have hA : Below w.heap.size w (w.alloc (.cells #[.int .i64 k, .int .i64 n] 37)) := (Below.refl _ _).alloc (Nat.le_refl _) _
  have rx := two_new w 37 (.int .i64 k) (.int .i64 n)
  by_cases hz : k = 0 ∧ n = 0
  · obtain ⟨rfl, rfl⟩ := hz
    go_enter Tryz.func134, Tryz.ntmps134
    go_wp2_with fail
    go_region
    go_wp2
    go_ret
    exact ⟨ret_bool (by simp), hA.drew⟩
  by_cases hn : n = 0
  · subst hn
    have hk : (k == 0) = false := beq_eq_false_iff_ne.2 (fun q => hz ⟨q, rfl⟩)
    have hk0 : ¬ k = 0 := fun q => hz ⟨q, rfl⟩
    clear hz
    by_cases h1 : k = 1
    · subst h1
      clear hk hk0
      go_enter Tryz.func134, Tryz.ntmps134
      go_wp2_with fail
      go_region_with (go_at_call 132; refine (numVal_any _ _).mono ?_; rintro e w2 ⟨rfl, hb⟩; obtain ⟨⟨t0, t1⟩, _⟩ := two_cells (row_below hb rx))
      all_goals
        go_wp2
        go_ret
        exact ⟨ret_bool (by simp), hA.drew.trans (hb.mono hA.size)⟩
    · have h1' : (k == 1) = false := beq_eq_false_iff_ne.2 h1
      go_enter Tryz.func134, Tryz.ntmps134
      go_wp2_with fail
      go_region_with (go_at_call 132; refine (numVal_any _ _).mono ?_; rintro e w2 ⟨rfl, hb⟩; obtain ⟨⟨t0, t1⟩, _⟩ := two_cells (row_below hb rx))
      all_goals
        go_wp2
        go_ret
        exact ⟨ret_bool (by simp [hk0, h1]), hA.drew.trans (hb.mono hA.size)⟩
  · have hn' : (n == 0) = false := beq_eq_false_iff_ne.2 hn
    clear hz
    go_enter Tryz.func134, Tryz.ntmps134
    go_wp2_with fail
    go_region_with (go_at_call 132; refine (numVal_any _ _).mono ?_; rintro e w2 ⟨rfl, hb⟩; obtain ⟨⟨t0, t1⟩, _⟩ := two_cells (row_below hb rx))
    all_goals
      go_wp2
      go_ret
      exact ⟨ret_bool (by simp [hn]), hA.drew.trans (hb.mono hA.size)⟩
set_option maxRecDepth 100000 in
set_option maxHeartbeats 2000000 in
theorem doZero_any (k : LV B w bl br vp vcs vsd C D T h) {j : Nat} (hn : h.now = (j : Int)) (hj : j < h.calls.length) (hB : B ≤ w.heap.size) (a : Int) {vt : Value} {args : List (Int × Int)} (t : Tk (LOwn bl br vcs vsd C D T h.calls.length) w vt args) (h1 : 0 < args.length) :
    Calls Tryz.prog 114 #[.pointer (some ⟨br, 0, none⟩), .int .i64 a, vt] w fun e w' => e = .returned (.tuple #[]) ∧ LEnd B bl br vp (LOwn bl br vcs vsd C D T h.calls.length) w (if args[0].2 = 0 ∧ (args[0].1 = 0 ∨ args[0].1 = 1) then setH h { curC h with pc := a } else h) w' := by
  obtain ⟨b, o, cap, rfl, c0, c1⟩ := t.cell h1
  rw [Nat.zero_mul, Nat.add_zero] at c0 c1
  have hz : (0 : Int) < (args.length : Int) := by omega
  clear t
  generalize args[0] = x at *
  obtain ⟨x1, x2⟩ := x
  have hm := Tryz.go_running bl
  simp only at c0 c1 ⊢
  by_cases hx : x2 = 0 ∧ (x1 = 0 ∨ x1 = 1)
  · rw [if_pos hx]
    have HZ : ∀ w, Calls Tryz.prog 134 #[.agg #[.int .i64 x1, .int .i64 x2]] w fun e w' => e = .returned (.bool true) ∧ Below w.heap.size w w' := fun w => by
      have := isZero_any x1 x2 w
      rw [decide_eq_true hx] at this
      exact this
    have HJ : Hid (∀ w1, Below w.heap.size w w1 → Calls Tryz.prog 157 #[.pointer (some ⟨bl, 0, none⟩)] w1 fun e w' => e = .returned (.pointer (some ⟨D j, 0, none⟩)) ∧ w' = w1) := fun w1 hb => running_any (k.below hb) hn hj
    have HF : Hid (∀ w1, Below w.heap.size w w1 → ((w1.cell? ⟨br, 0, none⟩ = some vp ∧ w1.cell? ⟨br, 1, none⟩ = some (.iface 78 (.pointer (some ⟨bl, 0, none⟩)))) ∧ w1.cell? ⟨D j, 1, none⟩ = some (.int .i64 h.calls[j].pc) ∧ w1.frozen? ⟨D j, 1, none⟩ = false) ∧ LEnd B bl br vp (LOwn bl br vcs vsd C D T h.calls.length) w (setH h { curC h with pc := a }) (w1.setCell ⟨D j, 1, none⟩ (.int .i64 a))) := fun w1 hb => by
      have k1 := k.below hb
      obtain ⟨⟨y0, y1, _⟩, _⟩ := five_cells k1.rn
      obtain ⟨⟨_, z1, _⟩, _, zf1, _⟩ := five_cells (k1.bd j hj)
      refine ⟨⟨⟨y0, y1⟩, z1, zf1⟩, ?_⟩
      have e : setH h { curC h with pc := a } = { h with calls := h.calls.set j { h.calls[j] with pc := a } } := by
        unfold setH
        rw [cur_at hn hj, hn, Int.toNat_natCast]
      rw [e]
      obtain ⟨k2, g2⟩ := k1.pc hj a
      refine LEnd.first hb hB ⟨_, _, _, _, _, k2, ?_⟩
      simp only [List.length_set]
      exact g2
    clear k hx
    go_enter Tryz.func114, Tryz.ntmps114
    go_wp2_with (first
      | (go_at_call 134; refine (HZ _).mono ?_; rintro e w2 ⟨rfl, hb⟩; obtain ⟨⟨⟨y0, y1⟩, z1, zf1⟩, hE⟩ := HF.out _ hb)
      | (go_at_call 157; refine (HJ.out _ hb).mono ?_; rintro e w' ⟨rfl, hw⟩; obtain rfl := hw.symm))
    exact bodyPost_end (results_none rfl _ _ _) rfl ⟨rfl, hE⟩
  · rw [if_neg hx]
    have HZ : ∀ w, Calls Tryz.prog 134 #[.agg #[.int .i64 x1, .int .i64 x2]] w fun e w' => e = .returned (.bool false) ∧ Below w.heap.size w w' := fun w => by
      have := isZero_any x1 x2 w
      rw [decide_eq_false hx] at this
      exact this
    have HE : Hid (∀ w1, Below w.heap.size w w1 → LEnd B bl br vp (LOwn bl br vcs vsd C D T h.calls.length) w h w1) := fun w1 hb => ⟨_, _, _, _, _, k.below hb, LGo.of_below hB hb⟩
    clear k hx
    go_enter Tryz.func114, Tryz.ntmps114
    go_wp2_with (go_at_call 134; refine (HZ _).mono ?_; rintro e w2 ⟨rfl, hb⟩)
    exact bodyPost_end (results_none rfl _ _ _) rfl ⟨rfl, HE.out _ hb⟩
end Go.Proofs.YtoaalcijdcmboacGreatDoor

/-
  The program's heap at work: operations are done, part ten: a method is called.
-/
namespace Go.Proofs.YtoaalcijdcmboacGreatDoor
open Go.RowKit
variable {B : Nat} {w w' : World} {bl br : Nat} {vp vcs vsd : Value} {C D : Nat → Nat} {T : Nat → Value × Value} {h h' : Hp}
theorem run_copy_two {P : Program} (w : World) (dT sT ty elem : TypeId) (b o dLen dCap : Nat) (a : Addr) (sLen sCap : Nat) (cs : List Value)
    (hu : P.underlying dT = some (.slice elem)) (hs : (P.info? elem).map (·.size) = some 2) (hn : cs.length = Nat.min sLen dLen * 2)
    (hsrc : ∀ j v, cs[j]? = some v → w.cell? (a.add j) = some v) (hc : ∀ j, j < cs.length → (w.cell? ⟨b, o + j, none⟩).isSome = true) (hf : ∀ j, j < cs.length → w.frozen? ⟨b, o + j, none⟩ = false) (h1 : ∀ v ∈ cs, v.oneCell' = true) :
    (Builtin.copy_ #[dT, sT] ty #[.slice (some ⟨b, o, none⟩) dLen dCap, .slice (some a) sLen sCap]).run P w = .ok (goInt (Nat.min sLen dLen)) (w.setCells b o cs) := by
  have hl := run_loadCells_list (P := P) w a cs hsrc
  have hst := run_storeCells_cells (P := P) b o cs 0 w (by simpa using hc) (by simpa using hf) h1
  cases hq : P.info? elem with
  | none => simp [hq] at hs
  | some i =>
    have hi : i.size = 2 := by simpa [hq] using hs
    simp [Builtin.copy_, run_underlying hu, Builtin.lenOf, Builtin.firstCells, sizeOf, typeInfo, hq, hi, ← hn, hl, hst]
theorem run_copy_zero {P : Program} (w : World) (dT sT ty elem : TypeId) (d a : Option Addr) (dLen dCap sLen sCap : Nat) (hu : P.underlying dT = some (.slice elem)) (hs : (P.info? elem).map (·.size) = some 2) (hn : Nat.min sLen dLen = 0) :
    (Builtin.copy_ #[dT, sT] ty #[.slice d dLen dCap, .slice a sLen sCap]).run P w = .ok (goInt 0) w := by
  cases hq : P.info? elem with
  | none => simp [hq] at hs
  | some i =>
    have hl : ∀ (x : Addr), (loadCells x 0).run P w = .ok #[] w := fun x => by simpa using run_loadCells_list (P := P) w x [] (by simp)
    cases d <;> cases a <;> simp [Builtin.copy_, run_underlying hu, Builtin.lenOf, Builtin.firstCells, sizeOf, typeInfo, hq, hn, storeCells, hl]
theorem PairRow.over {B g n cap : Nat} : ∀ (ys pre zs : List (Int × Int)) {w : World}, PairRow B w (.slice (some ⟨g, 0, none⟩) n cap) (pre ++ zs) → ys.length ≤ zs.length → PairRow B (w.setCells g (pre.length * 2) (pcells ys)) (.slice (some ⟨g, 0, none⟩) n cap) (pre ++ ys ++ zs.drop ys.length)
  | [], pre, zs, _, h, _ => by simpa [pcells, World.setCells] using h
  | (x, y) :: t, pre, zs, w, h, hl => by
    obtain ⟨z, zs', rfl⟩ : ∃ z zs', zs = z :: zs' := by
      cases zs with
      | nil => simp at hl
      | cons z zs' => exact ⟨z, zs', rfl⟩
    have h1 := h.set pre.length (by simp) x y
    have e : (pre ++ z :: zs').set pre.length (x, y) = (pre ++ [(x, y)]) ++ zs' := by simp
    rw [e] at h1
    have h2 := PairRow.over t (pre ++ [(x, y)]) zs' h1 (by simpa using hl)
    simp only [Nat.zero_add] at h2
    have e2 : (pre ++ [(x, y)]).length * 2 = pre.length * 2 + 1 + 1 := by simp; omega
    rw [e2] at h2
    have e3 : pre ++ (x, y) :: t ++ (z :: zs').drop ((x, y) :: t).length = pre ++ [(x, y)] ++ t ++ zs'.drop t.length := by simp
    rw [e3]
    have e4 : pcells ((x, y) :: t) = .int .i64 x :: .int .i64 y :: pcells t := by simp [pcells]
    rw [e4]
    exact h2
theorem setCellsL_size (b : Nat) : ∀ (vs : List Value) (o : Nat) (w : World), (w.setCells b o vs).heap.size = w.heap.size
  | [], _, _ => rfl
  | v :: r, o, w => by rw [World.setCells, setCellsL_size b r]; simp [World.setCell]
theorem setCellsL_block (b : Nat) {q : Nat} (hq : q ≠ b) : ∀ (vs : List Value) (o : Nat) (w : World), (w.setCells b o vs).heap[q]? = w.heap[q]?
  | [], _, _ => rfl
  | v :: r, o, w => by rw [World.setCells, setCellsL_block b hq r]; exact Below.heap_setCell _ _ _ _ hq
theorem setCells_belowL {B b : Nat} {w : World} : ∀ (vs : List Value) (o : Nat) {W : World}, Below B w W → B ≤ b → Below B w (W.setCells b o vs)
  | [], _, _, h, _ => h
  | v :: vs, o, _, h, hB => setCells_belowL vs (o + 1) (h.setCell (p := ⟨b, o, none⟩) hB v) hB
theorem copy_args {B : Nat} (W : World) (vt : Value) (args : List (Int × Int)) (hM : OpsAt W vt args) (g nt : Nat) (hrow : PairRow B W (.slice (some ⟨g, 0, none⟩) nt nt) (List.replicate nt (0, 0))) (hn : args.length ≤ nt) :
    ∃ W', (Builtin.copy_ #[27, 27] 3 #[.slice (some ⟨g, 0, none⟩) nt nt, vt]).run Tryz.prog W = .ok (goInt args.length) W' ∧ PairRow B W' (.slice (some ⟨g, 0, none⟩) nt nt) (args ++ List.replicate (nt - args.length) (0, 0)) ∧ W'.heap.size = W.heap.size ∧ (∀ q, q ≠ g → W'.heap[q]? = W.heap[q]?) ∧ ∀ {B' : Nat} {w : World}, Below B' w W → B' ≤ g → Below B' w W' := by
  obtain ⟨i0, hi, hz0, hz1, hz2⟩ := info_parts Tryz.infoVal
  have hs : (Tryz.prog.info? 37).map (·.size) = some 2 := by rw [hi]; simp [hz1]
  obtain ⟨a, cap, rfl, hlm, hc⟩ := hM
  by_cases h0 : args.length = 0
  · have e : args = [] := List.eq_nil_of_length_eq_zero h0
    subst e
    refine ⟨W, run_copy_zero W _ _ _ _ _ _ _ _ _ _ Tryz.underlying27 hs (by simp), by simpa using hrow, rfl, fun _ _ => rfl, fun h _ => h⟩
  obtain ⟨b, o, rfl, _⟩ := hc 0 (by omega)
  have hc2 : ∀ i, (hi : i < args.length) → W.cell? ⟨b, o + i * 2, none⟩ = some (.int .i64 args[i].1) ∧ W.cell? ⟨b, o + i * 2 + 1, none⟩ = some (.int .i64 args[i].2) := fun i hi => by
    obtain ⟨b', o', hbo, q0, q1⟩ := hc i hi
    obtain ⟨rfl, rfl⟩ : b = b' ∧ o = o' := by injection hbo with e; injection e with e1 e2; exact ⟨e1, e2⟩
    exact ⟨q0, q1⟩
  have hmin : Nat.min args.length nt = args.length := Nat.min_eq_left hn
  have hsp : ∀ j, j < nt * 2 → (W.cell? ⟨g, 0 + j, none⟩).isSome = true ∧ W.frozen? ⟨g, 0 + j, none⟩ = false := by
    rcases hrow with ⟨q, _⟩ | ⟨g', off', cap', hv, _, _, _, _, hsp, _⟩
    · cases q
    · injection hv with e1 e2 e3
      injection e1 with e1
      injection e1 with e1 e4 _
      subst e1 e3 e4
      exact hsp
  have hr := run_copy_two (P := Tryz.prog) W 27 27 3 37 g 0 nt nt ⟨b, o, none⟩ args.length cap (pcells args) Tryz.underlying27 hs (by rw [pcells_length, hmin]) (fun j v hv => by
      have hj : j < (pcells args).length := (List.getElem?_eq_some_iff.1 hv).1
      rw [pcells_length] at hj
      rw [Addr.add_lit]
      have hj2 : j / 2 < args.length := by omega
      have hj3 : j / 2 * 2 ≤ j ∧ j < j / 2 * 2 + 2 := by omega
      have hp := pcells_at args (j / 2) hj2
      have hq := hc2 (j / 2) hj2
      generalize j / 2 = i at *
      by_cases e : j = i * 2
      · subst e
        rw [hp.1] at hv
        rw [← hv]
        exact hq.1
      · obtain rfl : j = i * 2 + 1 := by omega
        rw [hp.2] at hv
        rw [← hv]
        exact hq.2)
    (fun j hj => (hsp j (by rw [pcells_length] at hj; omega)).1) (fun j hj => (hsp j (by rw [pcells_length] at hj; omega)).2) (pcells_one args)
  rw [hmin] at hr
  refine ⟨_, hr, ?_, setCellsL_size _ _ _ _, fun q hq => setCellsL_block g hq _ _ _, fun hb hB => setCells_belowL _ _ hb hB⟩
  have := PairRow.over args [] (List.replicate nt (0, 0)) hrow (by simpa using hn)
  simpa using this
end Go.Proofs.YtoaalcijdcmboacGreatDoor

/-
  The program's heap at work: operations are done, part eleven: a method is called.
-/
namespace Go.Proofs.YtoaalcijdcmboacGreatDoor
open Go.RowKit
variable {B : Nat} {w w' : World} {bl br : Nat} {vp vcs vsd : Value} {C D : Nat → Nat} {T : Nat → Value × Value} {h h' : Hp}
set_option maxRecDepth 100000 in
set_option maxHeartbeats 4000000 in
theorem doCall_any (k : LV B w bl br vp vcs vsd C D T h) (hB : B ≤ w.heap.size) {ms : Ms} (hM : MethsAt w vp ms) (a : Nat) (ha : a < ms.length) {vt : Value} {args : List (Int × Int)} (t : Tk (LOwn bl br vcs vsd C D T h.calls.length) w vt args)
    (hal : (args.length : Int) = ms[a].1) (hat : ms[a].1 ≤ ms[a].2.1 ∧ ms[a].2.1 ≤ 4) (hnow : h.now < (h.calls.length : Int)) (hsd : ∀ i, (hi : i < h.calls.length) → h.calls[i].sender < (h.calls.length : Int)) (hl : h.calls.length ≤ 1000) (hbn : 0 ≤ h.born ∧ h.born ≤ 30) :
    Calls Tryz.prog 115 #[.pointer (some ⟨br, 0, none⟩), .int .i64 a, vt] w fun e w' => e = .returned (.tuple #[]) ∧ LEnd B bl br vp (LOwn bl br vcs vsd C D T h.calls.length) w (callH ms h a args) w' := by
  obtain ⟨⟨y0, y1, y2, y3, y4⟩, yf0, yf1, yf2, yf3, yf4⟩ := five_cells k.rn
  have hbr := (k.lo .run trivial br rfl)
  by_cases hb : h.born = 30
  · have HE : Hid (LEnd B bl br vp (LOwn bl br vcs vsd C D T h.calls.length) w (callH ms h a args) (w.setCell ⟨br, 4, none⟩ (.int .i64 3))) := by
      show LEnd _ _ _ _ _ _ _ _
      unfold callH
      rw [if_pos (by omega)]
      exact ⟨_, _, _, _, _, k.num (h' := codeH h 3) (i := 4) (x := 3) rfl rfl rfl (five_set4 k.rn (.int .i64 3)), LGo.set (p := ⟨br, 4, none⟩) ⟨.run, trivial, rfl⟩ hbr.1 _⟩
    rw [hb] at y2
    clear k t hM hsd
    go_enter Tryz.func115, Tryz.ntmps115
    go_wp2
    exact bodyPost_ret (results_none rfl _ _ _) rfl ⟨rfl, HE.out⟩
  have hb' : (h.born == 30) = false := beq_eq_false_iff_ne.2 hb
  obtain ⟨ap, cp, hvp, hlp, hms⟩ := id hM
  obtain ⟨pb, po, vo, hap, p0, p1, p2, p3⟩ := hms a ha
  subst hvp hap
  clear hms p3
  obtain ⟨nt, hnt⟩ := Int.eq_ofNat_of_zero_le (show 0 ≤ ms[a].2.1 by omega)
  rw [hnt] at p1
  have haz : (a : Int) < (ms.length : Int) := by omega
  obtain ⟨i0, hi, hz0, hz1, hz2⟩ := info_parts Tryz.infoVal
  have hnt4 : nt ≤ 4 := by omega
  have hmk : ∀ w : World, (Instr.makeSlice 27 (.int .i64 (nt : Int)) (.int .i64 (nt : Int))).run Tryz.prog w = .ok (.slice (some ⟨w.heap.size, 0, none⟩) nt nt) (w.alloc (.cells (madeCells #[.int .i64 0, .int .i64 0] (nt * 2)) 37)) := by
    intro w
    have := run_make (P := Tryz.prog) w 27 37 i0 _ Tryz.underlying27 hi hz0 .i64 .i64 nt nt (by omega) (Int.le_refl _) (by rw [hz2]; omega) (by omega)
    simpa [hz1, Value.cells] using this
  clear hi hz0 hz1 hz2
  have hA : Below w.heap.size w (w.alloc (.cells (madeCells #[.int .i64 0, .int .i64 0] (nt * 2)) 37)) := (Below.refl _ _).alloc (Nat.le_refl _) _
  have mk := made_pairs (B := w.heap.size) w nt 37 (Nat.le_refl _) (by omega)
  have hzA : (w.alloc (.cells (madeCells #[.int .i64 0, .int .i64 0] (nt * 2)) 37)).heap.size = w.heap.size + 1 := by simp
  obtain ⟨W3, hcp, hr3, hz3, _, hb3⟩ := copy_args _ vt args (t.at_.below hA) w.heap.size nt mk (by omega)
  have B3 : Below w.heap.size w W3 := hb3 hA (Nat.le_refl _)
  rw [hzA] at hz3
  clear hb3 hA mk
  have k3 := k.below B3
  obtain ⟨⟨u0, u1, u2, u3, u4⟩, _⟩ := five_cells k3.rn
  -- the box of the body
  have N4 : Below W3.heap.size W3 (W3.alloc (.cells #[.int .i64 a, .int .i64 0, .slice (some ⟨w.heap.size, 0, none⟩) nt nt, .slice none 0 0, .bool false] 133)) := (Below.refl _ _).alloc (Nat.le_refl _) _
  have r4 := five_new W3 133 (.int .i64 a) (.int .i64 0) (.slice (some ⟨w.heap.size, 0, none⟩) nt nt) (.slice none 0 0) (.bool false)
  have B4 : Below w.heap.size w (W3.alloc (.cells #[.int .i64 a, .int .i64 0, .slice (some ⟨w.heap.size, 0, none⟩) nt nt, .slice none 0 0, .bool false] 133)) := B3.trans (N4.mono (by omega))
  have HE4 := enter_any (cl := ⟨(a : Int), 0, args ++ List.replicate (nt - args.length) (0, 0), [], h.now, false⟩) k B4 hB (d := W3.heap.size) (by omega) (vt := .slice (some ⟨w.heap.size, 0, none⟩) nt nt) rfl rfl hnow hsd r4 ((hr3.below N4).mono hB) (fun q e => by have e' : some w.heap.size = some q := e; injection e' with e'; omega) hl
  have hmt := Tryz.go_enter bl
  have HFIN : Hid (∀ (w5 : World) (vcs' : Value) (C' D' : Nat → Nat) (T' : Nat → Value × Value), LV B w5 bl br (.slice (some ⟨pb, po, none⟩) ms.length cp) vcs' vsd C' D' T' { h with calls := h.calls ++ [⟨(a : Int), 0, args ++ List.replicate (nt - args.length) (0, 0), [], h.now, false⟩], now := (h.calls.length : Int) } → LGo B (LOwn bl br vcs vsd C D T h.calls.length) (LOwn bl br vcs' vsd C' D' T' (h.calls.length + 1)) w w5 → LEnd B bl br (.slice (some ⟨pb, po, none⟩) ms.length cp) (LOwn bl br vcs vsd C D T h.calls.length) w (callH ms h a args) (w5.setCell ⟨br, 2, none⟩ (.int .i64 (h.born + 1)))) := by
    intro w5 vcs' C' D' T' k5 g5
    have e : callH ms h a args = { h with calls := h.calls ++ [⟨(a : Int), 0, args ++ List.replicate (nt - args.length) (0, 0), [], h.now, false⟩], now := (h.calls.length : Int), born := h.born + 1 } := by
      unfold callH
      rw [if_neg (by omega), Int.toNat_natCast, getD_at ha, hnt, Int.toNat_natCast]
    rw [e]
    refine ⟨vcs', vsd, C', D', T', k5.num (i := 2) (x := h.born + 1) rfl rfl rfl (five_set2 k5.rn (.int .i64 (h.born + 1))), g5.trans ?_⟩
    have hl5 : (h.calls ++ [(⟨(a : Int), 0, args ++ List.replicate (nt - args.length) (0, 0), [], h.now, false⟩ : Cl)]).length = h.calls.length + 1 := by simp
    simp only [hl5]
    exact LGo.set (p := ⟨br, 2, none⟩) ⟨.run, trivial, rfl⟩ hbr.1 _
  have hwb : IntKind.i64.wrap (h.born + 1) = h.born + 1 := by rw [IntKind.wrap_i64]; omega
  obtain ⟨ta, tc, htv, _⟩ := id t.at_
  subst htv
  have hz3' : br < W3.heap.size := by omega
  clear k t hM k3 hsd r4 hr3 N4 B4 p0 p2 hnt hat hal hz3 hzA
  go_enter Tryz.func115, Tryz.ntmps115
  go_wp2_with (go_at_call 153; refine HE4.mono ?_; rintro e w5 ⟨rfl, vcs', C', D', T', k5, g5⟩; obtain ⟨⟨x0, x1, x2, x3, x4⟩, xf0, xf1, xf2, xf3, xf4⟩ := five_cells k5.rn)
  exact bodyPost_end (results_none rfl _ _ _) rfl ⟨rfl, HFIN.out _ _ _ _ _ k5 g5⟩
end Go.Proofs.YtoaalcijdcmboacGreatDoor
