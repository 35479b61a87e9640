/-
  What is seen of a heap, by the program: HeapView.
-/
import Derived.Test.YtldiccheboipeaaVView
namespace Go.Proofs.Ytldiccheboipeaa
open Go.RowKit

theorem OwnCalls.mono {B B' : Nat} {w : World} {v : Value} {cs : List Cl} {V : Nat → Value × Value} (h : OwnCalls B w v cs V) (hB : B' ≤ B) : OwnCalls B' w v cs V := by
  refine ⟨?_, fun i hi => ⟨(h.lists i hi).1.mono hB, (h.lists i hi).2.mono hB⟩, h.apart⟩
  rcases h.row with h0 | ⟨g, off, cap, hv, hg, r⟩
  · exact .inl h0
  · exact .inr ⟨g, off, cap, hv, by omega, r⟩

set_option maxRecDepth 100000 in
set_option maxHeartbeats 4000000 in
theorem implHeapView_any (vc vs : Value) (h : Hp) (w : World) (hh : HeapAt w vc vs h) (hsh : h.short) (hn : h.calls.length ≤ 30) :
    Calls Try.prog 15 #[.agg (hpCells vc vs h)] w fun e w' => (∃ v V, e = .returned v ∧ OwnCalls w.heap.size w' v (viewL h) V) ∧ Below w.heap.size w w' := by
  have HH : Hid (HeapAt w vc vs h) := hh
  have hA : Below w.heap.size w (w.alloc (.cells (hpCells vc vs h) 39)) := (Below.refl _ _).alloc (Nat.le_refl _) _
  have bx : (w.alloc (.cells (hpCells vc vs h) 39)).rowIs w.heap.size 39 5 (five vc (.int .i64 h.now) (.int .i64 h.born) vs (.int .i64 h.code)) := five_new w 39 vc (.int .i64 h.now) (.int .i64 h.born) vs (.int .i64 h.code)
  unfold hpCells at *
  obtain ⟨ac, kc, hvc⟩ := hh.c.shape
  obtain ⟨aD, kD, hvs⟩ := hh.s.shape
  subst hvc hvs
  clear hh
  go_enter Try.func15, Try.ntmps15
  go_upto_region 1 with fail
  generalize w.alloc (.cells #[.slice ac h.calls.length kc, .int .i64 h.now, .int .i64 h.born, .slice aD h.said.length kD, .int .i64 h.code] 39) = W1 at *
  have zA := hA.size
  obtain ⟨⟨x0, x1, x2, x3, x4⟩, xf⟩ := five_cells bx
  clear xf
  have HO := orderOf_any _ _ h W1 (HH.out.below hA) hn
  unfold hpCells at HO
  go_wp2_with fail
  refine HO.mono ?_
  rintro e w2 ⟨⟨vp, vn, rfl, hV, hps⟩, hb2⟩
  obtain ⟨ap, kp, hvp, _⟩ := hV.p.slice
  obtain ⟨an, kn, hvn, _⟩ := hV.n.slice
  rw [nums_len] at hvp
  rw [tabN_len] at hvn
  subst hvp hvn
  have N2 := (Below.refl w2.heap.size w2).alloc (Nat.le_refl _) (.cells #[.slice ap (found h).length kp, .slice an h.calls.length kn] 99)
  have HOrd : Hid (Ord (fun _ => False) W1.heap.size w2.heap.size h.calls.length (found h) (.slice ap (found h).length kp) (.slice an h.calls.length kn) (w2.alloc (.cells #[.slice ap (found h).length kp, .slice an h.calls.length kn] 99))) :=
    ⟨hb2.size, two_new _ _ _ _, hV.p.below N2, hV.n.below N2, fun e => by have := (hV.p.lt _ e).2; omega, fun e => by have := (hV.n.lt _ e).2; omega, hV.pn, fun g e => e.elim⟩
  have B3 : Below W1.heap.size W1 (w2.alloc (.cells #[.slice ap (found h).length kp, .slice an h.calls.length kn] 99)) := hb2.trans (N2.mono hb2.size)
  have HPs : Hid (PsOk h.calls.length (found h)) := hps
  have bx3 := row_below B3 bx
  clear x0 x1 x2 x3 x4 HO hV hps hb2 N2
  obtain ⟨⟨x0, x1, x2, x3, x4⟩, xf⟩ := five_cells bx3
  clear xf bx3 bx
  generalize hF : found h = F at *
  have HF : Hid (found h = F) := hF
  clear hF
  go_upto_region 2 with fail
  generalize w2.alloc (.cells #[.slice ap F.length kp, .slice an h.calls.length kn] 99) = w3 at *
  generalize w2.heap.size = bo at *
  have HVw := view_any W1.heap.size bo F _ _ _ _ h w3 (HH.out.below (hA.trans (B3.mono zA))) hsh hn HOrd.out HPs.out
  unfold hpCells at HVw
  go_wp2_with fail
  refine HVw.mono ?_
  rintro e w4 ⟨⟨v, V, rfl, hv⟩, hb4⟩
  have hz := (hA.trans (B3.mono zA)).size
  go_wp2
  go_ret
  refine ⟨⟨v, V, rfl, ?_⟩, (hA.trans (B3.mono zA)).trans (hb4.mono hz)⟩
  have : viewL h = F.map fun p => viewC F (h.calls.getD p Cl.none) := by rw [← HF.out]; rfl
  rw [this]
  exact hv.mono hz

end Go.Proofs.Ytldiccheboipeaa
