/-
  The model's ProgRead, walked: the region of a method's line.
-/
import Derived.Test.YtlbkgnmalhidmaaDoorSRead5R
namespace Go.Proofs.YtlbkgnmalhidmaaDoor
open Go.RowKit

set_option maxRecDepth 1000000 in
set_option maxHeartbeats 40000000 in
theorem region11 (w w2 wr : World) (T : ByteArray) (lines ws : List ByteArray) (gL cL gw cw cp k : Nat) (ap : Option Addr) (ms : List MM) (S1 S2 : ByteArray) (HSP2 : Hid (SP w w2 T lines (.slice (some ⟨gL, 0, none⟩) lines.length cL) (.slice ap ms.length cp) ms k)) (HRW : Hid (StrRow wr.heap.size w2 (.slice (some ⟨gw, 0, none⟩) ws.length cw) ws))
    (p2 : w2.cell? ⟨w.heap.size + 1, 0, none⟩ = some (.slice ap ms.length cp)) (s2 : w.heap.size ≤ w2.heap.size) (h1 : (1 : Int) < (ws.length : Int)) (h2 : (2 : Int) < (ws.length : Int)) (e1 : w2.cell? ⟨gw, 1, none⟩ = some (.string S1)) (e2 : w2.cell? ⟨gw, 2, none⟩ = some (.string S2)) (z1 : S1.size ≤ 2000000) (z2 : S2.size ≤ 2000000) (hms : ms.length ≤ 800)
    (c0 c1 c2 c3 c5 c6 c8 c9 c10 c11 c12 c13 c14 c15 c16 c17 c18 c19 c20 c21 c22 c23 c24 c25 c26 c27 c28 c29 c30 c31 c32 c33 c34 c35 c36 c37 c38 c39 c40 c41 c42 c43 c44 c45 c46 c47 c48 c49 c50 c51 c52 c53 c54 c55 c56 c57 c58 c59 c60 c61 c62 c63 c64 c65 c66 c67 c68 c69 c70 c71 c72 c73 c74 c75 c76 c77 c78 c79 c80 c81 c82 c83 c84 c85 : Value) (Q : Exit → Act → World → Prop)
    (h : ∀ (g5 cp5 : Nat) (w5 : World) (u41 u42 u43 u44 u45 u46 u47 u48 u49 u50 u51 u52 u53 u54 u55 : Value), MRow w.heap.size w5 (.slice (some ⟨g5, 0, none⟩) (ms.length + 1) cp5) (ms.map MM.tri ++ [(numS 0 S1.toList, numS 0 S2.toList, .slice (some ⟨w2.heap.size, 0, none⟩) 0 0)]) → ((w2.alloc (.cells #[] 47)).alloc (.cells #[.int .i64 (numS 0 S1.toList), .int .i64 (numS 0 S2.toList), .slice (some ⟨w2.heap.size, 0, none⟩) 0 0] 45)).drew.grownBy w5 (Value.slice ap ms.length cp).ownBlock → w5.rowIs (w.heap.size + 1) 26 1 (fun _ => .slice ap ms.length cp) → w5.rowIs w.heap.size 26 1 (fun _ => .slice none 0 0) → StrRow w.heap.size w5 (.slice (some ⟨gL, 0, none⟩) lines.length cL) lines →
      Q .normal ⟨(c0 :: c1 :: c2 :: c3 :: .pointer (some ⟨w.heap.size + 1, 0, none⟩) :: c5 :: c6 :: .slice (some ⟨gw, 0, none⟩) ws.length cw :: c8 :: c9 :: c10 :: c11 :: c12 :: c13 :: c14 :: c15 :: c16 :: c17 :: c18 :: c19 :: c20 :: c21 :: c22 :: c23 :: c24 :: c25 :: c26 :: c27 :: c28 :: c29 :: c30 :: c31 :: c32 :: c33 :: c34 :: c35 :: c36 :: c37 :: c38 :: c39 :: c40 :: u41 :: u42 :: u43 :: u44 :: u45 :: u46 :: u47 :: u48 :: u49 :: u50 :: u51 :: u52 :: u53 :: u54 :: u55 :: c56 :: c57 :: c58 :: c59 :: c60 :: c61 :: c62 :: c63 :: c64 :: c65 :: c66 :: c67 :: c68 :: c69 :: c70 :: c71 :: c72 :: c73 :: c74 :: c75 :: c76 :: c77 :: c78 :: c79 :: c80 :: c81 :: c82 :: c83 :: c84 :: c85 :: []).toArray, []⟩ (w5.setCell ⟨w.heap.size + 1, 0, none⟩ (.slice (some ⟨g5, 0, none⟩) (ms.length + 1) cp5))) :
    Code.wp Tryd.prog reg11 Q ⟨(c0 :: c1 :: c2 :: c3 :: .pointer (some ⟨w.heap.size + 1, 0, none⟩) :: c5 :: c6 :: .slice (some ⟨gw, 0, none⟩) ws.length cw :: c8 :: c9 :: c10 :: c11 :: c12 :: c13 :: c14 :: c15 :: c16 :: c17 :: c18 :: c19 :: c20 :: c21 :: c22 :: c23 :: c24 :: c25 :: c26 :: c27 :: c28 :: c29 :: c30 :: c31 :: c32 :: c33 :: c34 :: c35 :: c36 :: c37 :: c38 :: c39 :: c40 :: c41 :: c42 :: c43 :: c44 :: c45 :: c46 :: c47 :: c48 :: c49 :: c50 :: c51 :: c52 :: c53 :: c54 :: c55 :: c56 :: c57 :: c58 :: c59 :: c60 :: c61 :: c62 :: c63 :: c64 :: c65 :: c66 :: c67 :: c68 :: c69 :: c70 :: c71 :: c72 :: c73 :: c74 :: c75 :: c76 :: c77 :: c78 :: c79 :: c80 :: c81 :: c82 :: c83 :: c84 :: c85 :: []).toArray, []⟩ w2 := by
  refine wp_then_any ?_
  have H : Hid _ := h
  clear h
  generalize Q .normal = K at H ⊢
  have hw2A : ∀ o, Below w2.heap.size w2 (w2.alloc o) := fun o => (Below.refl _ _).alloc (Nat.le_refl _) o
  have HPd : Hid (PRow w.heap.size (w2.alloc (.cells #[] 47)) (.slice ap ms.length cp) ms) := HSP2.out.row.below (hw2A _)
  have HMR : Hid (MRow w.heap.size ((w2.alloc (.cells #[] 47)).alloc (.cells #[.int .i64 (numS 0 S1.toList), .int .i64 (numS 0 S2.toList), .slice (some ⟨w2.heap.size, 0, none⟩) 0 0] 45)).drew (.slice ap ms.length cp) (ms.map MM.tri)) := World.ownsRow.alloc HPd.out.row _
  have HIS : Hid (∀ m ∈ [((numS 0 S1.toList, numS 0 S2.toList, .slice (some ⟨w2.heap.size, 0, none⟩) 0 0) : Int × Int × Value)], IsSlice m.2.2) := fun m hm => by simp at hm; subst hm; exact ⟨_, _, _, rfl⟩
  have HNW : Hid (∀ j u, (flat3 [((numS 0 S1.toList, numS 0 S2.toList, .slice (some ⟨w2.heap.size, 0, none⟩) 0 0) : Int × Int × Value)])[j]? = some u → ((w2.alloc (.cells #[] 47)).alloc (.cells #[.int .i64 (numS 0 S1.toList), .int .i64 (numS 0 S2.toList), .slice (some ⟨w2.heap.size, 0, none⟩) 0 0] 45)).drew.cell? ((⟨w2.heap.size + 1, 0, none⟩ : Addr).add j) = some u) := by
    have hbk := Go.Deep.blk_alloc_new (w2.alloc (.cells #[] 47)) (.cells #[.int .i64 (numS 0 S1.toList), .int .i64 (numS 0 S2.toList), .slice (some ⟨w2.heap.size, 0, none⟩) 0 0] 45)
    have hbk' : ((w2.alloc (.cells #[] 47)).alloc (.cells #[.int .i64 (numS 0 S1.toList), .int .i64 (numS 0 S2.toList), .slice (some ⟨w2.heap.size, 0, none⟩) 0 0] 45)).drew.heap[w2.heap.size + 1]? = some (.cells #[.int .i64 (numS 0 S1.toList), .int .i64 (numS 0 S2.toList), .slice (some ⟨w2.heap.size, 0, none⟩) 0 0] 45) := by
      have e : (w2.alloc (.cells #[] 47)).heap.size = w2.heap.size + 1 := by simp
      rw [← e]
      exact hbk
    exact World.news_of_block hbk'
  have HLe : Hid ((ms.map MM.tri).length + [((numS 0 S1.toList, numS 0 S2.toList, .slice (some ⟨w2.heap.size, 0, none⟩) 0 0) : Int × Int × Value)].length ≤ 1000) := by show _ ≤ _; simp; omega
  have HBn : Hid (w.heap.size ≤ ((w2.alloc (.cells #[] 47)).alloc (.cells #[.int .i64 (numS 0 S1.toList), .int .i64 (numS 0 S2.toList), .slice (some ⟨w2.heap.size, 0, none⟩) 0 0] 45)).drew.heap.size) := by show _ ≤ _; simp; omega
  have HAF : Hid (∀ w5, ((w2.alloc (.cells #[] 47)).alloc (.cells #[.int .i64 (numS 0 S1.toList), .int .i64 (numS 0 S2.toList), .slice (some ⟨w2.heap.size, 0, none⟩) 0 0] 45)).drew.grownBy w5 (Value.slice ap ms.length cp).ownBlock → w5.rowIs (w.heap.size + 1) 26 1 (fun _ => .slice ap ms.length cp) ∧ w5.rowIs w.heap.size 26 1 (fun _ => .slice none 0 0) ∧ StrRow w.heap.size w5 (.slice (some ⟨gL, 0, none⟩) lines.length cL) lines ∧ StrRow wr.heap.size w5 (.slice (some ⟨gw, 0, none⟩) ws.length cw) ws) := fun w5 hg5 => by
    have hgx : ((w2.alloc (.cells #[] 47)).alloc (.cells #[.int .i64 (numS 0 S1.toList), .int .i64 (numS 0 S2.toList), .slice (some ⟨w2.heap.size, 0, none⟩) 0 0] 45)).grownBy w5 (Value.slice ap ms.length cp).ownBlock := ⟨hg5.os, hg5.tape, hg5.output, hg5.size, hg5.block⟩
    have hBB := ((hw2A (.cells #[] 47)).alloc (by simp) (.cells #[.int .i64 (numS 0 S1.toList), .int .i64 (numS 0 S2.toList), .slice (some ⟨w2.heap.size, 0, none⟩) 0 0] 45))
    refine ⟨row_kept (row_below hBB HSP2.out.box) hgx (fun e => row_ne_meths HSP2.out.box HSP2.out.row.row (by decide) e.symm), row_kept (row_below hBB HSP2.out.res) hgx (fun e => row_ne_meths HSP2.out.res HSP2.out.row.row (by decide) e.symm), (HSP2.out.lin.below hBB).kept hgx (fun g e e' => str_ne_meths HSP2.out.lin HSP2.out.row.row g e' e), (HRW.out.below hBB).kept hgx (fun g e e' => str_ne_meths HRW.out HSP2.out.row.row g e' e)⟩
  have k0' := fun o => cell_below (hw2A o) p2
  have k1' := fun o => cell_below (hw2A o) e1
  have k2' := fun o => cell_below (hw2A o) e2
  have k0'' := fun o o' => cell_below ((hw2A o).alloc (by simp) o') p2
  have k1'' := fun o o' => cell_below ((hw2A o).alloc (by simp) o') e1
  have k2'' := fun o o' => cell_below ((hw2A o).alloc (by simp) o') e2
  conv => arg 2; whnf
  go_region_law (first
    | (refine step_meths _ (by rfl) _ _ (by rfl) w.heap.size _ (ms.map MM.tri) (by rfl) HMR.out [(numS 0 S1.toList, numS 0 S2.toList, .slice (some ⟨w2.heap.size, 0, none⟩) 0 0)] HIS.out ⟨w2.heap.size + 1, 0, none⟩ _ (by rfl) HNW.out Nat.zero_lt_one HLe.out HBn.out ?_; intro g5 cp5 w5 hrow5 hg5 _ _; obtain ⟨hR0, hR1, hR2, _⟩ := HAF.out w5 hg5; have t0 := hR0.cell (i := 0) (by decide); have tf := hR0.frozen 0)
    | (go_simp; go_at_call 20; refine (l1Num_any _ (by assumption) _).mono ?_; rintro e w' ⟨rfl, hw⟩; obtain rfl := hw.symm))
  all_goals exact H.out _ _ _ _ _ _ _ _ _ _ _ _ _ _ _ _ _ _ (by simpa using hrow5) hg5 hR0 hR1 hR2

end Go.Proofs.YtlbkgnmalhidmaaDoor
