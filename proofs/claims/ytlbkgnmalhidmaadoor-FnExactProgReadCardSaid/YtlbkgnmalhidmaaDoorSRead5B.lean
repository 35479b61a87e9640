/-
  The model's ProgRead, walked: the region of an operation's line.
-/
import Derived.Test.YtlbkgnmalhidmaaDoorSRead5R
namespace Go.Proofs.YtlbkgnmalhidmaaDoor
open Go.RowKit

set_option maxRecDepth 1000000 in
set_option maxHeartbeats 40000000 in
theorem region13 (w w2 : World) (lines ws : List ByteArray) (gL cL gw cw cp n : Nat) (gm : Nat) (ao : Option Addr) (co : Nat) (ms : List MM) (L : List (Int × Int)) (hw1 : 1 ≤ ws.length) (hw2 : ws.length ≤ 2000000) (HWs : Hid (∀ s ∈ ws, s.size ≤ 2000000))
    (p2 : w2.cell? ⟨w.heap.size + 1, 0, none⟩ = some (.slice (some ⟨gm, 0, none⟩) ms.length cp)) (hnz : (n : Int) < (ms.length : Int)) (hwn : IntKind.i64.wrap ((ms.length : Int) - 1) = (n : Int)) (HAtd : Hid (StrsAt w2.drew gw ws)) (hcell : w2.cell? ⟨gm, n * 3 + 2, none⟩ = some (.slice ao L.length co))
    (HC3 : Hid (∀ w3 : World, Below w2.drew.heap.size w2.drew w3 → (w3.cell? ⟨w.heap.size + 1, 0, none⟩ = some (.slice (some ⟨gm, 0, none⟩) ms.length cp) ∧ w3.cell? ⟨gm, n * 3 + 2, none⟩ = some (.slice ao L.length co)) ∧ ∀ o, ((w3.alloc o).cell? ⟨w.heap.size + 1, 0, none⟩ = some (.slice (some ⟨gm, 0, none⟩) ms.length cp) ∧ (w3.alloc o).cell? ⟨gm, n * 3 + 2, none⟩ = some (.slice ao L.length co))))
    (HOR : Hid (∀ (w3 : World) o, Below w2.drew.heap.size w2.drew w3 → OpsRow w.heap.size (w3.alloc o) (.slice ao L.length co) L))
    (HNW : Hid (∀ (w3 : World) (q : Nat) (a : Int), ∀ j u, (flat [((q : Int), a)])[j]? = some u → (w3.alloc (.cells #[.int .i64 q, .int .i64 a] 47)).cell? ((⟨w3.heap.size, 0, none⟩ : Addr).add j) = some u))
    (HLn : Hid (∀ (q : Nat) (a : Int), L.length + [((q : Int), a)].length ≤ 1000)) (HBn : Hid (∀ (w3 : World) o, Below w2.drew.heap.size w2.drew w3 → w.heap.size ≤ (w3.alloc o).heap.size))
    (HAF : Hid (∀ (w3 w5 : World) o, Below w2.drew.heap.size w2.drew w3 → (w3.alloc o).grownBy w5 (Value.slice ao L.length co).ownBlock → (w5.rowIs (w.heap.size + 1) 26 1 (fun _ => .slice (some ⟨gm, 0, none⟩) ms.length cp) ∧ w5.rowIs w.heap.size 26 1 (fun _ => .slice none 0 0)) ∧ StrRow w.heap.size w5 (.slice (some ⟨gL, 0, none⟩) lines.length cL) lines ∧ w5.cell? ⟨gm, n * 3 + 2, none⟩ = some (.slice ao L.length co) ∧ w5.frozen? ⟨gm, n * 3 + 2, none⟩ = false))
    (c0 c1 c2 c3 c5 c6 c9 c10 c11 c12 c13 c14 c15 c16 c17 c18 c19 c20 c21 c22 c23 c24 c25 c26 c27 c28 c29 c30 c31 c32 c33 c34 c35 c36 c37 c38 c39 c40 c41 c42 c43 c44 c45 c46 c47 c48 c49 c50 c51 c52 c53 c54 c55 c56 c57 c58 c59 c60 c61 c62 c63 c64 c65 c66 c67 c68 c69 c70 c71 c72 c73 c74 c75 c76 c77 c78 c79 c80 c81 c82 c83 c84 c85 : Value) (Q : Exit → Act → World → Prop)
    (h : ∀ (q : Nat) (a : Int) (g5 cp5 : Nat) (w3 w5 : World) (u59 u60 u61 u62 u63 u64 u65 u66 u67 u68 u69 u70 u71 u72 u73 u74 u75 : Value), Below w2.drew.heap.size w2.drew w3 → (KindTo 19 (ws.getD 0 ByteArray.empty).toList q ∧ (ws.length = 1 → a = 0) ∧ (1 < ws.length → a = numS 0 (ws.getD 1 ByteArray.empty).toList)) → OpsRow w.heap.size w5 (.slice (some ⟨g5, 0, none⟩) (L.length + 1) cp5) (L ++ [((q : Int), a)]) → (w3.alloc (.cells #[.int .i64 q, .int .i64 a] 47)).grownBy w5 (Value.slice ao L.length co).ownBlock → ((Value.slice ao L.length co).ownBlock = some g5 ∨ (w3.alloc (.cells #[.int .i64 q, .int .i64 a] 47)).heap.size ≤ g5) →
      w5.rowIs (w.heap.size + 1) 26 1 (fun _ => .slice (some ⟨gm, 0, none⟩) ms.length cp) → w5.rowIs w.heap.size 26 1 (fun _ => .slice none 0 0) → StrRow w.heap.size w5 (.slice (some ⟨gL, 0, none⟩) lines.length cL) lines →
      Q .normal ⟨(c0 :: c1 :: c2 :: c3 :: .pointer (some ⟨w.heap.size + 1, 0, none⟩) :: c5 :: c6 :: .slice (some ⟨gw, 0, none⟩) ws.length cw :: .int .i64 (ms.length : Int) :: c9 :: c10 :: c11 :: c12 :: c13 :: c14 :: c15 :: c16 :: c17 :: c18 :: c19 :: c20 :: c21 :: c22 :: c23 :: c24 :: c25 :: c26 :: c27 :: c28 :: c29 :: c30 :: c31 :: c32 :: c33 :: c34 :: c35 :: c36 :: c37 :: c38 :: c39 :: c40 :: c41 :: c42 :: c43 :: c44 :: c45 :: c46 :: c47 :: c48 :: c49 :: c50 :: c51 :: c52 :: c53 :: c54 :: c55 :: c56 :: c57 :: c58 :: u59 :: u60 :: u61 :: u62 :: u63 :: u64 :: u65 :: u66 :: u67 :: u68 :: u69 :: u70 :: u71 :: u72 :: u73 :: u74 :: u75 :: c76 :: c77 :: c78 :: c79 :: c80 :: c81 :: c82 :: c83 :: c84 :: c85 :: []).toArray, []⟩ (w5.setCell ⟨gm, n * 3 + 2, none⟩ (.slice (some ⟨g5, 0, none⟩) (L.length + 1) cp5))) :
    Code.wp Tryd.prog reg13 Q ⟨(c0 :: c1 :: c2 :: c3 :: .pointer (some ⟨w.heap.size + 1, 0, none⟩) :: c5 :: c6 :: .slice (some ⟨gw, 0, none⟩) ws.length cw :: .int .i64 (ms.length : Int) :: c9 :: c10 :: c11 :: c12 :: c13 :: c14 :: c15 :: c16 :: c17 :: c18 :: c19 :: c20 :: c21 :: c22 :: c23 :: c24 :: c25 :: c26 :: c27 :: c28 :: c29 :: c30 :: c31 :: c32 :: c33 :: c34 :: c35 :: c36 :: c37 :: c38 :: c39 :: c40 :: c41 :: c42 :: c43 :: c44 :: c45 :: c46 :: c47 :: c48 :: c49 :: c50 :: c51 :: c52 :: c53 :: c54 :: c55 :: c56 :: c57 :: c58 :: c59 :: c60 :: c61 :: c62 :: c63 :: c64 :: c65 :: c66 :: c67 :: c68 :: c69 :: c70 :: c71 :: c72 :: c73 :: c74 :: c75 :: c76 :: c77 :: c78 :: c79 :: c80 :: c81 :: c82 :: c83 :: c84 :: c85 :: []).toArray, []⟩ w2 := by
  refine wp_then_any ?_
  have H : Hid _ := h
  clear h
  generalize Q .normal = K at H ⊢
  conv => arg 2; whnf
  go_region_law (first
    | (refine step_ops2 _ (by rfl) _ _ (by rfl) w.heap.size (.slice ao L.length co) L (by rfl) (HOR.out w3 _ H3.out) [((q : Int), a)] w3.heap.size _ (by rfl) (HNW.out w3 q a) Nat.zero_lt_one (HLn.out q a) (HBn.out w3 _ H3.out) ?_; intro g5 cp5 w5 hrow5 hg5 hat5 _; obtain ⟨⟨hR0, hR1⟩, hR2, s2, s3⟩ := HAF.out w3 w5 _ H3.out hg5; have t0 := hR0.cell (i := 0) (by decide); have tf := hR0.frozen 0)
    | (go_simp; go_at_call 21; refine (l1Hear_any gw cw ws hw1 hw2 HWs.out _ HAtd.out).mono ?_; rintro e w3 ⟨hb3, q, a, rfl, hK3⟩; have H3 : Hid (Below w2.drew.heap.size w2.drew w3) := hb3; have HK3 : Hid (KindTo 19 (ws.getD 0 ByteArray.empty).toList q ∧ (ws.length = 1 → a = 0) ∧ (1 < ws.length → a = numS 0 (ws.getD 1 ByteArray.empty).toList)) := hK3; clear hK3; obtain ⟨⟨u0, u1⟩, u2⟩ := HC3.out w3 hb3; clear hb3; have u3 := fun o => (u2 o).1; have u4 := fun o => (u2 o).2; clear u2))
  all_goals exact H.out q a _ _ w3 w5 _ _ _ _ _ _ _ _ _ _ _ _ _ _ _ _ _ H3.out HK3.out hrow5 hg5 hat5 hR0 hR1 hR2

end Go.Proofs.YtlbkgnmalhidmaaDoor
