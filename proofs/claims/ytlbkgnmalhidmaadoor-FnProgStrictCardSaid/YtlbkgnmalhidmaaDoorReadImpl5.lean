/-
  The program's withLine, the line of an operation: an operation more of the last method; it writes to rows of its own alone.
-/
import Derived.Test.YtlbkgnmalhidmaaDoorReadImpl4
namespace Go.Proofs.YtlbkgnmalhidmaaDoor
open Go.RowKit

theorem set_last {α : Type} {l : List α} {n : Nat} (h : l.length = n + 1) (x : α) : l = l.take n ++ [l[n]] ∧ l.set n x = l.take n ++ [x] := by
  constructor
  · have e : l.drop n = [l[n]] := by rw [List.drop_eq_getElem_cons (by omega), List.drop_of_length_le (by omega)]
    rw [← e, List.take_append_drop]
  · rw [List.set_eq_take_append_cons_drop, if_pos (by omega), List.drop_of_length_le (by omega)]

theorem op_plain {ms : List MM} {n : Nat} (hn : ms.length = n + 1) {L : List (Int × Int)} {k : Nat} {a : Int} {V : Value} {S : ByteArray} {nums : List Int} (hL : (ms[n]'(by omega)).2.2.2 = L) (hm : S.toList ≠ methW) (hy : 1 ≤ k ∧ k ≤ 18 ∧ wordOf k = S.toList ∧ nums.length ≤ 1 ∧ a = nums.headD 0) :
    withP (plainOf ms) S.toList nums (plainOf (ms.set n ((ms[n]'(by omega)).1, (ms[n]'(by omega)).2.1, V, L ++ [((k : Int), a)]))) := by
  obtain ⟨h1, h2, h3, h4, h5⟩ := hy
  have hpl : (plainOf ms).length = n + 1 := by simp [plainOf, hn]
  have e : (plainOf ms)[n]'(by omega) = ((ms[n]'(by omega)).1, (ms[n]'(by omega)).2.1, L) := by simp [plainOf, ← hL]
  refine .inr ⟨hm, k, (plainOf ms).take n, (plainOf ms)[n]'(by omega), h1, h2, h3, h4, (set_last hpl ((0, 0, []) : Int × Int × List (Int × Int))).1, ?_⟩
  rw [e, ← h5]
  unfold plainOf
  rw [List.map_set]
  exact (set_last (l := ms.map fun m => (m.1, m.2.1, m.2.2.2)) (by simpa using hn) _).2

theorem op_len {N : Nat} {ms : List MM} {n : Nat} {hn : n < ms.length} {L : List (Int × Int)} {q : Int × Int} {V : Value} {m : MM} (h : ∀ m ∈ ms, m.2.2.2.length ≤ N) (hl : L.length ≤ N) (_ : ms[n].2.2.2 = L) (hm : m ∈ ms.set n (ms[n].1, ms[n].2.1, V, L ++ [q])) : m.2.2.2.length ≤ N + 1 := by
  rcases List.mem_or_eq_of_mem_set hm with h' | rfl
  · have := h m h'; omega
  · simp; omega

set_option maxRecDepth 100000 in
set_option maxHeartbeats 2000000 in
theorem withLine_op (N B : Nat) (hN : N ≤ 900) (v : Value) (ms : List MM) (S : ByteArray) (vn : Value) (nums : List Int) (w : World) (ht : TabW w) (hB : B ≤ w.heap.size) (hp : PRow B w v ms) (hn : IntRow B w vn nums) (hl : ms.length ≤ N) (hol : ∀ m ∈ ms, m.2.2.2.length ≤ N) (hm0 : S.toList ≠ methW) :
    Calls Tryd.prog 34 #[.agg #[v], .string S, vn] w fun e w' => Below B w w' ∧ (∀ g f, w.rowIs g 26 1 f → w'.rowIs g 26 1 f) ∧ ∃ (u : Value) (b : Bool), e = .returned (.tuple #[.agg #[u], .bool b]) ∧
      (b = true → ∃ ms' : List MM, PRow B w' u ms' ∧ withP (plainOf ms) S.toList nums (plainOf ms') ∧ ms'.length ≤ N + 1 ∧ ∀ m ∈ ms', m.2.2.2.length ≤ N + 1) ∧ (b = false → u = .slice none 0 0 ∧ NoLine (plainOf ms) S.toList nums) := by
  obtain ⟨av, cv, hv, hlm⟩ := hn.slice
  subst hv
  obtain ⟨ap, cp, hvp⟩ := hp.shape
  subst hvp
  unfold maxLen at hlm
  have HT : Hid (TabW w) := ht
  have HN : Hid (IntRow B w (.slice av nums.length cv) nums) := hn
  have HP : Hid (PRow B w (.slice ap ms.length cp) ms) := hp
  have HOL : Hid (∀ m ∈ ms, m.2.2.2.length ≤ N) := hol
  clear ht hn hp hol
  have hA : Below w.heap.size w ((w.alloc (.cells #[.slice ap ms.length cp] 26)).alloc (.cells #[.slice none 0 0] 26)) := ((Below.refl _ _).alloc (Nat.le_refl _) _).alloc (by simp) _
  have q0 : ((w.alloc (.cells #[.slice ap ms.length cp] 26)).alloc (.cells #[.slice none 0 0] 26)).rowIs w.heap.size 26 1 (fun _ => .slice ap ms.length cp) := (pbox_new w (.slice ap ms.length cp)).alloc _
  have q1 : ((w.alloc (.cells #[.slice ap ms.length cp] 26)).alloc (.cells #[.slice none 0 0] 26)).rowIs (w.heap.size + 1) 26 1 (fun _ => .slice none 0 0) := by
    have := pbox_new (w.alloc (.cells #[.slice ap ms.length cp] 26)) (.slice none 0 0)
    simpa using this
  have HM : Hid (S.toList ≠ methW) := hm0
  have hm : (S.toList == [109, 101, 116, 104, 111, 100]) = false := by rw [beq_eq_false_iff_ne]; exact hm0
  clear hm0
  have HPA : Hid (PRow B ((w.alloc (.cells #[.slice ap ms.length cp] 26)).alloc (.cells #[.slice none 0 0] 26)) (.slice ap ms.length cp) ms) := HP.out.below hA
  have hBW : B ≤ ((w.alloc (.cells #[.slice ap ms.length cp] 26)).alloc (.cells #[.slice none 0 0] 26)).heap.size := by simp; omega
  go_enter Tryd.func34, Tryd.ntmps34
  go_wp2_with fail
  generalize (w.alloc (.cells #[.slice ap ms.length cp] 26)).alloc (.cells #[.slice none 0 0] 26) = W at *
  refine (opOfLine_any S _ nums B _ (HT.out.below hA) (HN.out.below hA)).mono ?_
  rintro e w1 ⟨hb1, k, a, b, rfl, hyes, hno⟩
  have HP1 : Hid (PRow B (w1.alloc (.cells #[.int .i64 k, .int .i64 a] 47)) (.slice ap ms.length cp) ms) := (HPA.out.below hb1).below ((Below.refl _ _).alloc (Nat.le_refl _) _)
  have hR0 : (w1.alloc (.cells #[.int .i64 k, .int .i64 a] 47)).rowIs w.heap.size 26 1 (fun _ => .slice ap ms.length cp) := (row_below hb1 q0).alloc _
  have hR1 : (w1.alloc (.cells #[.int .i64 k, .int .i64 a] 47)).rowIs (w.heap.size + 1) 26 1 (fun _ => .slice none 0 0) := (row_below hb1 q1).alloc _
  have c0 : (w1.alloc (.cells #[.int .i64 k, .int .i64 a] 47)).cell? ⟨w1.heap.size, 0, none⟩ = some (.int .i64 k) := by simp [go_sem]
  have c1 : (w1.alloc (.cells #[.int .i64 k, .int .i64 a] 47)).cell? ⟨w1.heap.size, 1, none⟩ = some (.int .i64 a) := by simp [go_sem]
  have hbW : Below B w (w1.alloc (.cells #[.int .i64 k, .int .i64 a] 47)) := ((hA.mono hB).trans (hb1.mono hBW)).alloc (by have := hb1.size; omega) _
  have hB2 : B ≤ (w1.alloc (.cells #[.int .i64 k, .int .i64 a] 47)).heap.size := by have := hb1.size; simp; omega
  have r0 := hR0.cell (i := 0) (by decide)
  have r1 := hR1.cell (i := 0) (by decide)
  have f1 := hR1.frozen 0
  have hlen1 : (ms.length : Int) ≤ 900 := by omega
  have hw1 : IntKind.i64.wrap ((ms.length : Int) - 1) = (ms.length : Int) - 1 := by rw [IntKind.wrap_i64]; omega
  have HRW : Hid (∀ g f, w.rowIs g 26 1 f → (w1.alloc (.cells #[.int .i64 k, .int .i64 a] 47)).rowIs g 26 1 f) := fun g f hr => (row_below hb1 (row_below hA hr)).alloc _
  clear q0 q1 hA hb1 HPA HT
  cases b
  · have HNo : Hid (NoWord S.toList ∨ 1 < nums.length) := hno rfl
    clear hyes hno
    have r7 := World.cell?_setCell_same _ ⟨w.heap.size + 1, 0, none⟩ (.slice none 0 0) r1
    have hb7 := hbW.setCell (p := ⟨w.heap.size + 1, 0, none⟩) (show B ≤ w.heap.size + 1 by omega) (.slice none 0 0)
    go_wp2
    refine bodyPost_ret (v := .tuple #[.agg #[.slice none 0 0], .bool false]) (by simp [results, Tryd.results34, go_sem, r7]) rfl ?_
    exact ⟨hb7, fun g f hr => row_kept (HRW.out g f hr) (grown_set _ _ _ _) (by have := hr.lt; simp; omega), _, false, rfl, (fun h => by cases h), fun _ => ⟨rfl, .inr ⟨HM.out, HNo.out.elim .inl (fun h => .inr (.inl h))⟩⟩⟩
  have HYes : Hid (1 ≤ k ∧ k ≤ 18 ∧ wordOf k = S.toList ∧ nums.length ≤ 1 ∧ a = nums.headD 0) := hyes rfl
  clear hyes hno
  by_cases hz : ms.length = 0
  · have hz' : (ms.length : Int) - 1 < 0 := by omega
    have HZ : Hid (ms = []) := List.length_eq_zero_iff.1 hz
    have r7 := World.cell?_setCell_same _ ⟨w.heap.size + 1, 0, none⟩ (.slice none 0 0) r1
    have hb7 := hbW.setCell (p := ⟨w.heap.size + 1, 0, none⟩) (show B ≤ w.heap.size + 1 by omega) (.slice none 0 0)
    clear hz
    go_wp2
    refine bodyPost_ret (v := .tuple #[.agg #[.slice none 0 0], .bool false]) (by simp [results, Tryd.results34, go_sem, r7]) rfl ?_
    exact ⟨hb7, fun g f hr => row_kept (HRW.out g f hr) (grown_set _ _ _ _) (by have := hr.lt; simp; omega), _, false, rfl, (fun h => by cases h), fun _ => ⟨rfl, .inr ⟨HM.out, .inr (.inr (by rw [HZ.out]; rfl))⟩⟩⟩
  obtain ⟨gm, cm, hvm⟩ := HP1.out.shape1 (by omega)
  cases hvm
  obtain ⟨n, hn⟩ : ∃ n, ms.length = n + 1 := ⟨ms.length - 1, by omega⟩
  have HNn : Hid (ms.length = n + 1) := hn
  have hnl : n < ms.length := by omega
  have hnz : (n : Int) < (ms.length : Int) := by omega
  have hnz0 : ¬ ((n : Int) < 0) := by omega
  have hw2 : IntKind.i64.wrap ((ms.length : Int) - 1) = (n : Int) := by rw [IntKind.wrap_i64]; omega
  clear hn hw1 hz
  have hcell0 := (MRow.cell HP1.out.row n (by simpa using hnl)).2.2
  have hcell : (w1.alloc (.cells #[.int .i64 k, .int .i64 a] 47)).cell? ⟨gm, n * 3 + 2, none⟩ = some ms[n].2.2.1 := by
    rw [PRow.ofMap hnl] at hcell0
    exact hcell0
  clear hcell0
  have hop := HP1.out.ops _ (List.getElem_mem hnl)
  obtain ⟨ao, co, hvo⟩ := hop.shape
  have HVO : Hid (ms[n].2.2.1 = .slice ao ms[n].2.2.2.length co) := hvo
  rw [hvo] at hcell hop
  clear hvo
  go_wp2_with fail
  have HZ1 : Hid (w1.heap.size < (w1.alloc (.cells #[.int .i64 k, .int .i64 a] 47)).heap.size) := by show _ < _; simp
  generalize w1.alloc (.cells #[.int .i64 k, .int .i64 a] 47) = w2 at *
  have hA2 : ∀ o, Below w2.heap.size w2 (w2.alloc o) := fun o => (Below.refl _ _).alloc (Nat.le_refl _) o
  have r0' := fun o => cell_below (hA2 o) r0
  have c0' := fun o => cell_below (hA2 o) c0
  have c1' := fun o => cell_below (hA2 o) c1
  have hcell' := fun o => cell_below (hA2 o) hcell
  have hol : ms[n].2.2.2.length ≤ N := HOL.out _ (List.getElem_mem hnl)
  have HOR : Hid (OpsRow B (w2.alloc (.cells #[.int .i64 k, .int .i64 a] 47)).drew (.slice ao ms[n].2.2.2.length co) ms[n].2.2.2) := World.ownsRow.alloc hop _
  have HNW : Hid (∀ j u, (flat [((k : Int), a)])[j]? = some u → (w2.alloc (.cells #[.int .i64 k, .int .i64 a] 47)).drew.cell? ((⟨w2.heap.size, 0, none⟩ : Addr).add j) = some u) := World.news_of_block (w := (w2.alloc (.cells #[.int .i64 k, .int .i64 a] 47)).drew) (Go.Deep.blk_alloc_new w2 _)
  have HLn : Hid (ms[n].2.2.2.length + [((k : Int), a)].length ≤ 1000) := by show _ ≤ _; simp; omega
  have HBn : Hid (B ≤ (w2.alloc (.cells #[.int .i64 k, .int .i64 a] 47)).drew.heap.size) := by show _ ≤ _; simp; omega
  have HPd : Hid (PRow B (w2.alloc (.cells #[.int .i64 k, .int .i64 a] 47)).drew (.slice (some ⟨gm, 0, none⟩) ms.length cp) ms) := HP1.out.below ((hA2 _).drew)
  have HOB : Hid (ms[n].2.2.1.ownBlock = (Value.slice ao ms[n].2.2.2.length co).ownBlock) := by show _ = _; rw [HVO.out]
  have HAF : Hid (∀ w5, (w2.alloc (.cells #[.int .i64 k, .int .i64 a] 47)).drew.grownBy w5 (Value.slice ao ms[n].2.2.2.length co).ownBlock → w5.rowIs w.heap.size 26 1 (fun _ => .slice (some ⟨gm, 0, none⟩) ms.length cp) ∧ w5.rowIs (w.heap.size + 1) 26 1 (fun _ => .slice none 0 0) ∧ w5.cell? ⟨gm, n * 3 + 2, none⟩ = some (.slice ao ms[n].2.2.2.length co) ∧ w5.frozen? ⟨gm, n * 3 + 2, none⟩ = false) := fun w5 hg5 => by
    have hgx : (w2.alloc (.cells #[.int .i64 k, .int .i64 a] 47)).grownBy w5 (Value.slice ao ms[n].2.2.2.length co).ownBlock := ⟨hg5.os, hg5.tape, hg5.output, hg5.size, hg5.block⟩
    have hm5 : MRow B w5 (.slice (some ⟨gm, 0, none⟩) ms.length cp) (ms.map MM.tri) := HPd.out.row.kept hg5 (fun g e hk => mrow_ne HPd.out.row HOR.out g hk e)
    have hc5 := (MRow.cell hm5 n (by simpa using hnl)).2.2
    rw [PRow.ofMap hnl] at hc5
    exact ⟨row_kept (hR0.alloc _) hgx (fun e => row_ne_ops hR0 hop (by decide) e.symm), row_kept (hR1.alloc _) hgx (fun e => row_ne_ops hR1 hop (by decide) e.symm), by rw [← HVO.out]; exact hc5, hm5.frozen _⟩
  have HX : Hid (ms[n].2.2.2.length ≤ N) := hol
  have HGM : Hid (w.heap.size ≠ gm ∧ w.heap.size + 1 ≠ gm) := ⟨fun e => row_ne_meths hR0 HP1.out.row (by decide) (by rw [e]; rfl), fun e => row_ne_meths hR1 HP1.out.row (by decide) (by rw [e]; rfl)⟩
  have HRG : Hid (∀ g f, w.rowIs g 26 1 f → g ≠ gm ∧ ∀ w5, (w2.alloc (.cells #[.int .i64 k, .int .i64 a] 47)).drew.grownBy w5 (Value.slice ao ms[n].2.2.2.length co).ownBlock → w5.rowIs g 26 1 f) := fun g f hr => ⟨fun e => row_ne_meths (HRW.out g f hr) HP1.out.row (by decide) (by rw [e]; rfl), fun w5 hg5 => row_kept ((HRW.out g f hr).alloc _) ⟨hg5.os, hg5.tape, hg5.output, hg5.size, hg5.block⟩ (fun e => row_ne_ops (HRW.out g f hr) hop (by decide) e.symm)⟩
  clear hol hop
  generalize hL : ms[n].2.2.2 = L at *
  have HL : Hid (ms[n].2.2.2 = L) := hL
  clear hL
  go_region_law ((refine step_ops2 _ (by rfl) _ _ (by rfl) B (.slice ao L.length co) L (by rfl) HOR.out [((k : Int), a)] w2.heap.size _ (by rfl) HNW.out Nat.zero_lt_one HLn.out HBn.out ?_; intro g5 cp5 w5 hrow5 hg5 hat5 hlt5; obtain ⟨hS0, hS1, s2, s3⟩ := HAF.out w5 hg5; have s0 := hS0.cell (i := 0) (by decide); have s0f := hS0.frozen 0))
  all_goals
    have hg6 : (w2.alloc (.cells #[.int .i64 k, .int .i64 a] 47)).drew.grownBy w5 ms[n].2.2.1.ownBlock := by rw [HOB.out]; exact hg5
    have hP6 := PRow.opsTo HPd.out hnl hg6 hrow5 (fun g e => by
      have e' : g5 = g := by simpa [Value.ownBlock] using e
      rw [HOB.out, ← e']; exact hat5)
    have hb6 : Below B w (w5.setCell ⟨gm, n * 3 + 2, none⟩ (.slice (some ⟨g5, 0, none⟩) (L.length + 1) cp5)) := (((hbW.alloc hB2 (.cells #[.int .i64 k, .int .i64 a] 47)).drew).grown hg5 HBn.out (fun q e => (HOR.out.lt q e).1)).setCell (p := ⟨gm, n * 3 + 2, none⟩) ((HPd.out.row.lt gm rfl).1) _
    have hT0 := row_kept hS0 (grown_set w5 gm (n * 3 + 2) (.slice (some ⟨g5, 0, none⟩) (L.length + 1) cp5)) (fun e => HGM.out.1 (by simpa using e))
    have hT1 := row_kept hS1 (grown_set w5 gm (n * 3 + 2) (.slice (some ⟨g5, 0, none⟩) (L.length + 1) cp5)) (fun e => HGM.out.2 (by simpa using e))
    have HFP : Hid (PRow B (w5.setCell ⟨gm, n * 3 + 2, none⟩ (.slice (some ⟨g5, 0, none⟩) (L.length + 1) cp5)) (.slice (some ⟨gm, 0, none⟩) ms.length cp) (ms.set n (ms[n].1, ms[n].2.1, .slice (some ⟨g5, 0, none⟩) (L.length + 1) cp5, L ++ [((k : Int), a)]))) := hP6
    have HRK : Hid (∀ g f, w.rowIs g 26 1 f → (w5.setCell ⟨gm, n * 3 + 2, none⟩ (.slice (some ⟨g5, 0, none⟩) (L.length + 1) cp5)).rowIs g 26 1 f) := fun g f hr => row_kept ((HRG.out g f hr).2 w5 hg5) (grown_set _ _ _ _) (by have := (HRG.out g f hr).1; simpa using this)
    clear HRG hP6 hg6 hrow5 hg5 hat5 hlt5 s0 s0f s2 s3 hS0 hS1 HAF HOR HNW r0 r0' c0 c1 c0' c1' hcell hcell' r1 f1
    generalize w5.setCell ⟨gm, n * 3 + 2, none⟩ (.slice (some ⟨g5, 0, none⟩) (L.length + 1) cp5) = w6 at *
    have t0 := hT0.cell (i := 0) (by decide)
    have t1 := hT1.cell (i := 0) (by decide)
    have tf := hT1.frozen 0
    have HF7 : Hid (PRow B _ _ _) := HFP.out.boxed hT1 0 (.slice (some ⟨gm, 0, none⟩) ms.length cp)
    have hb7 := hb6.setCell (p := ⟨w.heap.size + 1, 0, none⟩) (show B ≤ w.heap.size + 1 by omega) (.slice (some ⟨gm, 0, none⟩) ms.length cp)
    have t7 := World.cell?_setCell_same w6 ⟨w.heap.size + 1, 0, none⟩ (.slice (some ⟨gm, 0, none⟩) ms.length cp) t1
    go_wp2
    refine bodyPost_ret (v := .tuple #[.agg #[.slice (some ⟨gm, 0, none⟩) ms.length cp], .bool true]) (by simp [results, Tryd.results34, go_sem, t7]) rfl ?_
    exact ⟨hb7, fun g f hr => row_kept (HRK.out g f hr) (grown_set _ _ _ _) (by have := hr.lt; simp; omega), _, true, rfl, (fun _ => ⟨_, HF7.out, op_plain HNn.out HL.out HM.out HYes.out, by simp; omega, fun m hm => op_len HOL.out HX.out HL.out hm⟩), fun h => by cases h⟩

theorem withLine_any (N B : Nat) (hN : N ≤ 900) (v : Value) (ms : List MM) (S : ByteArray) (vn : Value) (nums : List Int) (w : World) (ht : TabW w) (hB : B ≤ w.heap.size) (hp : PRow B w v ms) (hn : IntRow B w vn nums) (hl : ms.length ≤ N) (hol : ∀ m ∈ ms, m.2.2.2.length ≤ N) :
    Calls Tryd.prog 34 #[.agg #[v], .string S, vn] w fun e w' => Below B w w' ∧ (∀ g f, w.rowIs g 26 1 f → w'.rowIs g 26 1 f) ∧ ∃ (u : Value) (b : Bool), e = .returned (.tuple #[.agg #[u], .bool b]) ∧
      (b = true → ∃ ms' : List MM, PRow B w' u ms' ∧ withP (plainOf ms) S.toList nums (plainOf ms') ∧ ms'.length ≤ N + 1 ∧ ∀ m ∈ ms', m.2.2.2.length ≤ N + 1) ∧ (b = false → u = .slice none 0 0 ∧ NoLine (plainOf ms) S.toList nums) := by
  by_cases hm : S.toList = methW
  · exact withLine_meth N B hN v ms S vn nums w ht hB hp hn hl hol hm
  · exact withLine_op N B hN v ms S vn nums w ht hB hp hn hl hol hm

end Go.Proofs.YtlbkgnmalhidmaaDoor
