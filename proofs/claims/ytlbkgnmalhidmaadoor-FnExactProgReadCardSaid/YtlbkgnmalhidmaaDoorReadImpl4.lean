/-
  The program's withLine: a method more, or an operation more of the last one; it writes to rows of its own alone.
-/
import Derived.Test.YtlbkgnmalhidmaaDoorReadImpl3
import Derived.Test.YtlbkgnmalhidmaaDoorReadRow
import Derived.Deep.RegionLaw
namespace Go.Proofs.YtlbkgnmalhidmaaDoor
open Go.RowKit

/-- the word of a method's line -/
def methW : List UInt8 := [109, 101, 116, 104, 111, 100]

/-- methods with a line more -/
def withP (ms : List (Int × Int × List (Int × Int))) (S : List UInt8) (nums : List Int) (ms' : List (Int × Int × List (Int × Int))) : Prop :=
  (S = methW ∧ nums.length = 2 ∧ ms' = ms ++ [(nums.getD 0 0, nums.getD 1 0, [])]) ∨
  (S ≠ methW ∧ ∃ (k : Nat) (l : List (Int × Int × List (Int × Int))) (m : Int × Int × List (Int × Int)), 1 ≤ k ∧ k ≤ 18 ∧ wordOf k = S ∧ nums.length ≤ 1 ∧ ms = l ++ [m] ∧ ms' = l ++ [(m.1, m.2.1, m.2.2 ++ [((k : Int), nums.headD 0)])])

/-- a line that cannot be taken -/
def NoLine (ms : List (Int × Int × List (Int × Int))) (S : List UInt8) (nums : List Int) : Prop :=
  (S = methW ∧ nums.length ≠ 2) ∨ (S ≠ methW ∧ (NoWord S ∨ 1 < nums.length ∨ ms = []))


set_option maxRecDepth 100000 in
set_option maxHeartbeats 2000000 in
theorem withLine_meth (N B : Nat) (hN : N ≤ 900) (v : Value) (ms : List MM) (S : ByteArray) (vn : Value) (nums : List Int) (w : World) (ht : TabW w) (hB : B ≤ w.heap.size) (hp : PRow B w v ms) (hn : IntRow B w vn nums) (hl : ms.length ≤ N) (hol : ∀ m ∈ ms, m.2.2.2.length ≤ N) (hm0 : S.toList = methW) :
    Calls Tryd.prog 34 #[.agg #[v], .string S, vn] w fun e w' => Below B w w' ∧ (∀ g f, w.rowIs g 26 1 f → w'.rowIs g 26 1 f) ∧ ∃ (u : Value) (b : Bool), e = .returned (.tuple #[.agg #[u], .bool b]) ∧
      (b = true → ∃ ms' : List MM, PRow B w' u ms' ∧ withP (plainOf ms) S.toList nums (plainOf ms') ∧ ms'.length ≤ N + 1 ∧ ∀ m ∈ ms', m.2.2.2.length ≤ N + 1) ∧ (b = false → u = .slice none 0 0 ∧ NoLine (plainOf ms) S.toList nums) := by
  obtain ⟨av, cv, hv, hlm⟩ := hn.slice
  subst hv
  obtain ⟨ap, cp, hvp⟩ := hp.shape
  subst hvp
  unfold maxLen at hlm
  have HT : Hid (TabW w) := ht
  have HN : Hid (IntRow B w (.slice av nums.length cv) nums) := hn
  have HP : Hid (PRow B w (.slice ap ms.length cp) ms) := hp
  have HOL : Hid (∀ m ∈ ms, m.2.2.2.length ≤ N) := hol
  clear ht hn hp hol
  have hA : Below w.heap.size w ((w.alloc (.cells #[.slice ap ms.length cp] 26)).alloc (.cells #[.slice none 0 0] 26)) := ((Below.refl _ _).alloc (Nat.le_refl _) _).alloc (by simp) _
  have q0 : ((w.alloc (.cells #[.slice ap ms.length cp] 26)).alloc (.cells #[.slice none 0 0] 26)).rowIs w.heap.size 26 1 (fun _ => .slice ap ms.length cp) := (pbox_new w (.slice ap ms.length cp)).alloc _
  have q1 : ((w.alloc (.cells #[.slice ap ms.length cp] 26)).alloc (.cells #[.slice none 0 0] 26)).rowIs (w.heap.size + 1) 26 1 (fun _ => .slice none 0 0) := by
    have := pbox_new (w.alloc (.cells #[.slice ap ms.length cp] 26)) (.slice none 0 0)
    simpa using this
  have HM : Hid (S.toList = methW) := hm0
  have hm : (S.toList == [109, 101, 116, 104, 111, 100]) = true := by rw [hm0]; rfl
  clear hm0
  by_cases h2 : nums.length = 2
  case neg =>
    have h2' : ((nums.length : Int) != 2) = true := by rw [bne_iff_ne]; omega
    go_enter Tryd.func34, Tryd.ntmps34
    go_wp2
    refine bodyPost_ret (v := .tuple #[.agg #[.slice none 0 0], .bool false]) (by simp [results, Tryd.results34, go_sem]) rfl ?_
    exact ⟨hA.mono hB, fun g f hr => row_below hA hr, _, false, rfl, (fun h => by cases h), fun _ => ⟨rfl, .inl ⟨HM.out, h2⟩⟩⟩
  have h2' : ((nums.length : Int) != 2) = false := by rw [bne_eq_false_iff_eq]; omega
  obtain ⟨g, off, cap, hvn, hBg, hgl⟩ := HN.out.form (by omega)
  cases hvn
  have d0 := (HN.out.cell (i := 0) (by omega)).1
  have d1 := (HN.out.cell (i := 1) (by omega)).1
  have d0 : w.cell? ⟨g, off, none⟩ = some (.int .i64 nums[0]) := by simpa using d0
  have d0 := cell_below hA d0
  have d1 := cell_below hA d1
  have HE : Hid (nums.getD 0 0 = nums[0] ∧ nums.getD 1 0 = nums[1]) := by
    constructor
    · simp [show 0 < nums.length by omega]
    · simp [show 1 < nums.length by omega]
  have h00 : 0 < nums.length := by omega
  have h01 : (1 : Int) < (nums.length : Int) := by omega
  have H2 : Hid (nums.length = 2) := h2
  generalize nums[0] = n0 at *
  generalize nums[1] = n1 at *
  clear h2 hm
  have hm : (S.toList == [109, 101, 116, 104, 111, 100]) = true := by rw [HM.out]; rfl
  have HPA : Hid (PRow B ((w.alloc (.cells #[.slice ap ms.length cp] 26)).alloc (.cells #[.slice none 0 0] 26)) (.slice ap ms.length cp) ms) := HP.out.below hA
  go_enter Tryd.func34, Tryd.ntmps34
  go_wp2_with fail
  have hBW : B ≤ ((w.alloc (.cells #[.slice ap ms.length cp] 26)).alloc (.cells #[.slice none 0 0] 26)).heap.size := by simp; omega
  generalize (w.alloc (.cells #[.slice ap ms.length cp] 26)).alloc (.cells #[.slice none 0 0] 26) = W at *
  have k0 := q0.cell (i := 0) (by decide)
  have k0' := fun o => cell_below ((Below.refl W.heap.size W).alloc (Nat.le_refl _) o) k0
  have d0' := fun o => cell_below ((Below.refl W.heap.size W).alloc (Nat.le_refl _) o) d0
  have d1' := fun o => cell_below ((Below.refl W.heap.size W).alloc (Nat.le_refl _) o) d1
  have HMR : Hid (MRow B (W.alloc (.cells #[.int .i64 n0, .int .i64 n1, .slice none 0 0] 45)).drew (.slice ap ms.length cp) (ms.map MM.tri)) := World.ownsRow.alloc HPA.out.row _
  have HIS : Hid (∀ m ∈ [((n0, n1, .slice none 0 0) : Int × Int × Value)], IsSlice m.2.2) := fun m hm => by simp at hm; subst hm; exact ⟨_, _, _, rfl⟩
  have HNW : Hid (∀ j u, (flat3 [((n0, n1, .slice none 0 0) : Int × Int × Value)])[j]? = some u → (W.alloc (.cells #[.int .i64 n0, .int .i64 n1, .slice none 0 0] 45)).drew.cell? ((⟨W.heap.size, 0, none⟩ : Addr).add j) = some u) := World.news_of_block (w := (W.alloc (.cells #[.int .i64 n0, .int .i64 n1, .slice none 0 0] 45)).drew) (Go.Deep.blk_alloc_new W _)
  have HLn : Hid ((ms.map MM.tri).length + [((n0, n1, .slice none 0 0) : Int × Int × Value)].length ≤ 1000) := by show _ ≤ _; simp; omega
  have HBn : Hid (B ≤ (W.alloc (.cells #[.int .i64 n0, .int .i64 n1, .slice none 0 0] 45)).drew.heap.size) := by show _ ≤ _; simp; omega
  have HR0 : Hid (∀ w5, (W.alloc (.cells #[.int .i64 n0, .int .i64 n1, .slice none 0 0] 45)).drew.grownBy w5 (Value.slice ap ms.length cp).ownBlock → w5.rowIs w.heap.size 26 1 (fun _ => .slice ap ms.length cp) ∧ w5.rowIs (w.heap.size + 1) 26 1 (fun _ => .slice none 0 0)) := fun w5 hg5 =>
    ⟨row_kept (q0.alloc _) ⟨hg5.os, hg5.tape, hg5.output, hg5.size, hg5.block⟩ (fun e => row_ne_meths q0 HPA.out.row (by decide) e.symm), row_kept (q1.alloc _) ⟨hg5.os, hg5.tape, hg5.output, hg5.size, hg5.block⟩ (fun e => row_ne_meths q1 HPA.out.row (by decide) e.symm)⟩
  have HRG : Hid (∀ g f, w.rowIs g 26 1 f → ∀ w5, (W.alloc (.cells #[.int .i64 n0, .int .i64 n1, .slice none 0 0] 45)).drew.grownBy w5 (Value.slice ap ms.length cp).ownBlock → w5.rowIs g 26 1 f) := fun g f hr w5 hg5 => row_kept ((row_below hA hr).alloc _) ⟨hg5.os, hg5.tape, hg5.output, hg5.size, hg5.block⟩ (fun e => row_ne_meths (row_below hA hr) HPA.out.row (by decide) e.symm)
  go_region_law ((refine step_meths _ (by rfl) _ _ (by rfl) B _ (ms.map MM.tri) (by rfl) HMR.out [(n0, n1, .slice none 0 0)] HIS.out ⟨W.heap.size, 0, none⟩ _ (by rfl) HNW.out Nat.zero_lt_one HLn.out HBn.out ?_; intro g5 cp5 w5 hrow5 hg5 hB5 hlt5; obtain ⟨hR0, hR1⟩ := HR0.out w5 hg5; have r0 := hR0.cell (i := 0) (by decide); have f0 := hR0.frozen 0))
  all_goals
    have hP5 : PRow B w5 (.slice (some ⟨g5, 0, none⟩) (ms.length + 1) cp5) (ms ++ [(n0, n1, .slice none 0 0, [])]) := (HPA.out.below (((Below.refl _ _).alloc (Nat.le_refl _) (.cells #[.int .i64 n0, .int .i64 n1, .slice none 0 0] 45)).drew)).snoc hg5 (by simpa using hrow5)
    have hb5 : Below B w w5 := (((hA.mono hB).alloc hBW (.cells #[.int .i64 n0, .int .i64 n1, .slice none 0 0] 45)).drew).grown hg5 HBn.out (fun k e => (HPA.out.row.lt k e).1)
    have HRK : Hid (∀ g f, w.rowIs g 26 1 f → ((w5.setCell ⟨w.heap.size, 0, none⟩ (.slice (some ⟨g5, 0, none⟩) (ms.length + 1) cp5)).setCell ⟨w.heap.size + 1, 0, none⟩ (.slice (some ⟨g5, 0, none⟩) (ms.length + 1) cp5)).rowIs g 26 1 f) := fun g f hr => row_kept (row_kept (HRG.out g f hr w5 hg5) (grown_set _ _ _ _) (by have := hr.lt; simp; omega)) (grown_set _ _ _ _) (by have := hr.lt; simp; omega)
    clear hrow5 hg5 hlt5 HRG HMR HIS HNW HLn HR0 k0 k0' d0 d1 d0' d1'
    have hP6 := hP5.boxed hR0 0 (.slice (some ⟨g5, 0, none⟩) (ms.length + 1) cp5)
    have hR0' : (w5.setCell ⟨w.heap.size, 0, none⟩ (.slice (some ⟨g5, 0, none⟩) (ms.length + 1) cp5)).rowIs w.heap.size 26 1 (fun _ => (.slice (some ⟨g5, 0, none⟩) (ms.length + 1) cp5)) := (hR0.set 0 (.slice (some ⟨g5, 0, none⟩) (ms.length + 1) cp5)).congr (fun i hi => by match i, hi with | 0, _ => simp)
    have hR1' := row_kept hR1 (grown_set w5 w.heap.size 0 (.slice (some ⟨g5, 0, none⟩) (ms.length + 1) cp5)) (by simp)
    have hb6 := hb5.setCell (p := ⟨w.heap.size, 0, none⟩) hB (.slice (some ⟨g5, 0, none⟩) (ms.length + 1) cp5)
    clear hP5 hR0 hR1 hb5 r0 f0
    generalize w5.setCell ⟨w.heap.size, 0, none⟩ (.slice (some ⟨g5, 0, none⟩) (ms.length + 1) cp5) = w6 at *
    have r0 := hR0'.cell (i := 0) (by decide)
    have r1 := hR1'.cell (i := 0) (by decide)
    have f1 := hR1'.frozen 0
    have hP7 := hP6.boxed hR1' 0 (.slice (some ⟨g5, 0, none⟩) (ms.length + 1) cp5)
    have hb7 := hb6.setCell (p := ⟨w.heap.size + 1, 0, none⟩) (show B ≤ w.heap.size + 1 by omega) (.slice (some ⟨g5, 0, none⟩) (ms.length + 1) cp5)
    have r7 := World.cell?_setCell_same w6 ⟨w.heap.size + 1, 0, none⟩ (.slice (some ⟨g5, 0, none⟩) (ms.length + 1) cp5) r1
    clear hP6 hb6 hR0' hR1'
    go_wp2
    refine bodyPost_ret (v := .tuple #[.agg #[(.slice (some ⟨g5, 0, none⟩) (ms.length + 1) cp5)], .bool true]) (by simp [results, Tryd.results34, go_sem, r7]) rfl ?_
    refine ⟨hb7, HRK.out, (.slice (some ⟨g5, 0, none⟩) (ms.length + 1) cp5), true, rfl, (fun _ => ⟨_, hP7, .inl ⟨HM.out, H2.out, ?_⟩, by simp; omega, fun m hm => ?_⟩), fun h => by cases h⟩
    · rw [HE.out.1, HE.out.2]; simp [plainOf]
    · rcases List.mem_append.1 hm with hm | hm
      · have := HOL.out m hm; omega
      · simp at hm; subst hm; simp

end Go.Proofs.YtlbkgnmalhidmaaDoor
