import Derived.Test.YtlbkgnmalhidmaaDoorReadRow
import Derived.Deep.QuietTactic

/-
  markOpS, markMethodS, markProg and heldOpS, heldMethodS, heldProg of the exact laws, of a program in rows of its own: what marks writes numbers that go up by one into them and nowhere else; what is held answers them.
-/
namespace Go.Proofs.YtlbkgnmalhidmaaDoor
open Go.RowKit

/-- n operations that are marked from k on -/
def mkO (k : Int) (n : Nat) : List (Int × Int) := (List.range n).map fun i : Nat => (k + 2 * (i : Int), k + 2 * (i : Int) + 1)

theorem mkO_length (k : Int) (n : Nat) : (mkO k n).length = n := by simp [mkO]
theorem mkO_at (k : Int) (n i : Nat) (h : i < (mkO k n).length) : (mkO k n)[i] = (k + 2 * (i : Int), k + 2 * (i : Int) + 1) := by simp [mkO]

theorem gby_trans {a w w' : World} {row : Option Nat} (h : a.grownBy w row) (k : w.grownBy w' row) : a.grownBy w' row :=
  ⟨k.os.trans h.os, k.tape.trans h.tape, k.output.trans h.output, Nat.le_trans h.size k.size, fun q h1 h2 => (k.block q (Nat.lt_of_lt_of_le h1 h.size) h2).trans (h.block q h1 h2)⟩

theorem OpsRow.set2 {B : Nat} {w : World} {g n c : Nat} {L : List (Int × Int)} (h : OpsRow B w (.slice (some ⟨g, 0, none⟩) n c) L) (hn : n = L.length) (i : Nat) (hi : i < L.length) (x y : Int) :
    OpsRow B ((w.setCell ⟨g, i * 2, none⟩ (.int .i64 x)).setCell ⟨g, i * 2 + 1, none⟩ (.int .i64 y)) (.slice (some ⟨g, 0, none⟩) n c) (L.set i (x, y)) ∧ w.grownBy ((w.setCell ⟨g, i * 2, none⟩ (.int .i64 x)).setCell ⟨g, i * 2 + 1, none⟩ (.int .i64 y)) (some g) := by
  subst hn
  obtain ⟨h1, g1⟩ := h.setK i hi x
  have h1' : OpsRow B (w.setCell ⟨g, i * 2, none⟩ (.int .i64 x)) (.slice (some ⟨g, 0, none⟩) (L.set i (x, L[i].2)).length c) (L.set i (x, L[i].2)) := by rw [List.length_set]; exact h1
  obtain ⟨_, _, h2, g2⟩ := h1'.setA i (by simpa using hi) y
  refine ⟨?_, gby_trans g1 g2⟩
  simpa using h2

set_option maxRecDepth 100000 in
set_option maxHeartbeats 1000000 in
theorem markOpS_row (B : Nat) (v : Value) (xs : List (Int × Int)) (k : Int) (w : World) (h : OpsRow B w v xs) (hx : xs.length ≤ 1048576) (hk0 : 0 ≤ k) (hk1 : k ≤ 1125899906842624) :
    Calls Tryd.prog 40 #[v, .int .i64 k] w fun e w' => e = .returned (.int .i64 (k + 2 * (xs.length : Int))) ∧ OpsRow B w' v (mkO k xs.length) ∧ w.grownBy w' v.ownBlock := by
  obtain ⟨a, c, rfl⟩ := h.shape
  go_enter Tryd.func40, Tryd.ntmps40
  go_wp2
  go_loopg [1, 5] xs.length (fun g kv i wr => ∃ (j : Nat) (ys : List (Int × Int)), j ≤ xs.length ∧ g = xs.length - j ∧ i = .int .i64 j ∧ kv = .int .i64 (k + 2 * (j : Int)) ∧ ys.length = xs.length ∧ OpsRow B wr (.slice a xs.length c) ys ∧ (∀ q, (hq : q < ys.length) → q < j → ys[q] = (k + 2 * (q : Int), k + 2 * (q : Int) + 1)) ∧ w.grownBy wr (Value.slice a xs.length c).ownBlock)
  case atStart => exact ⟨0, xs, Nat.zero_le _, rfl, rfl, by simp, rfl, h, fun q _ hq => absurd hq (Nat.not_lt_zero _), World.grownBy.refl _ _⟩
  case round =>
    obtain ⟨j, ys, hj, rfl, rfl, rfl, hyl, hrow, hys, hg⟩ := hrel
    have HY : Hid (∀ q, (hq : q < ys.length) → q < j → ys[q] = (k + 2 * (q : Int), k + 2 * (q : Int) + 1)) := hys
    clear hys
    by_cases hlt : j < xs.length
    · obtain ⟨g1, c1, e1⟩ := hrow.shape1 (by omega)
      obtain rfl : a = some ⟨g1, 0, none⟩ := by injection e1
      clear e1
      obtain ⟨d0, d1⟩ := hrow.cell j (by omega)
      have f0 := hrow.frozen (j * 2)
      have f1 := hrow.frozen (j * 2 + 1)
      have hset := hrow.set2 hyl.symm j (by omega) (k + 2 * (j : Int)) (k + 2 * (j : Int) + 1)
      have hjz : (j : Int) < (xs.length : Int) := by omega
      have hg2 : w.grownBy ((wr.setCell ⟨g1, j * 2, none⟩ (.int .i64 (k + 2 * (j : Int)))).setCell ⟨g1, j * 2 + 1, none⟩ (.int .i64 (k + 2 * (j : Int) + 1))) (Value.slice (some ⟨g1, 0, none⟩) xs.length c).ownBlock := gby_trans hg hset.2
      have hw1 : IntKind.i64.wrap (k + 2 * (j : Int) + 1) = k + 2 * (j : Int) + 1 := by rw [IntKind.wrap_i64]; omega
      have hw2 : IntKind.i64.wrap (k + 2 * (j : Int) + 1 + 1) = k + 2 * (j : Int) + 1 + 1 := by rw [IntKind.wrap_i64]; omega
      have HS : Hid (OpsRow B ((wr.setCell ⟨g1, j * 2, none⟩ (.int .i64 (k + 2 * (j : Int)))).setCell ⟨g1, j * 2 + 1, none⟩ (.int .i64 (k + 2 * (j : Int) + 1))) (.slice (some ⟨g1, 0, none⟩) xs.length c) (ys.set j (k + 2 * (j : Int), k + 2 * (j : Int) + 1))) := hset.1
      clear hrow hg hset
      go_wp2
      go_roundg (xs.length - (j + 1))
      case measure => omega
      case rel => exact ⟨j + 1, ys.set j (k + 2 * (j : Int), k + 2 * (j : Int) + 1), by omega, rfl, by go_num, by rw [show k + 2 * (j : Int) + 1 + 1 = k + 2 * ((j + 1 : Nat) : Int) by omega], by rw [List.length_set]; exact hyl, HS.out, fun q hq hqk => by
          rw [List.length_set] at hq
          by_cases e : q = j
          · subst e; simp
          · rw [List.getElem_set_ne (fun x => e x.symm)]; exact HY.out q hq (by omega), hg2⟩
    · obtain rfl : j = xs.length := by omega
      have hE : ys = mkO k xs.length := List.ext_getElem (by rw [mkO_length]; exact hyl) fun q h1 h2 => by rw [mkO_at, HY.out q h1 (by omega)]
      subst hE
      go_wp2
      go_ret
      exact ⟨rfl, hrow, hg⟩

set_option maxRecDepth 100000 in
set_option maxHeartbeats 1000000 in
theorem heldOpS_any (v : Value) (n : Nat) (k : Int) (w : World) (h : OpsAt w v (mkO k n)) (hx : n ≤ 1048576) (hk0 : 0 ≤ k) (hk1 : k ≤ 1125899906842624) :
    Calls Tryd.prog 41 #[v, .int .i64 k] w fun e w' => e = .returned (.int .i64 (k + 2 * (n : Int))) ∧ w' = w := by
  obtain ⟨a, c, rfl, hl, hc⟩ := h
  rw [mkO_length] at hl ⊢
  go_enter Tryd.func41, Tryd.ntmps41
  go_wp2
  go_loopg [1, 5] n (fun g kv i wr => ∃ j : Nat, j ≤ n ∧ g = n - j ∧ i = .int .i64 j ∧ kv = .int .i64 (k + 2 * (j : Int)) ∧ wr = w)
  case atStart => exact ⟨0, Nat.zero_le _, rfl, rfl, by simp, rfl⟩
  case round =>
    obtain ⟨j, hj, rfl, rfl, rfl, hw⟩ := hrel
    subst hw
    by_cases hlt : j < n
    · obtain ⟨b, o, e1, d0, d1⟩ := hc j (by rw [mkO_length]; exact hlt)
      subst e1
      rw [mkO_at] at d0 d1
      dsimp only at d0 d1
      have hjz : (j : Int) < (n : Int) := by omega
      have hw1 : IntKind.i64.wrap (k + 2 * (j : Int) + 1) = k + 2 * (j : Int) + 1 := by rw [IntKind.wrap_i64]; omega
      have hw2 : IntKind.i64.wrap (k + 2 * (j : Int) + 1 + 1) = k + 2 * (j : Int) + 1 + 1 := by rw [IntKind.wrap_i64]; omega
      clear hc
      go_wp2
      go_roundg (n - (j + 1))
      case measure => omega
      case rel => exact ⟨j + 1, by omega, rfl, by go_num, by rw [show k + 2 * (j : Int) + 1 + 1 = k + 2 * ((j + 1 : Nat) : Int) by omega], rfl⟩
    · obtain rfl : j = n := by omega
      go_wp2
      go_ret
      exact ⟨rfl, rfl⟩

end Go.Proofs.YtlbkgnmalhidmaaDoor

/-
  markMethodS, markProg and heldMethodS, heldProg of the exact laws, of a program in rows of its own.
-/
namespace Go.Proofs.YtlbkgnmalhidmaaDoor
open Go.RowKit

/-- a cell of method k is written, its operations aside -/
theorem PRow.cell1 {B : Nat} {w : World} {gm n c : Nat} {ms : List MM} (h : PRow B w (.slice (some ⟨gm, 0, none⟩) n c) ms) (hn : n = ms.length) (k : Nat) (hk : k < ms.length) (m' : MM) (i : Nat) (u : Value) (he : flat3 ((ms.set k m').map MM.tri) = (flat3 (ms.map MM.tri)).set i u) (hv : m'.2.2 = ms[k].2.2) :
    PRow B (w.setCell ⟨gm, i, none⟩ u) (.slice (some ⟨gm, 0, none⟩) n c) (ms.set k m') := by
  subst hn
  have hrow : w.ownsRow B 45 3 (.slice (some ⟨gm, 0, none⟩) ms.length c) ms.length (flat3 (ms.map MM.tri)) := by have := h.row; unfold MRow at this; rwa [List.length_map] at this
  obtain ⟨s1, s2⟩ := World.ownsRow.stored hrow i u
  have hm : ∀ u' L', OpsRow B w u' L' → OpsRow B (w.setCell ⟨gm, i, none⟩ u) u' L' := fun u' L' hu => hu.kept s2 (fun g e hg' => mrow_ne h.row hu g e hg')
  refine ⟨?_, fun m hmm => ?_, PS.dis_set h.dis k hk m' (by rw [hv])⟩
  · unfold MRow
    rw [List.length_map, List.length_set, he]
    exact s1
  · rcases List.mem_or_eq_of_mem_set hmm with hmm | rfl
    · exact hm _ _ (h.ops m hmm)
    · rw [hv]; exact hm _ _ (h.ops _ (List.getElem_mem hk))

/-- the two numbers of method k are written -/
theorem PRow.two {B : Nat} {w : World} {gm n c : Nat} {ms : List MM} (h : PRow B w (.slice (some ⟨gm, 0, none⟩) n c) ms) (hn : n = ms.length) (k : Nat) (hk : k < ms.length) (x y : Int) :
    PRow B ((w.setCell ⟨gm, k * 3, none⟩ (.int .i64 x)).setCell ⟨gm, k * 3 + 1, none⟩ (.int .i64 y)) (.slice (some ⟨gm, 0, none⟩) n c) (ms.set k (x, y, ms[k].2.2)) := by
  have h1 := h.cell1 hn k hk (x, ms[k].2.1, ms[k].2.2) (k * 3) (.int .i64 x) (by
    have := flat3_set0 (ms.map MM.tri) k (by simpa using hk) x
    rw [PRow.ofMap hk] at this
    rw [List.map_set, show MM.tri (x, ms[k].2.1, ms[k].2.2) = (x, ms[k].2.1, ms[k].2.2.1) from rfl, this]) rfl
  have hk' : k < (ms.set k (x, ms[k].2.1, ms[k].2.2)).length := by simpa using hk
  have h2 := h1.cell1 (by rw [List.length_set]; exact hn) k hk' (x, y, ms[k].2.2) (k * 3 + 1) (.int .i64 y) (by
    have := flat3_set1 ((ms.set k (x, ms[k].2.1, ms[k].2.2)).map MM.tri) k (by simpa using hk) y
    rw [PRow.ofMap hk'] at this
    rw [List.map_set, ← this]
    simp [MM.tri]) (by simp)
  rwa [List.set_set] at h2

/-- the operations of method k are written where they lie -/
theorem PRow.opsIn {B : Nat} {w w' : World} {v : Value} {ms : List MM} (h : PRow B w v ms) (k : Nat) (hk : k < ms.length) (hg : w.grownBy w' ms[k].2.2.1.ownBlock) {L : List (Int × Int)} (ho : OpsRow B w' ms[k].2.2.1 L) :
    PRow B w' v (ms.set k (ms[k].1, ms[k].2.1, ms[k].2.2.1, L)) := by
  have hpw := List.pairwise_iff_getElem.1 h.dis
  have hop := h.ops _ (List.getElem_mem hk)
  have hrow1 : MRow B w' v (ms.map MM.tri) := h.row.kept hg (fun g e hk' => mrow_ne h.row hop g hk' e)
  refine ⟨?_, fun m hmm => ?_, PS.dis_set h.dis k hk _ rfl⟩
  · rw [List.map_set, show MM.tri (ms[k].1, ms[k].2.1, ms[k].2.2.1, L) = (ms.map MM.tri)[k]'(by simpa using hk) by rw [PRow.ofMap hk]; rfl, List.set_getElem_self]
    exact hrow1
  · obtain ⟨i, hi, rfl⟩ := List.mem_iff_getElem.1 hmm
    have hi' : i < ms.length := by simpa using hi
    rw [List.getElem_set]
    by_cases e : k = i
    · rw [if_pos e]; exact ho
    · rw [if_neg e]
      exact (h.ops _ (List.getElem_mem hi')).kept hg (fun g e1 hg' => by
        rcases Nat.lt_or_gt_of_ne e with e' | e'
        · exact hpw k i hk hi' e' g e1 hg'
        · exact hpw i k hi' hk e' g hg' e1)

def spanM (m : MM) : Int := 2 + 2 * (m.2.2.2.length : Int)
/-- the first mark of the method at place j -/
def mAt (k : Int) (ms : List MM) (j : Nat) : Int := k + ((ms.take j).map spanM).sum
def markM (k : Int) (m : MM) : MM := (k, k + 1, m.2.2.1, mkO (k + 1 + 1) m.2.2.2.length)
/-- the methods below j are marked -/
def markTo (k : Int) (ms : List MM) (j : Nat) : List MM := ms.mapIdx fun i m => if i < j then markM (mAt k ms i) m else m

theorem mAt_zero (k : Int) (ms : List MM) : mAt k ms 0 = k := by simp [mAt]
theorem mAt_succ (k : Int) (ms : List MM) (j : Nat) (h : j < ms.length) : mAt k ms (j + 1) = mAt k ms j + spanM ms[j] := by
  unfold mAt
  rw [List.take_add_one, List.getElem?_eq_getElem h, List.map_append, List.sum_append]
  simp only [Option.toList_some, List.map_cons, List.map_nil, List.sum_cons, List.sum_nil]
  omega

theorem mAt_le (k : Int) (ms : List MM) (hs : ∀ m ∈ ms, m.2.2.2.length ≤ 1000) : ∀ j, j ≤ ms.length → k ≤ mAt k ms j ∧ mAt k ms j ≤ k + (j : Int) * 2002
  | 0, _ => by rw [mAt_zero]; omega
  | j + 1, h => by
    have ih := mAt_le k ms hs j (by omega)
    rw [mAt_succ k ms j (by omega)]
    have := hs _ (List.getElem_mem (show j < ms.length by omega))
    unfold spanM
    omega

theorem markTo_length (k : Int) (ms : List MM) (j : Nat) : (markTo k ms j).length = ms.length := by simp [markTo]
theorem markTo_at (k : Int) (ms : List MM) (j i : Nat) (h : i < (markTo k ms j).length) : (markTo k ms j)[i] = if i < j then markM (mAt k ms i) (ms[i]'(by rw [markTo_length] at h; exact h)) else ms[i]'(by rw [markTo_length] at h; exact h) := by simp [markTo]
theorem markTo_zero (k : Int) (ms : List MM) : markTo k ms 0 = ms := List.ext_getElem (markTo_length _ _ _) fun i h1 h2 => by rw [markTo_at]; simp
theorem markTo_succ (k : Int) (ms : List MM) (j : Nat) (h : j < ms.length) : (markTo k ms j).set j (markM (mAt k ms j) ms[j]) = markTo k ms (j + 1) :=
  List.ext_getElem (by simp [markTo_length]) fun i h1 h2 => by
    rw [List.getElem_set, markTo_at, markTo_at]
    by_cases e : j = i
    · subst e; simp
    · rw [if_neg e]
      by_cases e' : i < j
      · rw [if_pos e', if_pos (by omega)]
      · rw [if_neg e', if_neg (by omega)]

set_option maxRecDepth 100000 in
set_option maxHeartbeats 1000000 in
theorem markMethodS_row (B : Nat) (v : Value) (ms : List MM) (k : Int) (w : World) (hB : B ≤ w.heap.size) (h : PRow B w v ms) (hn : ms.length ≤ 1000) (ho : ∀ m ∈ ms, m.2.2.2.length ≤ 1000) (hk0 : 0 ≤ k) (hk1 : k ≤ 1000000) :
    Calls Tryd.prog 26 #[v, .int .i64 k] w fun e w' => e = .returned (.int .i64 (mAt k ms ms.length)) ∧ PRow B w' v (markTo k ms ms.length) ∧ Below B w w' ∧ ∀ g f, w.rowIs g 26 1 f → w'.rowIs g 26 1 f := by
  obtain ⟨a, c, rfl⟩ := h.shape
  have HO : Hid (∀ m ∈ ms, m.2.2.2.length ≤ 1000) := ho
  clear ho
  go_enter Tryd.func26, Tryd.ntmps26
  go_wp2
  go_loopg [1, 5] ms.length (fun g kv i wr => ∃ j : Nat, j ≤ ms.length ∧ g = ms.length - j ∧ i = .int .i64 j ∧ kv = .int .i64 (mAt k ms j) ∧ PRow B wr (.slice a ms.length c) (markTo k ms j) ∧ Below B w wr ∧ ∀ g f, w.rowIs g 26 1 f → wr.rowIs g 26 1 f)
  case atStart => exact ⟨0, Nat.zero_le _, rfl, rfl, by rw [mAt_zero], by rw [markTo_zero]; exact h, Below.refl _ _, fun _ _ hr => hr⟩
  case round =>
    obtain ⟨j, hj, rfl, rfl, rfl, hrow, hb, hrr⟩ := hrel
    have HRR : Hid (∀ g f, w.rowIs g 26 1 f → wr.rowIs g 26 1 f) := hrr
    clear hrr
    have hK := mAt_le k ms HO.out j hj
    by_cases hlt : j < ms.length
    · have hl : (markTo k ms j).length = ms.length := markTo_length _ _ _
      obtain ⟨gm, c1, e1⟩ := hrow.shape1 (by omega)
      obtain rfl : a = some ⟨gm, 0, none⟩ := by injection e1
      clear e1
      have hjl : j < (markTo k ms j).length := by omega
      have hat : (markTo k ms j)[j] = ms[j] := by rw [markTo_at]; simp
      obtain ⟨d0, d1, _⟩ := MRow.cell hrow.row j (by simpa using hjl)
      have f0 := hrow.row.frozen (j * 3)
      have f1 := hrow.row.frozen (j * 3 + 1)
      have h2 := hrow.two hl.symm j hjl (mAt k ms j) (mAt k ms j + 1)
      rw [hat] at h2
      have hlm : ms[j].2.2.2.length ≤ 1000 := HO.out _ (List.getElem_mem hlt)
      have hms : mAt k ms (j + 1) = mAt k ms j + 1 + 1 + 2 * (ms[j].2.2.2.length : Int) := by rw [mAt_succ k ms j hlt]; unfold spanM; omega
      have HS : Hid (mAt k ms (j + 1) = mAt k ms j + 1 + 1 + 2 * (ms[j].2.2.2.length : Int)) := hms
      clear hms
      have hk2 : j < ((markTo k ms j).set j (mAt k ms j, mAt k ms j + 1, ms[j].2.2)).length := by simpa using hjl
      have hsame : ((markTo k ms j).set j (mAt k ms j, mAt k ms j + 1, ms[j].2.2))[j] = (mAt k ms j, mAt k ms j + 1, ms[j].2.2) := by simp
      have d2 := (MRow.cell h2.row j (by simpa using hk2)).2.2
      rw [PRow.ofMap hk2, hsame] at d2
      have ho2 := h2.ops _ (List.getElem_mem hk2)
      rw [hsame] at ho2
      have H2 : Hid (PRow B ((wr.setCell ⟨gm, j * 3, none⟩ (.int .i64 (mAt k ms j))).setCell ⟨gm, j * 3 + 1, none⟩ (.int .i64 (mAt k ms j + 1))) (.slice (some ⟨gm, 0, none⟩) ms.length c) ((markTo k ms j).set j (mAt k ms j, mAt k ms j + 1, ms[j].2.2))) := h2
      have HB2 : Hid (Below B w ((wr.setCell ⟨gm, j * 3, none⟩ (.int .i64 (mAt k ms j))).setCell ⟨gm, j * 3 + 1, none⟩ (.int .i64 (mAt k ms j + 1)))) := (hb.setCell (p := ⟨gm, j * 3, none⟩) ((hrow.row.lt gm rfl).1) _).setCell (p := ⟨gm, j * 3 + 1, none⟩) ((hrow.row.lt gm rfl).1) _
      have HR2 : Hid (∀ g f, w.rowIs g 26 1 f → ((wr.setCell ⟨gm, j * 3, none⟩ (.int .i64 (mAt k ms j))).setCell ⟨gm, j * 3 + 1, none⟩ (.int .i64 (mAt k ms j + 1))).rowIs g 26 1 f) := fun g f hr => by
        have h1 := HRR.out g f hr
        have hne : g ≠ gm := fun e => row_ne_meths h1 hrow.row (by decide) (by rw [e]; rfl)
        exact row_kept (row_kept h1 (grown_set wr gm (j * 3) _) (fun e => hne (by simpa using e))) (grown_set _ gm (j * 3 + 1) _) (fun e => hne (by simpa using e))
      obtain ⟨ao, co, hvo⟩ := ho2.shape
      dsimp only at hvo d2 ho2
      have HVO : Hid (ms[j].2.2.1 = .slice ao ms[j].2.2.2.length co) := hvo
      rw [hvo] at d2 ho2
      have hjz : (j : Int) < (ms.length : Int) := by omega
      have hw1 : IntKind.i64.wrap (mAt k ms j + 1) = mAt k ms j + 1 := by rw [IntKind.wrap_i64]; omega
      have hw2 : IntKind.i64.wrap (mAt k ms j + 1 + 1) = mAt k ms j + 1 + 1 := by rw [IntKind.wrap_i64]; omega
      have HE : Hid (∀ L, ((markTo k ms j).set j (mAt k ms j, mAt k ms j + 1, ms[j].2.2)).set j (mAt k ms j, mAt k ms j + 1, ms[j].2.2.1, L) = (markTo k ms j).set j (mAt k ms j, mAt k ms j + 1, ms[j].2.2.1, L)) := fun L => List.set_set ..
      clear h2 hrow hb hvo hsame hat h
      go_wp2_with fail
      refine (markOpS_row B _ _ _ _ ho2 (by omega) (by omega) (by omega)).mono ?_
      rintro e w5 ⟨rfl, ho5, hg5⟩
      have hsame : ((markTo k ms j).set j (mAt k ms j, mAt k ms j + 1, ms[j].2.2))[j] = (mAt k ms j, mAt k ms j + 1, ms[j].2.2) := by simp
      have H5 : Hid (PRow B w5 (.slice (some ⟨gm, 0, none⟩) ms.length c) (markTo k ms (j + 1))) := by
        have h5 := H2.out.opsIn j hk2 (w' := w5) (by rw [hsame]; dsimp only; rw [HVO.out]; exact hg5) (L := mkO (mAt k ms j + 1 + 1) ms[j].2.2.2.length) (by rw [hsame]; dsimp only; rw [HVO.out]; exact ho5)
        simp only [hsame] at h5
        rw [HE.out] at h5
        rw [← markTo_succ k ms j hlt]
        exact h5
      have HB5 : Hid (Below B w w5) := HB2.out.grown hg5 (by have := HB2.out.size; omega) (fun q e => (ho2.lt q e).1)
      have HR5 : Hid (∀ g f, w.rowIs g 26 1 f → w5.rowIs g 26 1 f) := fun g f hr => row_kept (HR2.out g f hr) hg5 (fun e => row_ne_ops (HR2.out g f hr) ho2 (by decide) e.symm)
      clear ho5 hg5 ho2 hsame d0 d1 d2 f0 f1
      go_wp2
      go_roundg (ms.length - (j + 1))
      case measure => omega
      case rel => exact ⟨j + 1, by omega, rfl, by go_num, by rw [HS.out], H5.out, HB5.out, HR5.out⟩
    · obtain rfl : j = ms.length := by omega
      go_wp2
      go_ret
      exact ⟨rfl, hrow, hb, HRR.out⟩

end Go.Proofs.YtlbkgnmalhidmaaDoor

/-
  markProg, heldMethodS, heldProg of the exact laws, of a program in rows of its own.
-/
namespace Go.Proofs.YtlbkgnmalhidmaaDoor
open Go.RowKit

set_option maxRecDepth 100000 in
set_option maxHeartbeats 1000000 in
theorem heldMethodS_row (B : Nat) (v : Value) (ms : List MM) (k : Int) (w : World) (h : PRow B w v (markTo k ms ms.length)) (hn : ms.length ≤ 1000) (ho : ∀ m ∈ ms, m.2.2.2.length ≤ 1000) (hk0 : 0 ≤ k) (hk1 : k ≤ 1000000) :
    Calls Tryd.prog 27 #[v, .int .i64 k] w fun e w' => e = .returned (.int .i64 (mAt k ms ms.length)) ∧ w' = w := by
  have hl : (markTo k ms ms.length).length = ms.length := markTo_length _ _ _
  obtain ⟨a, c, hv⟩ := h.shape
  rw [hl] at hv
  subst hv
  have HO : Hid (∀ m ∈ ms, m.2.2.2.length ≤ 1000) := ho
  have HP : Hid (PRow B w (.slice a ms.length c) (markTo k ms ms.length)) := h
  clear ho h
  go_enter Tryd.func27, Tryd.ntmps27
  go_wp2
  go_loopg [1, 5] ms.length (fun g kv i wr => ∃ j : Nat, j ≤ ms.length ∧ g = ms.length - j ∧ i = .int .i64 j ∧ kv = .int .i64 (mAt k ms j) ∧ wr = w)
  case atStart => exact ⟨0, Nat.zero_le _, rfl, rfl, by rw [mAt_zero], rfl⟩
  case round =>
    obtain ⟨j, hj, rfl, rfl, rfl, hw⟩ := hrel
    subst hw
    have hK := mAt_le k ms HO.out j hj
    by_cases hlt : j < ms.length
    · obtain ⟨gm, c1, e1⟩ := HP.out.shape1 (by omega)
      obtain rfl : a = some ⟨gm, 0, none⟩ := by injection e1
      clear e1
      have hjl : j < (markTo k ms ms.length).length := by omega
      have hat : (markTo k ms ms.length)[j] = markM (mAt k ms j) ms[j] := by rw [markTo_at, if_pos hlt]
      obtain ⟨d0, d1, d2⟩ := MRow.cell HP.out.row j (by simpa using hjl)
      rw [PRow.ofMap hjl, hat] at d0 d1 d2
      have ho2 := HP.out.ops _ (List.getElem_mem hjl)
      rw [hat] at ho2
      unfold markM at d0 d1 d2 ho2
      dsimp only at d0 d1 d2 ho2
      have hlm : ms[j].2.2.2.length ≤ 1000 := HO.out _ (List.getElem_mem hlt)
      have HS : Hid (mAt k ms (j + 1) = mAt k ms j + 1 + 1 + 2 * (ms[j].2.2.2.length : Int)) := by show _ = _; rw [mAt_succ k ms j hlt]; unfold spanM; omega
      have hat2 := ho2.at (by rw [mkO_length]; unfold maxLen; omega)
      obtain ⟨ao, co, hvo⟩ := ho2.shape
      rw [mkO_length] at hvo
      rw [hvo] at d2 hat2
      have hjz : (j : Int) < (ms.length : Int) := by omega
      have hw1 : IntKind.i64.wrap (mAt k ms j + 1) = mAt k ms j + 1 := by rw [IntKind.wrap_i64]; omega
      have hw2 : IntKind.i64.wrap (mAt k ms j + 1 + 1) = mAt k ms j + 1 + 1 := by rw [IntKind.wrap_i64]; omega
      have hneg : ¬ (mAt k ms j + 1 + 1 + 2 * (ms[j].2.2.2.length : Int) < 0) := by omega
      clear ho2 hvo hat
      go_wp2_with fail
      refine (heldOpS_any _ _ _ _ hat2 (by omega) (by omega) (by omega)).mono ?_
      rintro e w5 ⟨rfl, h5⟩
      obtain rfl := h5.symm
      clear hat2
      go_wp2
      go_roundg (ms.length - (j + 1))
      case measure => omega
      case rel => exact ⟨j + 1, by omega, rfl, by go_num, by rw [HS.out], rfl⟩
    · obtain rfl : j = ms.length := by omega
      go_wp2
      go_ret
      exact ⟨rfl, rfl⟩

set_option maxRecDepth 100000 in
set_option maxHeartbeats 1000000 in
theorem markProg_row (B : Nat) (v : Value) (ms : List MM) (k : Int) (w : World) (hB : B ≤ w.heap.size) (h : PRow B w v ms) (hn : ms.length ≤ 1000) (ho : ∀ m ∈ ms, m.2.2.2.length ≤ 1000) (hk0 : 0 ≤ k) (hk1 : k ≤ 1000000) :
    Calls Tryd.prog 12 #[.agg #[v], .int .i64 k] w fun e w' => e = .returned (.int .i64 (mAt k ms ms.length)) ∧ PRow B w' v (markTo k ms ms.length) ∧ Below B w w' ∧ ∀ g f, w.rowIs g 26 1 f → w'.rowIs g 26 1 f := by
  obtain ⟨a, c, rfl⟩ := h.shape
  have HO : Hid (∀ m ∈ ms, m.2.2.2.length ≤ 1000) := ho
  have hA := (Below.refl w.heap.size w).alloc (Nat.le_refl _) (.cells #[.slice a ms.length c] 26)
  have hA' := hA.mono hB
  have bx : (w.alloc (.cells #[.slice a ms.length c] 26)).cell? ⟨w.heap.size, 0, none⟩ = some (.slice a ms.length c) := by simp [go_sem]
  have hP := h.below hA
  have hz := hA.size
  clear ho h
  go_enter Tryd.func12, Tryd.ntmps12
  go_wp2_with fail
  generalize w.alloc (.cells #[.slice a ms.length c] 26) = W at *
  refine (markMethodS_row B _ ms k W (by omega) hP hn HO.out hk0 hk1).mono ?_
  rintro e w5 ⟨rfl, h5, hb5, hr5⟩
  have HB : Hid (Below B w w5) := hA'.trans hb5
  have HR : Hid (∀ g f, w.rowIs g 26 1 f → w5.rowIs g 26 1 f) := fun g f hr => hr5 g f (row_below hA hr)
  clear hr5
  clear hb5 bx
  go_wp2
  go_ret
  exact ⟨rfl, h5, HB.out, HR.out⟩

set_option maxRecDepth 100000 in
set_option maxHeartbeats 1000000 in
theorem heldProg_row (B : Nat) (v : Value) (ms : List MM) (k : Int) (w : World) (h : PRow B w v (markTo k ms ms.length)) (hn : ms.length ≤ 1000) (ho : ∀ m ∈ ms, m.2.2.2.length ≤ 1000) (hk0 : 0 ≤ k) (hk1 : k ≤ 1000000) :
    Calls Tryd.prog 13 #[.agg #[v], .int .i64 k] w fun e w' => e = .returned (.int .i64 (mAt k ms ms.length)) ∧ Below w.heap.size w w' := by
  obtain ⟨a, c, hv⟩ := h.shape
  rw [markTo_length] at hv
  subst hv
  have HO : Hid (∀ m ∈ ms, m.2.2.2.length ≤ 1000) := ho
  have hA := (Below.refl w.heap.size w).alloc (Nat.le_refl _) (.cells #[.slice a ms.length c] 26)
  have bx : (w.alloc (.cells #[.slice a ms.length c] 26)).cell? ⟨w.heap.size, 0, none⟩ = some (.slice a ms.length c) := by simp [go_sem]
  have hP := h.below hA
  have hK := (mAt_le k ms ho ms.length (Nat.le_refl _)).1
  have hneg : ¬ mAt k ms ms.length < 0 := by omega
  clear ho h
  go_enter Tryd.func13, Tryd.ntmps13
  go_wp2_with fail
  generalize w.alloc (.cells #[.slice a ms.length c] 26) = W at *
  refine (heldMethodS_row B _ ms k W hP hn HO.out hk0 hk1).mono ?_
  rintro e w5 ⟨rfl, h5⟩
  obtain rfl := h5.symm
  go_wp2
  go_ret
  exact ⟨rfl, hA⟩

end Go.Proofs.YtlbkgnmalhidmaaDoor
