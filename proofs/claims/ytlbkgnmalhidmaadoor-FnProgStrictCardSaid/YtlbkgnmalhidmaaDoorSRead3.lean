/-
  The model's l1Hear answers the plain functions; it writes to nothing that was there.
-/
import Derived.Test.YtlbkgnmalhidmaaDoorSRead2
import Derived.Test.YtlbkgnmalhidmaaDoorTextSpec1
import Derived.Test.YtlbkgnmalhidmaaDoorReadImpl3
namespace Go.Proofs.YtlbkgnmalhidmaaDoor
open Go.RowKit

/-- strings in memory -/
def StrsAt (w : World) (g : Nat) (ss : List ByteArray) : Prop := ∀ i, (h : i < ss.length) → w.cell? ⟨g, i, none⟩ = some (.string ss[i])

theorem StrsAt.below {w w' : World} {g : Nat} {ss : List ByteArray} (h : StrsAt w g ss) (hb : Below w.heap.size w w') : StrsAt w' g ss := fun i hi => cell_below hb (h i hi)

theorem StrRow.at {B : Nat} {w : World} {v : Value} {ss : List ByteArray} (h : StrRow B w v ss) (hn : 1 ≤ ss.length) : ∃ g c, v = .slice (some ⟨g, 0, none⟩) ss.length c ∧ B ≤ g ∧ StrsAt w g ss := by
  rcases id h.2 with ⟨_, h2⟩ | ⟨g, cap, cur, h1, h2, _⟩
  · omega
  · refine ⟨g, cap, h1, h2, fun i hi => ?_⟩
    have := World.ownsRow.cells h (g := g) (by rw [h1]; rfl) i (.string ss[i]) (by simp [hi])
    rwa [Addr.add_lit, Nat.zero_add] at this

/-- the kind of a word among those below k -/
def KindTo (k : Nat) (S : List UInt8) (q : Nat) : Prop := (q = 0 ∧ ∀ j : Nat, 1 ≤ j → j < k → wordOf j ≠ S) ∨ (1 ≤ q ∧ q < k ∧ wordOf q = S)

theorem KindTo.same {k : Nat} {S : List UInt8} {q : Nat} (h : KindTo k S q) (hk : wordOf k ≠ S) : KindTo (k + 1) S q := by
  rcases h with ⟨h1, h2⟩ | ⟨h1, h2, h3⟩
  · refine .inl ⟨h1, fun j hj1 hj2 => ?_⟩
    by_cases e : j = k
    · subst e; exact hk
    · exact h2 j hj1 (by omega)
  · exact .inr ⟨h1, by omega, h3⟩

def opRow (q : Nat) (a : Int) (i : Nat) : Value := if i = 0 then .int .i64 q else .int .i64 a

/-- what l1Hear tells -/
def HearEnd (ss : List ByteArray) (e : Ending) : Prop := ∃ (q : Nat) (a : Int), e = .returned (.agg #[.int .i64 q, .int .i64 a]) ∧ KindTo 19 (ss.getD 0 ByteArray.empty).toList q ∧ (ss.length = 1 → a = 0) ∧ (1 < ss.length → a = numS 0 (ss.getD 1 ByteArray.empty).toList)

set_option maxRecDepth 100000 in
set_option maxHeartbeats 2000000 in
theorem l1Hear_any (g c : Nat) (ss : List ByteArray) (hn : 1 ≤ ss.length) (hl : ss.length ≤ 2000000) (hz : ∀ s ∈ ss, s.size ≤ 2000000) (w : World) (h : StrsAt w g ss) :
    Calls Tryd.prog 21 #[.slice (some ⟨g, 0, none⟩) ss.length c] w fun e w' => Below w.heap.size w w' ∧ HearEnd ss e := by
  have HO : Hid (StrsAt w g ss) := h
  have HZ : Hid (∀ s ∈ ss, s.size ≤ 2000000) := hz
  have hA : Below w.heap.size w ((w.alloc (.cells #[.int .i64 0, .int .i64 0] 47)).alloc (.cells #[.int .i64 0, .int .i64 0] 47)) := ((Below.refl _ _).alloc (Nat.le_refl _) _).alloc (by simp) _
  have r0 : ((w.alloc (.cells #[.int .i64 0, .int .i64 0] 47)).alloc (.cells #[.int .i64 0, .int .i64 0] 47)).rowIs w.heap.size 47 2 (opRow 0 0) := by
    refine World.rowIs.alloc ⟨_, Go.Deep.blk_alloc_new w _, rfl, fun i hi => ?_⟩ _
    match i, hi with | 0, _ => rfl | 1, _ => rfl
  have r1 : ((w.alloc (.cells #[.int .i64 0, .int .i64 0] 47)).alloc (.cells #[.int .i64 0, .int .i64 0] 47)).rowIs (w.heap.size + 1) 47 2 (opRow 0 0) := by
    have := Go.Deep.blk_alloc_new (w.alloc (.cells #[.int .i64 0, .int .i64 0] 47)) (.cells #[.int .i64 0, .int .i64 0] 47)
    refine ⟨_, by simpa using this, rfl, fun i hi => ?_⟩
    match i, hi with | 0, _ => rfl | 1, _ => rfl
  have hn0 : 0 < ss.length := by omega
  clear h hz
  go_enter Tryd.func21, Tryd.ntmps21
  go_wp2
  generalize (w.alloc (.cells #[.int .i64 0, .int .i64 0] 47)).alloc (.cells #[.int .i64 0, .int .i64 0] 47) = W at *
  go_loopg [4] 18 (fun d i wr => ∃ (k q : Nat), 1 ≤ k ∧ k ≤ 19 ∧ d = 19 - k ∧ i = .int .i64 k ∧ KindTo k ss[0].toList q ∧ wr.rowIs w.heap.size 47 2 (opRow 0 0) ∧ wr.rowIs (w.heap.size + 1) 47 2 (opRow q 0) ∧ Below w.heap.size w wr)
  case atStart => exact ⟨1, 0, by omega, by omega, rfl, rfl, .inl ⟨rfl, fun j h1 h2 => absurd h1 (by omega)⟩, r0, r1, hA⟩
  case round =>
    obtain ⟨k, q, hk1, hk, rfl, rfl, hkt, s0, s1, hb⟩ := hrel
    have HK : Hid (KindTo k ss[0].toList q) := hkt
    have hsz := hb.size
    have c0 := HO.out.below hb 0 hn0
    clear hkt r0 r1 hA
    by_cases hlt : k ≤ 18
    · have hkz : (k : Int) ≤ 18 := by omega
      have hkz' : (k : Int) < 19 := by omega
      have HW : Hid (∀ w, Calls Tryd.prog 32 #[] w fun e w' => e = .returned (.slice (some ⟨w.heap.size, 0, none⟩) 19 19) ∧ Below w.heap.size w w' ∧ w'.cell? ⟨w.heap.size, k, none⟩ = some (.string (bs (wordOf k)))) := fun w => (l1Words_any w).mono fun e w' ⟨e1, e2, e3⟩ => ⟨e1, e2, e3 k (by omega)⟩
      have HX : Hid ((bs (wordOf k)).toList = wordOf k) := bs_list _
      generalize bs (wordOf k) = A at *
      have HS0 : Hid (KindTo k ss[0].toList q) := HK.out
      generalize ss[0] = S0 at *
      go_wp2_with fail
      cases hq : (A.toList == S0.toList)
      · have HE : Hid (KindTo (k + 1) S0.toList q) := HK.out.same (by rw [← HX.out]; simpa using hq)
        go_region_with (go_at_call 32; refine (HW.out _).mono ?_; rintro e w2 ⟨rfl, hb2, cW⟩; have c0 := cell_below hb2 c0; have cW : w2.cell? ⟨wr.heap.size, k, none⟩ = some (.string A) := cW)
        all_goals
          have hb3 : Below w.heap.size w w2 := hb.drew.trans (hb2.mono hsz)
          have t0 := row_below hb2 s0
          have t1 := row_below hb2 s1
          clear hb2 cW
          go_wp2
          go_roundg (19 - (k + 1))
          case measure => omega
          case rel => exact ⟨k + 1, q, by omega, by omega, rfl, by go_num, HE.out, t0, t1, hb3⟩
      · have HE : Hid (KindTo (k + 1) S0.toList k) := .inr ⟨hk1, by omega, by rw [← HX.out]; simpa using hq⟩
        go_region_with (go_at_call 32; refine (HW.out _).mono ?_; rintro e w2 ⟨rfl, hb2, cW⟩; have c0 := cell_below hb2 c0; have cW : w2.cell? ⟨wr.heap.size, k, none⟩ = some (.string A) := cW)
        all_goals
          have hb3 : Below w.heap.size w w2 := hb.drew.trans (hb2.mono hsz)
          have t0 := row_below hb2 s0
          have t1 := row_below hb2 s1
          have m1 := t1.cell (i := 0) (by decide)
          have f1 := t1.frozen 0
          have t0' := row_kept t0 (grown_set w2 (w.heap.size + 1) 0 (.int .i64 k)) (by simp)
          have t1' : (w2.setCell ⟨w.heap.size + 1, 0, none⟩ (.int .i64 k)).rowIs (w.heap.size + 1) 47 2 (opRow k 0) := (t1.set 0 _).congr (fun i hi => by match i, hi with | 0, _ => rfl | 1, _ => rfl)
          have hb4 := hb3.setCell (p := ⟨w.heap.size + 1, 0, none⟩) (Nat.le_succ _) (.int .i64 k)
          clear hb2 cW
          go_wp2
          go_roundg (19 - (k + 1))
          case measure => omega
          case rel => exact ⟨k + 1, k, by omega, by omega, rfl, by go_num, HE.out, t0', t1', hb4⟩
    · obtain rfl : k = 19 := by omega
      have m0 : wr.cell? ⟨w.heap.size + 1, 0, none⟩ = some (.int .i64 q) := s1.cell (i := 0) (by decide)
      have m1 : wr.cell? ⟨w.heap.size + 1, 1, none⟩ = some (.int .i64 0) := s1.cell (i := 1) (by decide)
      have n0 : wr.cell? ⟨w.heap.size, 0, none⟩ = some (.int .i64 0) := s0.cell (i := 0) (by decide)
      have n1 : wr.cell? ⟨w.heap.size, 1, none⟩ = some (.int .i64 0) := s0.cell (i := 1) (by decide)
      have f0 := s0.frozen 0
      have f1 := s0.frozen 1
      have g1 := s1.frozen 1
      by_cases h2 : 1 < ss.length
      · have h2' : (1 : Int) < (ss.length : Int) := by omega
        have c1 := HO.out.below hb 1 h2
        have hs1 := HZ.out ss[1] (List.getElem_mem h2)
        go_wp2_with (go_at_call 20; refine (l1Num_any _ hs1 _).mono ?_; rintro e w2 ⟨rfl, hw2⟩; obtain rfl := hw2.symm)
        have HF : Hid (KindTo 19 (ss.getD 0 ByteArray.empty).toList q ∧ (ss.length = 1 → numS 0 ss[1].toList = 0) ∧ (1 < ss.length → numS 0 ss[1].toList = numS 0 (ss.getD 1 ByteArray.empty).toList)) := ⟨by have := HK.out; simpa [hn0] using this, fun h => by omega, fun _ => by simp [h2]⟩
        generalize numS 0 ss[1].toList = nn at *
        have a1 := row_kept s0 (grown_set wr (w.heap.size + 1) 1 (.int .i64 nn)) (by simp)
        have a2 := (a1.set 0 (.int .i64 q)).set 1 (.int .i64 nn)
        have d0 := a2.cell (i := 0) (by decide)
        have d1 := a2.cell (i := 1) (by decide)
        have hb7 := ((hb.setCell (p := ⟨w.heap.size + 1, 1, none⟩) (Nat.le_succ _) (.int .i64 nn)).setCell (p := ⟨w.heap.size, 0, none⟩) (Nat.le_refl _) (.int .i64 q)).setCell (p := ⟨w.heap.size, 1, none⟩) (Nat.le_refl _) (.int .i64 nn)
        generalize ((wr.setCell ⟨w.heap.size + 1, 1, none⟩ (.int .i64 nn)).setCell ⟨w.heap.size, 0, none⟩ (.int .i64 q)).setCell ⟨w.heap.size, 1, none⟩ (.int .i64 nn) = wF at *
        simp at d0 d1
        refine bodyPost_ret (v := .agg #[.int .i64 q, .int .i64 nn]) (by simp [results, Tryd.results21, go_sem, d0, d1]) rfl ?_
        exact ⟨hb7, q, nn, rfl, HF.out⟩
      · have h2' : ¬ (1 : Int) < (ss.length : Int) := by omega
        have HF : Hid (KindTo 19 (ss.getD 0 ByteArray.empty).toList q ∧ (ss.length = 1 → (0 : Int) = 0) ∧ (1 < ss.length → (0 : Int) = numS 0 (ss.getD 1 ByteArray.empty).toList)) := ⟨by have := HK.out; simpa [hn0] using this, fun _ => rfl, fun h => absurd h h2⟩
        have a2 := (s0.set 0 (.int .i64 q)).set 1 (.int .i64 0)
        have d0 := a2.cell (i := 0) (by decide)
        have d1 := a2.cell (i := 1) (by decide)
        have hb7 := (hb.setCell (p := ⟨w.heap.size, 0, none⟩) (Nat.le_refl _) (.int .i64 q)).setCell (p := ⟨w.heap.size, 1, none⟩) (Nat.le_refl _) (.int .i64 0)
        go_wp2
        generalize (wr.setCell ⟨w.heap.size, 0, none⟩ (.int .i64 q)).setCell ⟨w.heap.size, 1, none⟩ (.int .i64 0) = wF at *
        simp at d0 d1
        refine bodyPost_ret (v := .agg #[.int .i64 q, .int .i64 0]) (by simp [results, Tryd.results21, go_sem, d0, d1]) rfl ?_
        exact ⟨hb7, q, 0, rfl, HF.out.1, fun _ => rfl, fun h => absurd h h2⟩

end Go.Proofs.YtlbkgnmalhidmaaDoor
