/-
  What draws: DrawProgRead draws a text, some spoilt.
-/
import Derived.Test.YtlbkgnmalhidmaaDoorDrawAny
import Derived.Test.YtlbkgnmalhidmaaDoorTextSpec2
import Derived.Test.YtlbkgnmalhidmaaDoorReadImpl8
import Derived.Test.YtlbkgnmalhidmaaDoorSRead3
namespace Go.Proofs.YtlbkgnmalhidmaaDoor
open Go.RowKit

set_option maxRecDepth 100000 in
set_option maxHeartbeats 1000000 in
theorem of_any (w : World) (b : Nat) (a : Option Addr) (len cap p : Nat) (g c : Nat) (ss : List ByteArray) (hr : Rd w b a len cap p) (hp : p ≤ 1000000) (h1 : 1 ≤ ss.length) (h2 : ss.length ≤ 1000000) (hs : StrsAt w g ss) (hg : g ≠ b) :
    Calls Tryd.prog 18 #[.pointer (some ⟨b, 0, none⟩), .slice (some ⟨g, 0, none⟩) ss.length c] w fun e w' => ∃ s ∈ ss, e = .returned (.string s) ∧ Rd w' b a len cap (p + 1) ∧ w.grownBy w' (some b) := by
  have HS : Hid (StrsAt w g ss) := hs
  clear hs
  go_enter Tryd.func18, Tryd.ntmps18
  go_wp2_with fail
  refine (pick_any w b a len cap p _ hr hp (by omega) (by omega)).mono ?_
  rintro e w1 ⟨x, rfl, hx0, hx1, hr1, hg1⟩
  obtain ⟨n, rfl⟩ := Int.eq_ofNat_of_zero_le hx0
  have hn : n < ss.length := by omega
  have c1 : w1.cell? ⟨g, n, none⟩ = some (.string ss[n]) := hg1.cell (HS.out n hn) (by simpa using hg)
  have HM : Hid (ss[n] ∈ ss) := List.getElem_mem hn
  go_wp2
  go_ret
  exact ⟨_, HM.out, rfl, hr1, hg1⟩

theorem strs_new (w : World) (ss : List ByteArray) : StrsAt (w.alloc (.cells (ss.map Value.string).toArray 9)).drew w.heap.size ss := fun i hi => by
  have := World.news_of_block (w := (w.alloc (.cells (ss.map Value.string).toArray 9)).drew) (Go.Deep.blk_alloc_new w _) i (.string ss[i]) (by simp [hi])
  rwa [Addr.add_lit, Nat.zero_add] at this

def fiveS : List ByteArray := [⟨#[32]⟩, ⟨#[10]⟩, ⟨#[48]⟩, ⟨#[57]⟩, ⟨#[120]⟩]
def nineS : List ByteArray := [⟨#[]⟩, ⟨#[109, 101, 116, 104, 111, 100, 32, 48, 32, 48]⟩, ⟨#[114, 101, 116, 10]⟩, ⟨#[109, 101, 116, 104, 111, 100, 32, 48, 32, 53, 10]⟩, ⟨#[109, 101, 116, 104, 111, 100, 32, 49, 32, 49, 10]⟩, ⟨#[109, 101, 116, 104, 111, 100, 32, 48, 32, 48, 10, 110, 117, 109, 32, 49, 48, 48, 10]⟩, ⟨#[109, 101, 116, 104, 111, 100, 32, 48, 32, 48, 10, 122, 101, 114, 111, 10]⟩, ⟨#[109, 101, 116, 104, 111, 100, 32, 48, 32, 48, 10, 99, 97, 108, 108, 32, 49, 10]⟩, ⟨#[109, 101, 116, 104, 111, 100, 32, 48, 32, 48, 10, 97, 100, 100, 32, 49, 10]⟩]
theorem five_small : ∀ s ∈ fiveS, s.size ≤ 40 := by decide
theorem nine_small : ∀ s ∈ nineS, s.size ≤ 40 := by decide

theorem text_size (ps : List Meth) : (bs (textProg ps)).size ≤ 700 := by
  have h : (bs (textProg ps)).toList.length = (bs (textProg ps)).size := by rw [ByteArray.toList_eq, Array.length_toList]; rfl
  rw [← h, bs_list]
  cases hp : progOk ps
  · rw [textProg_none hp]; simp
  · exact ok_len hp

set_option maxRecDepth 100000 in
set_option maxHeartbeats 2000000 in
theorem drawProgRead_any (w : World) (a : Option Addr) (len cap : Nat) (h : BytesAt w a len cap) :
    Calls Tryd.prog 5 #[.slice a len cap] w fun e w' => ∃ T : ByteArray, e = .returned (.string T) ∧ T.size ≤ 1048576 ∧ Below w.heap.size w w' := by
  go_enter Tryd.func5, Tryd.ntmps5
  go_wp2_with fail
  refine (l6Open_any _ a len cap h).mono ?_
  rintro e w2 ⟨n, rfl, hr2, z2, B2⟩
  go_wp2_with fail
  refine (l71Prog_any _ _ _ _ _ _ hr2 (by omega)).mono ?_
  rintro e w3 ⟨v, ms, p3, rfl, P3, hm1, hm2, hmm, hp3, hq3, hr3, hg3⟩
  have B3 : Below w.heap.size w w3 := B2.grown hg3 (by omega) (fun k e => by cases e; omega)
  have z3 := hg3.size
  have M3 := P3.meths (by unfold maxLen; omega) (fun m hm => by have := hmm m hm; unfold mmOk at this; unfold maxLen; omega)
  clear B2 hr2 hg3 P3 hmm
  go_wp2_with fail
  refine (specProgText_any _ (plainOf ms) _ M3).mono ?_
  rintro e w4 ⟨rfl, b4⟩
  have HR4 : Hid (Rd w4 w.heap.size a n cap p3) := hr3.kept hr3 (Nat.le_refl _) (below_grown b4 none) (fun g e => by cases e)
  have B4 := B3.trans (b4.mono B3.size)
  have z4 := B4.size
  have hX := text_size (plainOf ms)
  clear b4 hr3 B3 M3 hm1 hm2 z3
  generalize bs (textProg (plainOf ms)) = X at *
  go_wp2_with fail
  refine (pick_any w4 _ _ _ _ _ _ HR4.out (by omega) (by omega) (by omega)).mono ?_
  rintro e w5 ⟨x, rfl, hx0, hx1, hr5, hg5⟩
  have HR5 : Hid (Rd w5 w.heap.size a n cap (p3 + 1)) := hr5
  have B5 : Below w.heap.size w w5 := B4.grown hg5 (by omega) (fun k e => by cases e; omega)
  have z5 := B5.size
  clear hr5 hg5 B4 z4 HR4
  by_cases hx : x = 0
  · subst hx
    go_wp2
    go_ret
    exact ⟨_, rfl, by omega, B5⟩
  have hx' : (x == 0) = false := by simpa using hx
  cases hem : (X.toList == [])
  case true =>
    go_wp2
    go_ret
    exact ⟨_, rfl, by omega, B5⟩
  have hX1 : 1 ≤ X.size := by
    rcases Nat.eq_zero_or_pos X.size with e | e
    · have : X.toList.length = X.size := by rw [ByteArray.toList_eq, Array.length_toList]; rfl
      rw [e] at this
      rw [List.length_eq_zero_iff.1 this] at hem
      simp at hem
    · exact e
  go_wp2_with fail
  refine (pick_any w5 _ _ _ _ _ _ HR5.out (by omega) (by omega) (by omega)).mono ?_
  rintro e w6 ⟨y, rfl, hy0, hy1, hr6, hg6⟩
  have HR6 : Hid (Rd w6 w.heap.size a n cap (p3 + 1 + 1)) := hr6
  have B6 : Below w.heap.size w w6 := B5.grown hg6 (by omega) (fun k e => by cases e; omega)
  have z6 := B6.size
  clear hr6 hg6 B5 z5 HR5
  obtain ⟨i, rfl⟩ := Int.eq_ofNat_of_zero_le hy0
  go_wp2_with fail
  refine (pick_any w6 _ _ _ _ _ _ HR6.out (by omega) (by omega) (by omega)).mono ?_
  rintro e w7 ⟨q, rfl, hq0, hq1, hr7, hg7⟩
  have HR7 : Hid (Rd w7 w.heap.size a n cap (p3 + 1 + 1 + 1)) := hr7
  have B7 : Below w.heap.size w w7 := B6.grown hg7 (by omega) (fun k e => by cases e; omega)
  have z7 := B7.size
  clear hr7 hg7 B6 z6 HR6
  have hi1 : IntKind.i64.wrap ((i : Int) + 1) = (i : Int) + 1 := by rw [IntKind.wrap_i64]; omega
  have hi2 : (i : Int) ≤ (X.size : Int) := by omega
  have hi3 : (i : Int) + 1 ≤ (X.size : Int) := by omega
  have hi4 : 0 ≤ (i : Int) + 1 := by omega
  have hw7 : w.heap.size < w7.heap.size := World.block_lt_of_cell? _ _ HR7.out.s
  have hRA : ∀ o, Rd (w7.alloc o).drew w.heap.size a n cap (p3 + 1 + 1 + 1) := fun o => Rd.heap (HR7.out.alloc o) rfl
  have hBA : ∀ o, Below w.heap.size w (w7.alloc o).drew := fun o => (B7.alloc z7 o).drew
  by_cases hq : q = 0
  · subst hq
    have hsz : ¬ 9223372036854775807 < min i X.size + (X.size - (i + 1)) := by omega
    go_wp2
    go_region
    all_goals
      go_wp2
      go_ret
      exact ⟨_, rfl, by simp; omega, B7.drew⟩
  have hq' : (q == 0) = false := by simpa using hq
  by_cases hq1 : q = 1
  · subst hq1
    have HRA : Hid (Rd (w7.alloc (.cells #[.string ⟨#[32]⟩, .string ⟨#[10]⟩, .string ⟨#[48]⟩, .string ⟨#[57]⟩, .string ⟨#[120]⟩] 9)).drew w.heap.size a n cap (p3 + 1 + 1 + 1)) := hRA _
    have HSA : Hid (StrsAt (w7.alloc (.cells #[.string ⟨#[32]⟩, .string ⟨#[10]⟩, .string ⟨#[48]⟩, .string ⟨#[57]⟩, .string ⟨#[120]⟩] 9)).drew w7.heap.size fiveS) := strs_new w7 fiveS
    have HBA : Hid (Below w.heap.size w (w7.alloc (.cells #[.string ⟨#[32]⟩, .string ⟨#[10]⟩, .string ⟨#[48]⟩, .string ⟨#[57]⟩, .string ⟨#[120]⟩] 9)).drew) := hBA _
    have HF : Hid (∀ s ∈ fiveS, s.size ≤ 40 ∧ ¬ 9223372036854775807 < min i X.size + s.size ∧ ¬ 9223372036854775807 < min i X.size + s.size + (X.size - i)) := fun s hs => by have := five_small s hs; omega
    clear hRA hBA
    have HC : Hid (Calls Tryd.prog 18 #[.pointer (some ⟨w.heap.size, 0, none⟩), .slice (some ⟨w7.heap.size, 0, none⟩) 5 5] (w7.alloc (.cells #[.string ⟨#[32]⟩, .string ⟨#[10]⟩, .string ⟨#[48]⟩, .string ⟨#[57]⟩, .string ⟨#[120]⟩] 9)).drew fun e w' => ∃ s ∈ fiveS, e = .returned (.string s) ∧ Rd w' w.heap.size a n cap (p3 + 1 + 1 + 1 + 1) ∧ World.grownBy (w7.alloc (.cells #[.string ⟨#[32]⟩, .string ⟨#[10]⟩, .string ⟨#[48]⟩, .string ⟨#[57]⟩, .string ⟨#[120]⟩] 9)).drew w' (some w.heap.size)) := of_any _ _ _ _ _ _ w7.heap.size 5 fiveS HRA.out (by omega) (by decide) (by decide) HSA.out (by omega)
    go_wp2
    go_region_with (go_at_call 18; refine HC.out.mono ?_; rintro e w8 ⟨s, hs, rfl, hr8, hg8⟩; obtain ⟨hs', hs1, hs2⟩ := HF.out s hs)
    all_goals
      have B8 : Below w.heap.size w w8 := HBA.out.grown hg8 (by have := HBA.out.size; omega) (fun k e => by cases e; omega)
      go_wp2
      go_ret
      exact ⟨_, rfl, by simp; omega, B8⟩
  have hq1' : (q == 1) = false := by simpa using hq1
  by_cases hq2 : q = 2
  · subst hq2
    have HRA : Hid (Rd (w7.alloc (.cells #[.string ⟨#[]⟩, .string ⟨#[109, 101, 116, 104, 111, 100, 32, 48, 32, 48]⟩, .string ⟨#[114, 101, 116, 10]⟩, .string ⟨#[109, 101, 116, 104, 111, 100, 32, 48, 32, 53, 10]⟩, .string ⟨#[109, 101, 116, 104, 111, 100, 32, 49, 32, 49, 10]⟩, .string ⟨#[109, 101, 116, 104, 111, 100, 32, 48, 32, 48, 10, 110, 117, 109, 32, 49, 48, 48, 10]⟩, .string ⟨#[109, 101, 116, 104, 111, 100, 32, 48, 32, 48, 10, 122, 101, 114, 111, 10]⟩, .string ⟨#[109, 101, 116, 104, 111, 100, 32, 48, 32, 48, 10, 99, 97, 108, 108, 32, 49, 10]⟩, .string ⟨#[109, 101, 116, 104, 111, 100, 32, 48, 32, 48, 10, 97, 100, 100, 32, 49, 10]⟩] 9)) w.heap.size a n cap (p3 + 1 + 1 + 1)) := HR7.out.alloc _
    have HSA : Hid (StrsAt (w7.alloc (.cells #[.string ⟨#[]⟩, .string ⟨#[109, 101, 116, 104, 111, 100, 32, 48, 32, 48]⟩, .string ⟨#[114, 101, 116, 10]⟩, .string ⟨#[109, 101, 116, 104, 111, 100, 32, 48, 32, 53, 10]⟩, .string ⟨#[109, 101, 116, 104, 111, 100, 32, 49, 32, 49, 10]⟩, .string ⟨#[109, 101, 116, 104, 111, 100, 32, 48, 32, 48, 10, 110, 117, 109, 32, 49, 48, 48, 10]⟩, .string ⟨#[109, 101, 116, 104, 111, 100, 32, 48, 32, 48, 10, 122, 101, 114, 111, 10]⟩, .string ⟨#[109, 101, 116, 104, 111, 100, 32, 48, 32, 48, 10, 99, 97, 108, 108, 32, 49, 10]⟩, .string ⟨#[109, 101, 116, 104, 111, 100, 32, 48, 32, 48, 10, 97, 100, 100, 32, 49, 10]⟩] 9)) w7.heap.size nineS) := strs_new w7 nineS
    have HBA : Hid (Below w.heap.size w (w7.alloc (.cells #[.string ⟨#[]⟩, .string ⟨#[109, 101, 116, 104, 111, 100, 32, 48, 32, 48]⟩, .string ⟨#[114, 101, 116, 10]⟩, .string ⟨#[109, 101, 116, 104, 111, 100, 32, 48, 32, 53, 10]⟩, .string ⟨#[109, 101, 116, 104, 111, 100, 32, 49, 32, 49, 10]⟩, .string ⟨#[109, 101, 116, 104, 111, 100, 32, 48, 32, 48, 10, 110, 117, 109, 32, 49, 48, 48, 10]⟩, .string ⟨#[109, 101, 116, 104, 111, 100, 32, 48, 32, 48, 10, 122, 101, 114, 111, 10]⟩, .string ⟨#[109, 101, 116, 104, 111, 100, 32, 48, 32, 48, 10, 99, 97, 108, 108, 32, 49, 10]⟩, .string ⟨#[109, 101, 116, 104, 111, 100, 32, 48, 32, 48, 10, 97, 100, 100, 32, 49, 10]⟩] 9))) := B7.alloc z7 _
    clear hRA hBA
    go_wp2_with fail
    refine (of_any _ _ _ _ _ _ w7.heap.size 9 nineS HRA.out (by omega) (by decide) (by decide) HSA.out (by omega)).mono ?_
    rintro e w8 ⟨s, hs, rfl, hr8, hg8⟩
    have hs' := nine_small s hs
    have B8 : Below w.heap.size w w8 := HBA.out.grown hg8 (by have := HBA.out.size; omega) (fun k e => by cases e; omega)
    clear hs hr8 hg8
    go_wp2
    go_ret
    exact ⟨_, rfl, by omega, B8⟩
  have hq2' : (q == 2) = false := by simpa using hq2
  go_wp2
  go_ret
  exact ⟨_, rfl, by simp; omega, B7⟩

end Go.Proofs.YtlbkgnmalhidmaaDoor
