/-
  The program's numberText, valText and SaidText answer the plain text; they write to nothing that was there.
-/
import Derived.Test.YtileneepajcbgaaDoorSaidB
import Derived.Deep.RegionHeld3
import Derived.Deep.RegionWith

namespace Go.Proofs.YtileneepajcbgaaDoor
open Go.RowKit
theorem ret_s {x y : ByteArray} (h : x = y) : Ending.returned (.string x) = .returned (.string y) := by rw [h]
theorem numberText3_any (n : Int) (h0 : 0 ≤ n) (h1 : n < 1000) (w : World) (hp : PowAt w) :
    Calls Tryd.prog 29 #[.int .i64 n] w fun e w' => e = .returned (.string (bs (32 :: dec n))) ∧ Below w.heap.size w w' := by
  have hl' : (bs (dec n)).size ≤ 3 := by rw [bs_size]; exact dec3_le h1
  have HE : Hid (bs [32] ++ bs (dec n) = bs (32 :: dec n)) := by show _ = _; rw [bs_add]; rfl
  have HC : Hid (∀ w, PowAt w → Calls Tryd.prog 28 #[.int .i64 n] w fun e w' => e = .returned (.string (bs (dec n))) ∧ Below w.heap.size w w') := fun w hp => itoa3_any n h0 h1 w hp
  generalize bs (dec n) = D at *
  have hS : ¬ (9223372036854775807 < 1 + D.size) := by omega
  go_enter Tryd.func29, Tryd.ntmps29
  go_wp2_with (go_at_call 28; refine (HC.out _ hp).mono ?_; rintro e w' ⟨rfl, hb⟩)
  go_ret
  exact ⟨ret_s HE.out, hb⟩
set_option maxHeartbeats 1000000 in
set_option maxRecDepth 100000 in
theorem valText_any (x n : Int) (h0 : 0 ≤ n) (h1 : n < 1000) (w : World) (hp : PowAt w) :
    Calls Tryd.prog 15 #[.agg #[.int .i64 x, .int .i64 n]] w fun e w' => e = .returned (.string (bs (valText (x, n)))) ∧ Below w.heap.size w w' := by
  have hA : Below w.heap.size w (w.alloc (.cells #[.int .i64 x, .int .i64 n] 42)) := (Below.refl _ _).alloc (Nat.le_refl _) _
  have hp1 := hp.below hA
  by_cases e1 : x = 1
  · subst e1
    have HE : Hid (bs (dec n) = bs (valText (1, n))) := by show _ = _; simp [valText]
    have HC : Hid (∀ w, PowAt w → Calls Tryd.prog 28 #[.int .i64 n] w fun e w' => e = .returned (.string (bs (dec n))) ∧ Below w.heap.size w w') := fun w hp => itoa3_any n h0 h1 w hp
    generalize bs (dec n) = D at *
    go_enter Tryd.func15, Tryd.ntmps15
    go_wp2_with (go_at_call 28; refine (HC.out _ hp1).mono ?_; rintro e w' ⟨rfl, hb⟩)
    go_ret
    exact ⟨ret_s HE.out, hA.trans (hb.mono hA.size)⟩
  · by_cases e2 : x = 2
    · subst e2
      have HE : Hid (bs [99, 97, 108, 108] ++ bs (32 :: dec n) = bs (valText (2, n))) := by show _ = _; rw [bs_add]; simp [valText]
      have HC : Hid (∀ w, PowAt w → Calls Tryd.prog 29 #[.int .i64 n] w fun e w' => e = .returned (.string (bs (32 :: dec n))) ∧ Below w.heap.size w w') := fun w hp => numberText3_any n h0 h1 w hp
      have hl' : (bs (32 :: dec n)).size ≤ 4 := by rw [bs_size]; have := dec3_le h1; simp only [List.length_cons]; omega
      generalize bs (32 :: dec n) = D at *
      have hS : ¬ (9223372036854775807 < 4 + D.size) := by omega
      go_enter Tryd.func15, Tryd.ntmps15
      go_wp2_with (go_at_call 29; refine (HC.out _ hp1).mono ?_; rintro e w' ⟨rfl, hb⟩)
      go_ret
      exact ⟨ret_s HE.out, hA.trans (hb.mono hA.size)⟩
    · have HE : Hid (bs [110, 111, 110, 101] = bs (valText (x, n))) := by show _ = _; simp [valText, e1, e2]
      go_enter Tryd.func15, Tryd.ntmps15
      go_wp2
      go_ret
      exact ⟨ret_s HE.out, hA⟩
theorem own_below {B : Nat} {e : TypeId} {k : Nat} {v : Value} {n : Nat} {xs : List Value} {w w' : World} (h : w.ownsRow B e k v n xs) (hb : Below w.heap.size w w') : w'.ownsRow B e k v n xs :=
  h.kept (row := none) ⟨hb.os, hb.tape, hb.output, hb.size, fun j hj _ => hb.block j hj⟩ (by cases hv : v.ownBlock <;> simp)
theorem builderAt_below {T e : TypeId} {B b : Nat} {p : Value} {xs : List Value} {w w' : World} (h : Lib.BuilderAt T e B b p xs w) (hb : Below w.heap.size w w') : Lib.BuilderAt T e B b p xs w' := by
  have hl := h.lt
  obtain ⟨h0, v, h1, h2, h3⟩ := h
  exact ⟨h0, v, by rw [hb.block _ hl]; exact h1, own_below h2 hb, h3⟩
theorem builder_below {T e : TypeId} {B b : Nat} {xs : List Value} {w w' : World} (h : Lib.IsBuilder T e B b xs w) (hb : Below w.heap.size w w') : Lib.IsBuilder T e B b xs w' :=
  h.imp (fun h => builderAt_below h hb) fun h => builderAt_below h hb
theorem cells_bs (x y : List UInt8) : Lib.byteCells x ++ Lib.strCells (bs y) = Lib.byteCells (x ++ y) := by
  simp [Lib.byteCells, Lib.strCells, bs]
set_option maxHeartbeats 2000000 in
set_option maxRecDepth 100000 in
theorem implSaidText_any (v : Value) (l : List (Int × Int)) (w : World) (h : OpsAt w v l) (hn : l.length ≤ 2000000) (hf : ∀ x ∈ l, Few x) (hp : PowAt w) :
    Calls Tryd.prog 6 #[v] w fun e w' => e = .returned (.string (bs (saidText l))) ∧ Below w.heap.size w w' := by
  obtain ⟨a, cap, rfl, hl, hc⟩ := h
  clear hl
  have HF : Hid (∀ x ∈ l, Few x) := hf
  have hfl : ∀ k, (saidText (l.take k)).length ≤ 18000000 := fun k => by
    have := saidText_take_le (fun x hx => (hf x hx).2.2.2) k
    omega
  have HFL : Hid (∀ k, (saidText (l.take k)).length ≤ 18000000) := hfl
  clear hf hfl
  have HP : Hid (PowAt w) := hp
  clear hp
  go_enter Tryd.func6, Tryd.ntmps6
  go_wp2
  have hB0 : Below w.heap.size w (w.alloc (.cells #[.pointer none, .slice none 0 0] 45)) := (Below.refl _ _).alloc (Nat.le_refl _) _
  have hI0 := Lib.fresh_isBuilder 45 5 w
  go_loopg [8] l.length (fun g i wr => ∃ k : Nat, k ≤ l.length ∧ g = l.length - k ∧ i = .int .i64 k ∧ Lib.IsBuilder 45 5 w.heap.size w.heap.size (Lib.byteCells (saidText (l.take k))) wr ∧ Below w.heap.size w wr)
  case atStart => exact ⟨0, Nat.zero_le _, rfl, rfl, hI0, hB0⟩
  case round =>
    obtain ⟨k, hk, rfl, rfl, hI, hb⟩ := hrel
    clear hI0 hB0
    have HI : Hid (Lib.IsBuilder 45 5 w.heap.size w.heap.size (Lib.byteCells (saidText (l.take k))) wr) := hI
    clear hI
    have hsz := hb.size
    by_cases hlt : k < l.length
    · obtain ⟨b, o, rfl, c0, c1⟩ := hc k hlt
      have d0 := cell_below hb c0
      have d1 := cell_below hb c1
      clear c0 c1 hc
      have hkz : (k : Int) < (l.length : Int) := by omega
      have hF := HF.out _ (List.getElem_mem hlt)
      have HQ : Hid (saidText (l.take (k + 1)) = saidText (l.take k) ++ (valText (l[k].1, l[k].2) ++ [59])) := saidText_snoc hlt
      have zT := HFL.out k
      obtain ⟨x, hx⟩ : ∃ x, x = l[k].1 := ⟨_, rfl⟩
      obtain ⟨n, hn'⟩ : ∃ n, n = l[k].2 := ⟨_, rfl⟩
      have hF1 : 0 ≤ n ∧ n < 1000 := by rw [hn']; exact hF.2.2
      rw [← hx] at d0 HQ
      rw [← hn'] at d1 HQ
      clear hx hn' hF
      have HV : Hid (∀ w, PowAt w → Calls Tryd.prog 15 #[.agg #[.int .i64 x, .int .i64 n]] w fun e w' => e = .returned (.string (bs (valText (x, n)))) ∧ Below w.heap.size w w') := fun w hp => valText_any x n hF1.1 hF1.2 w hp
      have zV : (bs (valText (x, n))).size ≤ 8 := by rw [bs_size]; exact valText_le hF1.2
      have HS : Hid (bs (valText (x, n)) ++ bs [59] = bs (valText (x, n) ++ [59])) := by show _ = _; rw [bs_add]
      have zV2 : ¬ (9223372036854775807 < (bs (valText (x, n))).size + 1) := by omega
      generalize hV : bs (valText (x, n)) = V at *
      go_wp2_with fail
      have hA : Below wr.heap.size wr (wr.alloc (.cells #[.int .i64 x, .int .i64 n] 42)) := (Below.refl _ _).alloc (Nat.le_refl _) _
      have hb2 : Below w.heap.size w (wr.alloc (.cells #[.int .i64 x, .int .i64 n] 42)) := hb.trans (hA.mono hsz)
      have HI2 : Hid (Lib.IsBuilder 45 5 w.heap.size w.heap.size (Lib.byteCells (saidText (l.take k))) (wr.alloc (.cells #[.int .i64 x, .int .i64 n] 42))) := builder_below HI.out hA
      have hp2 := HP.out.on hb2 (Nat.le_refl _)
      clear HI hA hb d0 d1
      generalize wr.alloc (.cells #[.int .i64 x, .int .i64 n] 42) = W2 at *
      refine (HV.out _ hp2).mono ?_
      rintro e W3 ⟨rfl, hb3⟩
      have HI3 : Hid (Lib.IsBuilder 45 5 w.heap.size w.heap.size (Lib.byteCells (saidText (l.take k))) W3) := builder_below HI2.out hb3
      have hb4 : Below w.heap.size w W3 := hb2.trans (hb3.mono hb2.size)
      clear HI2 hb3 hb2 hp2
      have h4 := hb4.size
      have HW : Hid (Calls Tryd.prog 14 #[.pointer (some ⟨w.heap.size, 0, none⟩), .string (V ++ bs [59])] W3 fun e w' => e = .returned (.tuple #[.int .i64 (V ++ bs [59]).size, .nilIface]) ∧ (Lib.BuilderAt 45 5 w.heap.size w.heap.size (.pointer (some ⟨w.heap.size, 0, none⟩)) (Lib.byteCells (saidText (l.take k)) ++ Lib.strCells (V ++ bs [59])) w' ∧ Below w.heap.size W3 w')) :=
        writeString_any _ _ _ _ _ HI3.out (by rw [Lib.byteCells_length, ByteArray.size_append, bs_size]; simp only [List.length_cons, List.length_nil]; omega) h4
      clear HI3
      go_wp2_with (go_at_call 14; refine HW.out.mono ?_; rintro e W4 ⟨rfl, hI4, hb5⟩)
      have HI5 : Hid (Lib.IsBuilder 45 5 w.heap.size w.heap.size (Lib.byteCells (saidText (l.take (k + 1)))) W4) := by
        rw [HQ.out, ← cells_bs, ← HS.out]
        exact .inr hI4
      clear hI4
      go_wp2
      go_roundg (l.length - (k + 1))
      case measure => omega
      case rel => exact ⟨k + 1, by omega, rfl, by go_num, HI5.out, hb4.trans hb5⟩
    · obtain rfl : k = l.length := by omega
      rw [List.take_length] at HI
      clear hc
      go_wp2_with (go_at_call 16; refine (Tryd.Builder_String_any w.heap.size w.heap.size (saidText l) wr HI.out hsz).mono ?_; rintro e w' ⟨rfl, hb1⟩)
      go_ret
      exact ⟨rfl, hb.trans hb1⟩
end Go.Proofs.YtileneepajcbgaaDoor
