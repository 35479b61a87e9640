/-
  The program's readWord and readNumber answer the plain functions; they write to nothing.
-/
import Derived.Test.YtlbkgnmalhidmaaDoorProg
import Derived.Test.YtlbkgnmalhidmaaDoorReadText
import Derived.BigQuiet
import Derived.Deep.QuietTactic
import Derived.OwnWalk
namespace Go.Proofs.YtlbkgnmalhidmaaDoor
open Go.RowKit

theorem rd_drewN {B : Nat} {a w : World} (h : Below B a w) : ∀ n, Below B a (w.drewN n)
  | 0 => h
  | n + 1 => by
    have := rd_drewN h n
    exact ⟨this.os, this.tape, this.output, this.size, this.block⟩

theorem Tryd.runeT : Tryd.prog.underlying 50 = some (.slice 21) := Tryd.underlying50

theorem rune_size : (Tryd.prog.info? 21).map (fun i => i.size) = some 1 := by kernel_rfl

theorem run_from (w : World) (a : Option Addr) (n cap k : Nat) (hk : k ≤ n) : (Instr.slice 50 (.slice a n cap) (some (.int .i64 (k : Int))) none none).run Tryd.prog w = .ok (sliced a k n cap 1) w := by
  have hs : ∀ w, (sizeOf (Tryd.prog.elem 50)).run Tryd.prog w = .ok 1 w := fun w => by kernel_rfl
  rw [run_slice_l w 50 a n cap (by kernel_rfl) .i64 k (by omega) (by omega)]
  simp [hs, Result.andThen]

theorem run_to (w : World) (a : Option Addr) (n cap k : Nat) (hk : k ≤ cap) : (Instr.slice 50 (.slice a n cap) none (some (.int .i64 (k : Int))) none).run Tryd.prog w = .ok (sliced a 0 k cap 1) w := by
  have hs : ∀ w, (sizeOf (Tryd.prog.elem 50)).run Tryd.prog w = .ok 1 w := fun w => by kernel_rfl
  rw [run_slice_h w 50 a n cap (by kernel_rfl) .i64 k (by omega) (by omega)]
  simp [hs, Result.andThen]

theorem addr_add (b o j : Nat) : (⟨b, o, none⟩ : Addr).add j = ⟨b, o + j, none⟩ := by
  unfold Addr.add
  by_cases h : j = 0
  · subst h; simp
  · simp [h]

theorem word_of {w : World} {a : Option Addr} {n cap : Nat} {rs : List Int} (h : RunesAt w (.slice a n cap) rs) {k : Nat} (hk : k ≤ rs.length) : (convert 50 9 (sliced a 0 k cap 1)).run Tryd.prog w = .ok (.string (runesBytes (rs.take k))) w := by
  obtain ⟨a', cap', hv, hl, hm, hc⟩ := h
  cases hv
  by_cases h0 : k = 0
  · subst h0
    have e : ∃ a' c', sliced a 0 0 cap 1 = .slice a' 0 c' := ⟨_, _, rfl⟩
    obtain ⟨a', c', e⟩ := e
    rw [e]
    cases a' with
    | none =>
      rw [run_convert_runes_nil w 50 9 21 0 c' Tryd.underlying50 Tryd.underlying21 Tryd.underlying9]
      rfl
    | some x =>
      rw [run_convert_runes w 50 9 21 x 0 c' [] (by simp) Tryd.underlying50 Tryd.underlying21 Tryd.underlying9 (fun j hj => by simp at hj)]
      rfl
  · obtain ⟨b, o, rfl, _⟩ := hc 0 (by omega)
    have e : sliced (some ⟨b, o, none⟩) 0 k cap 1 = .slice (some ⟨b, o, none⟩) k cap := by
      unfold sliced
      rw [if_neg (by omega)]
      simp [Addr.add]
    rw [e, run_convert_runes w 50 9 21 ⟨b, o, none⟩ k cap rs hk Tryd.underlying50 Tryd.underlying21 Tryd.underlying9 (fun j hj => ?_)]
    obtain ⟨b', o', hbo, hj'⟩ := hc j hj
    cases hbo
    rw [addr_add]
    simpa [hj] using hj'

set_option maxRecDepth 100000 in
set_option maxHeartbeats 1000000 in
theorem readWord_any (v : Value) (rs : List Int) (w : World) (h : RunesAt w v rs) :
    Calls Tryd.prog 46 #[v] w fun e w' => ∃ u, e = .returned (.tuple #[.string (runesBytes (rs.takeWhile letter)), u]) ∧ (∀ w0, RunesAt w0 v rs → RunesAt w0 u (rs.dropWhile letter)) ∧ ∃ n, w' = w.drewN n := by
  have h0 := h
  obtain ⟨a, cap, rfl, hl, hm, hc⟩ := h
  have HO : Hid (RunesAt w (.slice a rs.length cap) rs) := h0
  clear h0
  go_enter Tryd.func46, Tryd.ntmps46
  go_wp2
  go_loopg [4] rs.length (fun g i wr => ∃ k : Nat, k ≤ rs.length ∧ g = rs.length - k ∧ i = .int .i64 k ∧ wr = w ∧ ∀ j, (hj : j < rs.length) → j < k → letter rs[j] = true)
  case atStart => exact ⟨0, Nat.zero_le _, rfl, rfl, rfl, fun j _ h => absurd h (Nat.not_lt_zero _)⟩
  case round =>
    obtain ⟨k, hk, rfl, rfl, hwr, hall⟩ := hrel
    obtain rfl := hwr.symm
    have HA : Hid (∀ j, (hj : j < rs.length) → j < k → letter rs[j] = true) := hall
    clear hall hwr
    have fin : (∀ hk : k < rs.length, letter rs[k] = false) → Hid ((∀ w0, RunesAt w0 (.slice a rs.length cap) rs → RunesAt w0 (sliced a k rs.length cap 1) (rs.dropWhile letter)) ∧ runesBytes (rs.take k) = runesBytes (rs.takeWhile letter)) := fun he => by
      obtain ⟨e1, e2⟩ := take_while_at hk HA.out he
      refine ⟨fun w0 h0 => ?_, by rw [e1]⟩
      rw [e2]
      exact h0.cut hk
    have h1 := fun w => run_from w a rs.length cap k hk
    have h2 := fun w => run_to w a rs.length cap k (by omega)
    have h3 := word_of HO.out hk
    have h4 := fun n => word_of (show RunesAt (w.drewN n) (.slice a rs.length cap) rs from HO.out) hk
    generalize sliced a k rs.length cap 1 = V1 at *
    generalize sliced a 0 k cap 1 = V0 at *
    generalize runesBytes (rs.take k) = S at *
    by_cases hlt : k < rs.length
    · obtain ⟨b, o, rfl, c0⟩ := hc k hlt
      have hkz : (k : Int) < (rs.length : Int) := by omega
      have fin := fin
      clear hc
      by_cases hlo : 97 ≤ rs[k]
      · by_cases hhi : rs[k] ≤ 122
        · have HQ : Hid (∀ j, (hj : j < rs.length) → j < k + 1 → letter rs[j] = true) := fun j hj hjk => by
            by_cases e : j = k
            · subst e; exact letter_true.2 ⟨hlo, hhi⟩
            · exact HA.out j hj (by omega)
          clear fin h1 h2 h3 h4
          go_wp2
          go_roundg (rs.length - (k + 1))
          case measure => omega
          case rel => exact ⟨k + 1, by omega, rfl, by go_num, rfl, HQ.out⟩
        · have HFin := fin (fun _ => by unfold letter; simp; omega)
          clear fin
          go_wp2_with fail
          go_quiet (fail)
          go_wp2
          go_ret2
          exact ⟨V1, by rw [← HFin.out.2]; rfl, HFin.out.1, _, rfl⟩
      · have HFin := fin (fun _ => by unfold letter; simp; omega)
        clear fin
        go_wp2_with fail
        go_quiet (fail)
        go_wp2
        go_ret2
        exact ⟨V1, by rw [← HFin.out.2]; rfl, HFin.out.1, _, rfl⟩
    · obtain rfl : k = rs.length := by omega
      have HFin := fin (fun h => absurd h (by omega))
      clear fin
      go_wp2_with fail
      go_quiet (fail)
      go_wp2
      go_ret2
      exact ⟨V1, by rw [← HFin.out.2]; rfl, HFin.out.1, _, rfl⟩

set_option maxRecDepth 100000 in
set_option maxHeartbeats 1000000 in
theorem readNumber_any (v : Value) (rs : List Int) (w : World) (h : RunesAt w v rs) :
    Calls Tryd.prog 47 #[v] w fun e w' => (∃ n, w' = w.drewN n) ∧ ∃ (n : Int) (u : Value) (b : Bool) (l : List Int), e = .returned (.tuple #[.int .i64 n, u, .bool b]) ∧
      (b = true → numP 0 rs = some (n, l) ∧ l.length < rs.length ∧ 0 ≤ n ∧ n ≤ 99 ∧ ∀ w0, RunesAt w0 v rs → RunesAt w0 u l) ∧ (b = false → numP 0 rs = none ∨ numP 0 rs = some (0, rs)) := by
  have h0 := h
  obtain ⟨a, cap, rfl, hl, hm, hc⟩ := h
  have HO : Hid (RunesAt w (.slice a rs.length cap) rs) := h0
  clear h0
  go_enter Tryd.func47, Tryd.ntmps47
  go_wp2
  go_loopg [5, 6] rs.length (fun g d i wr => ∃ (k : Nat) (n : Int), k ≤ rs.length ∧ g = rs.length - k ∧ d = .int .i64 n ∧ i = .int .i64 k ∧ wr = w ∧ 0 ≤ n ∧ n ≤ 99 ∧ (k = 0 → n = 0) ∧ numP 0 rs = numP n (rs.drop k))
  case atStart => exact ⟨0, 0, Nat.zero_le _, rfl, rfl, rfl, rfl, by omega, by omega, fun _ => rfl, rfl⟩
  case round =>
    obtain ⟨k, n, hk, rfl, rfl, rfl, hwr, hn0, hn9, hkn, hnum⟩ := hrel
    obtain rfl := hwr.symm
    have HNum : Hid (numP 0 rs = numP n (rs.drop k)) := hnum
    have HKN : Hid (k = 0 → n = 0) := hkn
    clear hnum hwr hkn
    have fin : (∀ hk : k < rs.length, digit rs[k] = false) → Hid ((decide (0 < k) = true → numP 0 rs = some (n, rs.drop k) ∧ (rs.drop k).length < rs.length ∧ 0 ≤ n ∧ n ≤ 99 ∧ ∀ w0, RunesAt w0 (.slice a rs.length cap) rs → RunesAt w0 (sliced a k rs.length cap 1) (rs.drop k)) ∧ (decide (0 < k) = false → numP 0 rs = none ∨ numP 0 rs = some (0, rs))) := fun he => by
      have e : numP 0 rs = some (n, rs.drop k) := by
        rw [HNum.out, numP_stop]
        intro r l hrl
        have hlt : k < rs.length := by
          have := congrArg List.length hrl
          simp at this
          omega
        rw [drop_at hlt] at hrl
        injection hrl with h1 _
        rw [← h1]; exact he hlt
      refine ⟨fun h => ⟨e, by simp at h; simp; omega, hn0, hn9, fun w0 h0 => h0.cut hk⟩, fun h => ?_⟩
      have hk0 : k = 0 := by simp at h; omega
      rw [e, HKN.out hk0, hk0]
      exact .inr rfl
    have h1 := fun w => run_from w a rs.length cap k hk
    generalize sliced a k rs.length cap 1 = V1 at *
    by_cases hlt : k < rs.length
    · obtain ⟨b, o, rfl, c0⟩ := hc k hlt
      have hkz : (k : Int) < (rs.length : Int) := by omega
      clear hc
      have HD : Hid (numP 0 rs = numP n (rs[k] :: rs.drop (k + 1))) := by rw [← drop_at hlt]; exact HNum.out
      by_cases hlo : 48 ≤ rs[k]
      · by_cases hhi : rs[k] ≤ 57
        · clear fin h1
          have hdg : digit rs[k] = true := digit_true.2 ⟨hlo, hhi⟩
          have HB : Hid (99 < n * 10 + (rs[k] - 48) → numP 0 rs = none) := fun h => by rw [HD.out, numP_big hdg h]
          have HC : Hid (¬ 99 < n * 10 + (rs[k] - 48) → numP 0 rs = numP (n * 10 + (rs[k] - 48)) (rs.drop (k + 1))) := fun h => by rw [HD.out, numP_next hdg h]
          generalize rs[k] = r at *
          clear hdg HD HNum
          by_cases hbig : 99 < n * 10 + (r - 48)
          · have HE := HB.out hbig
            have HE' : Hid (numP 0 rs = none) := HE
            clear HE HB HC
            go_wp2
            go_ret3
            exact ⟨⟨0, rfl⟩, 0, .slice none 0 0, false, [], rfl, (fun h => by cases h), fun _ => .inl HE'.out⟩
          · have HE' : Hid (numP 0 rs = numP (n * 10 + (r - 48)) (rs.drop (k + 1))) := HC.out hbig
            clear HB HC
            go_wp2
            go_roundg (rs.length - (k + 1))
            case measure => omega
            case rel => exact ⟨k + 1, n * 10 + (r - 48), by omega, rfl, rfl, by go_num, rfl, by omega, by omega, by omega, HE'.out⟩
        · have HFin := fin (fun _ => by unfold digit; simp; omega)
          clear fin HD
          go_wp2_with fail
          go_quiet (fail)
          go_wp2
          go_ret3
          exact ⟨⟨_, rfl⟩, n, V1, _, rs.drop k, rfl, HFin.out.1, HFin.out.2⟩
      · have HFin := fin (fun _ => by unfold digit; simp; omega)
        clear fin HD
        go_wp2_with fail
        go_quiet (fail)
        go_wp2
        go_ret3
        exact ⟨⟨_, rfl⟩, n, V1, _, rs.drop k, rfl, HFin.out.1, HFin.out.2⟩
    · obtain rfl : k = rs.length := by omega
      have HFin := fin (fun h => absurd h (by omega))
      clear fin
      go_wp2_with fail
      go_quiet (fail)
      go_wp2
      go_ret3
      exact ⟨⟨_, rfl⟩, n, V1, _, rs.drop rs.length, rfl, HFin.out.1, HFin.out.2⟩

end Go.Proofs.YtlbkgnmalhidmaaDoor
