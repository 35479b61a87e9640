import Derived.Test.YtlbkgnmalhidmaaDoorProg
import Derived.Test.YtlbkgnmalhidmaaDoorReadText
import Derived.Test.YtlbkgnmalhidmaaDoorDraw9
import Derived.Lib.Strings

/-
  The model's l1Num answers a plain function; it writes to nothing.
-/
namespace Go.Proofs.YtlbkgnmalhidmaaDoor
open Go.RowKit

/-- a digit, as a byte -/
def digB (c : UInt8) : Bool := decide (48 ≤ c.toNat) && decide (c.toNat ≤ 57)

/-- digits are taken one behind the other, what is none is passed by; till it is large -/
def numS : Int → List UInt8 → Int
  | n, [] => n
  | n, c :: l => if n < 10000 then numS (if digB c then n * 10 + ((c.toNat : Int) - 48) else n) l else n

theorem numS_stop {n : Int} (h : ¬ n < 10000) (l : List UInt8) : numS n l = n := by
  cases l <;> simp [numS, h]

theorem numS_at {T : ByteArray} {k : Nat} (hk : k < T.size) {n : Int} (h : n < 10000) : numS n (T.toList.drop k) = numS (if digB T.data[k] then n * 10 + ((T.data[k].toNat : Int) - 48) else n) (T.toList.drop (k + 1)) := by
  have hd : T.toList.drop k = T.data[k] :: T.toList.drop (k + 1) := by
    rw [ByteArray.toList_eq, List.drop_eq_getElem_cons (by simpa using hk)]
    simp
  rw [hd]
  simp [numS, h]

theorem numS_end {T : ByteArray} {k : Nat} (hk : T.size ≤ k) (n : Int) : numS n (T.toList.drop k) = n := by
  have hd : T.toList.drop k = [] := by
    rw [ByteArray.toList_eq]
    exact List.drop_of_length_le (by simp only [Array.length_toList]; exact hk)
  rw [hd]; rfl

set_option maxRecDepth 100000 in
set_option maxHeartbeats 1000000 in
theorem l1Num_any (T : ByteArray) (hT : T.size ≤ 2000000) (w : World) :
    Calls Tryd.prog 20 #[.string T] w fun e w' => e = .returned (.int .i64 (numS 0 T.toList)) ∧ w' = w := by
  go_enter Tryd.func20, Tryd.ntmps20
  go_wp2
  go_loopg [3, 4] T.size (fun g d i wr => ∃ (k : Nat) (n : Int), k ≤ T.size ∧ g = T.size - k ∧ d = .int .i64 n ∧ i = .int .i64 k ∧ wr = w ∧ 0 ≤ n ∧ n ≤ 100009 ∧ numS 0 T.toList = numS n (T.toList.drop k))
  case atStart => exact ⟨0, 0, Nat.zero_le _, rfl, rfl, rfl, rfl, by omega, by omega, rfl⟩
  case round =>
    obtain ⟨k, n, hk, rfl, rfl, rfl, hwr, hn0, hn9, hnum⟩ := hrel
    obtain rfl := hwr.symm
    have HNum : Hid (numS 0 T.toList = numS n (T.toList.drop k)) := hnum
    clear hnum hwr
    by_cases hlt : k < T.size
    · have hkz : (k : Int) < (T.size : Int) := by omega
      by_cases hbig : n < 10000
      · have HN : Hid (numS 0 T.toList = numS (if digB T.data[k] then n * 10 + ((T.data[k].toNat : Int) - 48) else n) (T.toList.drop (k + 1))) := by show _ = _; rw [HNum.out, numS_at hlt hbig]
        clear HNum
        have HN : Hid (numS 0 T.toList = numS (if digB T[k] then n * 10 + ((T[k].toNat : Int) - 48) else n) (T.toList.drop (k + 1))) := HN.out
        by_cases hlo : 48 ≤ (T[k].toNat : Int)
        · by_cases hhi : (T[k].toNat : Int) ≤ 57
          · have HE : Hid (numS 0 T.toList = numS (n * 10 + ((T[k].toNat : Int) - 48)) (T.toList.drop (k + 1))) := by
              show _ = _
              rw [HN.out, if_pos (by unfold digB; simp; omega)]
            clear HN
            have hsub : IntKind.u8.wrap ((T[k].toNat : Int) - 48) = (T[k].toNat : Int) - 48 := by rw [IntKind.wrap_u8]; omega
            have hmul : IntKind.i64.wrap (n * 10) = n * 10 := by rw [IntKind.wrap_i64]; omega
            have hadd : IntKind.i64.wrap (n * 10 + ((T[k].toNat : Int) - 48)) = n * 10 + ((T[k].toNat : Int) - 48) := by rw [IntKind.wrap_i64]; omega
            go_wp2
            go_roundg (T.size - (k + 1))
            case measure => omega
            case rel => exact ⟨k + 1, n * 10 + ((T[k].toNat : Int) - 48), by omega, rfl, rfl, by go_num, rfl, by omega, by omega, HE.out⟩
          · have HE : Hid (numS 0 T.toList = numS n (T.toList.drop (k + 1))) := by
              show _ = _
              rw [HN.out, if_neg (by unfold digB; simp; omega)]
            clear HN
            go_wp2
            go_roundg (T.size - (k + 1))
            case measure => omega
            case rel => exact ⟨k + 1, n, by omega, rfl, rfl, by go_num, rfl, by omega, by omega, HE.out⟩
        · have HE : Hid (numS 0 T.toList = numS n (T.toList.drop (k + 1))) := by
            show _ = _
            rw [HN.out, if_neg (by unfold digB; simp; omega)]
          clear HN
          go_wp2
          go_roundg (T.size - (k + 1))
          case measure => omega
          case rel => exact ⟨k + 1, n, by omega, rfl, rfl, by go_num, rfl, by omega, by omega, HE.out⟩
      · have HE : Hid (numS 0 T.toList = n) := by show _ = _; rw [HNum.out, numS_stop hbig]
        go_wp2
        go_ret
        exact ⟨by first | (rw [HE.out]; done) | (rw [HE.out]; rfl), rfl⟩
    · obtain rfl : k = T.size := by omega
      have HE : Hid (numS 0 T.toList = n) := by show _ = _; rw [HNum.out, numS_end (Nat.le_refl _)]
      go_wp2
      go_ret
      exact ⟨by first | (rw [HE.out]; done) | (rw [HE.out]; rfl), rfl⟩

end Go.Proofs.YtlbkgnmalhidmaaDoor

/-
  The model's l1Split answers a plain function; it writes to nothing that was there.
-/
namespace Go.Proofs.YtlbkgnmalhidmaaDoor
open Go.RowKit

theorem Tryd.infoStr : (Tryd.prog.info? 9).map (fun i => (i.zero, i.size, i.bytes)) = some (some (.string ⟨#[]⟩), 1, 16) := by kernel_rfl

/-- strings in a row of their own, from block B on -/
def StrRow (B : Nat) (w : World) (v : Value) (xs : List ByteArray) : Prop := w.ownsRow B 9 1 v xs.length (xs.map Value.string)

theorem StrRow.made (w : World) : StrRow w.heap.size (w.alloc (.cells #[] 9)) (.slice (some ⟨w.heap.size, 0, none⟩) 0 0) [] :=
  ⟨by simp, .inr ⟨w.heap.size, 0, #[], rfl, Nat.le_refl _, Go.Deep.blk_alloc_new w _, by simp, by simp, by simp⟩⟩

theorem StrRow.lt {B : Nat} {w : World} {v : Value} {xs : List ByteArray} (h : StrRow B w v xs) : ∀ k, v.ownBlock = some k → B ≤ k ∧ k < w.heap.size := World.ownsRow.lt h

/-- one string more -/
theorem append_str {ops : Array Oper} {rest : List Oper} {o : Oper} {act : Act} {Q : Exit → Act → World → Prop} (w : World) (hgd : o.guard = none) (s x : Operand)
    (ho : o.op = .call { callee := .builtin .append, args := #[s, x], argTypes := #[40, 40] }) (B : Nat) (v : Value) (L : List ByteArray) (hs : act.eval s = v) (hown : StrRow B w v L) (k : ByteArray) (c : Nat)
    (hx : act.eval x = .slice (some ⟨w.heap.size, 0, none⟩) 1 c) (hL : L.length ≤ 3000000) (hB : B ≤ w.heap.size)
    (h : ∀ g cap w', StrRow B w' (.slice (some ⟨g, 0, none⟩) (L.length + 1) cap) (L ++ [k]) → (w.alloc (.cells #[.string k] 9)).grownBy w' v.ownBlock → B ≤ g → g < w'.heap.size →
      wpList Tryd.prog ops Q rest (act.put o.dst (.slice (some ⟨g, 0, none⟩) (L.length + 1) cap)) w') :
    wpList Tryd.prog ops Q (o :: rest) act (w.alloc (.cells #[.string k] 9)) := by
  obtain ⟨i0, hi, hz0, hz1, hz2⟩ := info_parts Tryd.infoStr
  refine wpList_append_lies _ hgd s x 40 ho B 9 i0 _ 1 16 Tryd.underlying40 hi hz0 hz1 hz2 rfl (by omega) v L.length (L.map Value.string) hs (World.ownsRow.alloc hown _) ⟨w.heap.size, 0, none⟩ 1 c [.string k] hx rfl
    (World.news_of_block (Go.Deep.blk_alloc_new w _)) (by simp [Value.oneCell']) (by omega) (by unfold maxLen; omega) (by omega) (by simp; omega) _ rfl ?_
  intro g cap w' h1 h2 h3 h4
  refine h g cap w' ?_ h2 ?_ h4
  · unfold StrRow
    simp only [List.length_append, List.map_append, List.length_cons, List.length_nil, List.map_cons, List.map_nil, Nat.zero_add]
    exact h1
  · rcases h3 with h3 | h3
    · exact (hown.lt g h3).1
    · simp at h3; omega

/-- a text, cut at each byte of a kind; from: where the piece begins -/
def cutS (at' : UInt8) : List UInt8 → List UInt8 → List (List UInt8)
  | cur, [] => [cur]
  | cur, c :: l => if c = at' then cur :: cutS at' [] l else cutS at' (cur ++ [c]) l

theorem cutS_end (at' : UInt8) (cur : List UInt8) : cutS at' cur [] = [cur] := rfl

theorem drop_byte {T : ByteArray} {k : Nat} (hk : k < T.size) : T.toList.drop k = T[k] :: T.toList.drop (k + 1) := by
  rw [ByteArray.toList_eq, List.drop_eq_getElem_cons (by simpa using hk)]
  simp
  rfl

theorem drop_none {T : ByteArray} {k : Nat} (hk : T.size ≤ k) : T.toList.drop k = [] := by
  rw [ByteArray.toList_eq]
  exact List.drop_of_length_le (by simp only [Array.length_toList]; exact hk)

/-- the piece from a place to another -/
def piece (T : ByteArray) (a b : Nat) : List UInt8 := (T.toList.drop a).take (b - a)

theorem piece_next {T : ByteArray} {a k : Nat} (h : a ≤ k) (hk : k < T.size) : piece T a (k + 1) = piece T a k ++ [T[k]] := by
  unfold piece
  have hl : T.toList.length = T.size := by rw [ByteArray.toList_eq, Array.length_toList]; rfl
  rw [show k + 1 - a = (k - a) + 1 by omega, List.take_add_one]
  congr 1
  rw [List.getElem?_drop, show a + (k - a) = k by omega]
  have hk' : k < T.toList.length := by omega
  rw [List.getElem?_eq_getElem hk']
  have := drop_byte hk
  rw [List.drop_eq_getElem_cons hk'] at this
  injection this with h1 _
  simp [h1]

theorem extract_list (T : ByteArray) (a b : Nat) (_ : a ≤ b) (_ : b ≤ T.size) : (T.extract a b).toList = piece T a b := by
  unfold piece
  rw [ByteArray.toList_eq, ByteArray.toList_eq, Lib.extract_data]


set_option maxRecDepth 100000 in
set_option maxHeartbeats 2000000 in
theorem l1Split_any (T : ByteArray) (c : UInt8) (hT : T.size ≤ 1048576) (w : World) :
    Calls Tryd.prog 19 #[.string T, .int .u8 (c.toNat : Int)] w fun e w' => Below w.heap.size w w' ∧ ∃ v ss, e = .returned v ∧ StrRow w.heap.size w' v ss ∧ ss.map ByteArray.toList = cutS c [] T.toList := by
  have hA : Below w.heap.size w (w.alloc (.cells #[] 9)) := (Below.refl _ _).alloc (Nat.le_refl _) _
  have hrow0 := StrRow.made w
  go_enter Tryd.func19, Tryd.ntmps19
  go_wp2
  generalize w.alloc (.cells #[] 9) = W at *
  go_loopg [5, 6, 7] T.size (fun g d f i wr => ∃ (k a : Nat) (v : Value) (ss : List ByteArray), d = v ∧ f = .int .i64 a ∧ i = .int .i64 k ∧ k ≤ T.size ∧ a ≤ k ∧ g = T.size - k ∧ StrRow w.heap.size wr v ss ∧ ss.length ≤ k ∧ Below w.heap.size w wr ∧ cutS c [] T.toList = ss.map ByteArray.toList ++ cutS c (piece T a k) (T.toList.drop k))
  case atStart => exact ⟨0, 0, _, [], rfl, rfl, rfl, Nat.zero_le _, Nat.le_refl _, rfl, hrow0, Nat.le_refl _, hA, by simp [piece]⟩
  case round =>
    obtain ⟨k, a, v, ss, hd, rfl, rfl, hk, hak, rfl, hrow, hsl, hb, hcut⟩ := hrel
    obtain rfl := hd.symm
    have HCut : Hid (cutS c [] T.toList = ss.map ByteArray.toList ++ cutS c (piece T a k) (T.toList.drop k)) := hcut
    have hsz := hb.size
    obtain ⟨av, cv, hv⟩ : ∃ av cv, v = .slice av ss.length cv := by
      rcases hrow.2 with ⟨h1, h2⟩ | ⟨g, cap, cur, h1, _⟩
      · exact ⟨_, _, by rw [h1, h2]⟩
      · exact ⟨_, _, h1⟩
    subst hv
    clear hd hcut hA hrow0
    by_cases hlt : k < T.size
    · have hkz : (k : Int) < (T.size : Int) := by omega
      have hEx : ∀ w, (Instr.slice 9 (.string T) (some (.int .i64 (a : Int))) (some (.int .i64 (k : Int))) none).run Tryd.prog w = .ok (.string (T.extract a k)) w := fun w => by
        rw [run_slice_string w 9 T .i64 .i64 _ _ Tryd.underlying9 (by omega) (by omega) (by omega), show ((a : Int)).toNat = a by omega, show ((k : Int)).toNat = k by omega]
      have HEl : Hid ((T.extract a k).toList = piece T a k) := extract_list T a k hak hk
      by_cases hc : T[k] = c
      · have HE : Hid (cutS c [] T.toList = (ss ++ [T.extract a k]).map ByteArray.toList ++ cutS c (piece T (k + 1) (k + 1)) (T.toList.drop (k + 1))) := by
          show _ = _
          rw [HCut.out, drop_byte hlt, hc]
          simp [cutS, HEl.out, piece]
        have hc' : (((T[k].toNat : Int)) == (c.toNat : Int)) = true := by rw [hc]; simp
        generalize T.extract a k = E at *
        clear HCut hc
        go_wp2_with (at_builtin; refine append_str _ (by rfl) _ _ (by rfl) w.heap.size _ ss (by rfl) hrow E _ (by rfl) (by omega) (by omega) ?_; intro g5 cp5 w5 hrow5 hg5 hB5 hlt5)
        have hb5 : Below w.heap.size w w5 := (hb.alloc hsz (.cells #[.string E] 9)).grown hg5 (by simp; omega) (fun q e => (hrow.lt q e).1)
        go_wp2
        go_roundg (T.size - (k + 1))
        case measure => omega
        case rel => exact ⟨k + 1, k + 1, _, ss ++ [E], rfl, by go_num, by go_num, by omega, Nat.le_refl _, rfl, by simpa using hrow5, by simp; omega, hb5, HE.out⟩
      · have HE : Hid (cutS c [] T.toList = ss.map ByteArray.toList ++ cutS c (piece T a (k + 1)) (T.toList.drop (k + 1))) := by
          show _ = _
          rw [HCut.out, drop_byte hlt, piece_next hak hlt]
          simp [cutS, hc]
        have hc' : (((T[k].toNat : Int)) == (c.toNat : Int)) = false := by
          rw [beq_eq_false_iff_ne]
          intro e
          exact hc (UInt8.toNat_inj.1 (by omega))
        clear HCut hEx HEl hc
        go_wp2
        go_roundg (T.size - (k + 1))
        case measure => omega
        case rel => exact ⟨k + 1, a, _, ss, rfl, rfl, by go_num, by omega, by omega, rfl, hrow, by omega, hb, HE.out⟩
    · obtain rfl : k = T.size := by omega
      have hEx : ∀ w, (Instr.slice 9 (.string T) (some (.int .i64 (a : Int))) none none).run Tryd.prog w = .ok (.string (T.extract a T.size)) w := fun w => by
        rw [run_slice_string_l w 9 T Tryd.underlying9 .i64 (a : Int) (by omega) (by omega), show ((a : Int)).toNat = a by omega]
      have HE : Hid ((ss ++ [T.extract a T.size]).map ByteArray.toList = cutS c [] T.toList) := by
        show _ = _
        rw [HCut.out, drop_none (Nat.le_refl _), cutS_end, ← extract_list T a T.size hak (Nat.le_refl _)]
        simp
      generalize T.extract a T.size = E at *
      clear HCut
      go_wp2_with (at_builtin; refine append_str _ (by rfl) _ _ (by rfl) w.heap.size _ ss (by rfl) hrow E _ (by rfl) (by omega) (by omega) ?_; intro g5 cp5 w5 hrow5 hg5 hB5 hlt5)
      have hb5 : Below w.heap.size w w5 := (hb.alloc hsz (.cells #[.string E] 9)).grown hg5 (by simp; omega) (fun q e => (hrow.lt q e).1)
      go_wp2
      go_ret
      exact ⟨hb5, _, ss ++ [E], rfl, by simpa using hrow5, HE.out⟩

end Go.Proofs.YtlbkgnmalhidmaaDoor
