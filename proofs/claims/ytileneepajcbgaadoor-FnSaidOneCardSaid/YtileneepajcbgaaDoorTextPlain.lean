/-
  The text of a program, in plain words: the one function that both the document's model and the program are held against. Nothing of the translation is used here.
-/
import Derived.Test.YtileneepajcbgaaDoorHPlain
import Derived.Lib.ItoaNum

namespace Go.Proofs.YtileneepajcbgaaDoor
def bs (l : List UInt8) : ByteArray := ⟨l.toArray⟩
theorem bs_add (x y : List UInt8) : bs x ++ bs y = bs (x ++ y) := by
  unfold bs
  apply ByteArray.ext
  simp [ByteArray.data_append]
theorem bs_size (x : List UInt8) : (bs x).size = x.length := by simp [bs, ByteArray.size]
theorem bs_list (x : List UInt8) : (bs x).toList = x := by
  rw [ByteArray.toList_eq]; rfl
def dec (n : Int) : List UInt8 := Lib.decDigits n.toNat
def words : List (List UInt8) := [[], [110, 117, 109], [116, 101, 109, 112], [115, 101, 116], [100, 114, 111, 112], [97, 100, 100], [115, 97, 109, 101], [106, 117, 109, 112], [122, 101, 114, 111], [99, 97, 108, 108],
  [114, 101, 116], [104, 101, 114, 101], [115, 101, 110, 100, 101, 114], [112, 101, 101, 107], [112, 111, 107, 101], [98, 97, 99, 107], [115, 97, 121], [100, 101, 97, 100], [119, 104, 101, 114, 101]]
def hasA (k : Int) : Bool := decide (k = 1 ∨ k = 2 ∨ k = 3 ∨ k = 7 ∨ k = 8 ∨ k = 9 ∨ k = 13 ∨ k = 14)
def tail (k a : Int) : List UInt8 := if hasA k then 32 :: dec a else []
/-! how long texts are -/
theorem dec_le {n : Int} (h1 : n < 100) : (dec n).length ≤ 2 := by
  unfold dec
  by_cases h : n.toNat < 10
  · rw [Lib.decDigits_one h]; simp
  · rw [Lib.decDigits_two h (by omega)]; simp
/-! what an ok program gives -/
theorem opOk_kind {nm no : Nat} {t k a : Int} (h : opOk nm no t k a = true) : 1 ≤ k ∧ k ≤ 18 := by
  cases hk : inR k 1 18
  · rw [opOk_noKind hk] at h; cases h
  · exact inR_true.1 hk
end Go.Proofs.YtileneepajcbgaaDoor

/-
  The text of what was said, in plain words: the one function that both the document's model and the program are held against. Nothing of the translation is used here.
-/
namespace Go.Proofs.YtileneepajcbgaaDoor
def valText (v : Int × Int) : List UInt8 := if v.1 = 1 then dec v.2 else if v.1 = 2 then [99, 97, 108, 108, 32] ++ dec v.2 else [110, 111, 110, 101]
def saidText (l : List (Int × Int)) : List UInt8 := l.flatMap fun v => valText v ++ [59]
theorem dec3_le {n : Int} (h1 : n < 1000) : (dec n).length ≤ 3 := by
  unfold dec
  by_cases h : n.toNat < 100
  · have := dec_le (n := n) (by omega)
    unfold dec at this
    omega
  · rw [Lib.decDigits, dif_neg (by omega)]
    have := dec_le (n := ((n.toNat / 10 : Nat) : Int)) (by omega)
    unfold dec at this
    simp only [Int.toNat_natCast] at this
    simp only [List.length_append, List.length_cons, List.length_nil]
    omega
theorem valText_le {v : Int × Int} (h : v.2 < 1000) : (valText v).length ≤ 8 := by
  have := dec3_le h
  unfold valText
  split
  · omega
  · split
    · simp only [List.length_append, List.length_cons, List.length_nil]; omega
    · simp
theorem saidText_nil : saidText [] = [] := rfl
theorem saidText_app (x y : List (Int × Int)) : saidText (x ++ y) = saidText x ++ saidText y := by
  unfold saidText; rw [List.flatMap_append]
theorem saidText_snoc {l : List (Int × Int)} {k : Nat} (h : k < l.length) : saidText (l.take (k + 1)) = saidText (l.take k) ++ (valText l[k] ++ [59]) := by
  rw [List.take_succ_eq_append_getElem h, saidText_app]
  simp [saidText]
theorem saidText_le : ∀ (l : List (Int × Int)), (∀ v ∈ l, v.2 < 1000) → (saidText l).length ≤ 9 * l.length
  | [], _ => by simp [saidText]
  | v :: l, h => by
    have h1 := saidText_le l fun u hu => h u (List.mem_cons_of_mem _ hu)
    have h2 := valText_le (h v (List.mem_cons_self ..))
    unfold saidText at h1 ⊢
    simp only [List.flatMap_cons, List.length_append, List.length_cons, List.length_nil]
    omega
theorem saidText_take_le {l : List (Int × Int)} (h : ∀ v ∈ l, v.2 < 1000) (k : Nat) : (saidText (l.take k)).length ≤ 9 * l.length := by
  have h1 := saidText_le (l.take k) fun v hv => h v (List.mem_of_mem_take hv)
  have h2 : (l.take k).length ≤ l.length := by rw [List.length_take]; omega
  omega
theorem saidText_some {l : List (Int × Int)} : saidText l = [] ↔ l = [] := by
  cases l with
  | nil => simp [saidText]
  | cons v l => simp [saidText]
/-! one text, one list -/
theorem dec_digit : ∀ (n : Nat), ∀ c ∈ Lib.decDigits n, 48 ≤ c.toNat ∧ c.toNat ≤ 57 := by
  intro n
  induction n using Nat.strongRecOn with
  | _ n ih =>
    intro c hc
    rw [Lib.decDigits] at hc
    split at hc
    · simp only [List.mem_singleton] at hc
      subst hc
      rw [UInt8.toNat_ofNat_of_lt' (by simp [UInt8.size]; omega)]
      omega
    · rw [List.mem_append, List.mem_singleton] at hc
      rcases hc with hc | hc
      · exact ih (n / 10) (by omega) c hc
      · subst hc
        rw [UInt8.toNat_ofNat_of_lt' (by simp [UInt8.size]; omega)]
        omega
def undec (l : List UInt8) : Nat := l.foldl (fun a c => a * 10 + (c.toNat - 48)) 0
theorem undec_dec : ∀ n : Nat, undec (Lib.decDigits n) = n := by
  intro n
  induction n using Nat.strongRecOn with
  | _ n ih =>
    rw [Lib.decDigits]
    split
    · unfold undec
      simp only [List.foldl_cons, List.foldl_nil]
      rw [UInt8.toNat_ofNat_of_lt' (by simp [UInt8.size]; omega)]
      omega
    · unfold undec
      rw [List.foldl_append]
      have := ih (n / 10) (by omega)
      unfold undec at this
      rw [this]
      simp only [List.foldl_cons, List.foldl_nil]
      rw [UInt8.toNat_ofNat_of_lt' (by simp [UInt8.size]; omega)]
      omega
theorem dec_one {a b : Int} (ha : 0 ≤ a) (hb : 0 ≤ b) (h : dec a = dec b) : a = b := by
  have := congrArg undec h
  unfold dec at this
  rw [undec_dec, undec_dec] at this
  omega
theorem dec_some (n : Int) : ∃ c r, dec n = c :: r := by
  unfold dec
  rw [Lib.decDigits]
  split
  · exact ⟨_, _, rfl⟩
  · cases h : Lib.decDigits (n.toNat / 10) with
    | nil => exact ⟨_, _, rfl⟩
    | cons c r => exact ⟨_, _, rfl⟩
theorem valText_no {v : Int × Int} : (59 : UInt8) ∉ valText v := by
  have hd : (59 : UInt8) ∉ dec v.2 := fun h => by
    have := dec_digit _ _ h
    revert this
    decide
  unfold valText
  split
  · exact hd
  · split
    · intro h
      rcases List.mem_append.1 h with h | h
      · revert h; decide
      · exact hd h
    · decide
def Plainly (v : Int × Int) : Prop := 0 ≤ v.1 ∧ v.1 ≤ 2 ∧ 0 ≤ v.2 ∧ (v.1 = 0 → v.2 = 0)
theorem dec_head {n : Int} {c : UInt8} {r : List UInt8} (h : dec n = c :: r) : 48 ≤ c.toNat ∧ c.toNat ≤ 57 :=
  dec_digit n.toNat c (by unfold dec at h; rw [h]; exact List.mem_cons_self ..)
theorem valText_one {u v : Int × Int} (hu : Plainly u) (hv : Plainly v) (h : valText u = valText v) : u = v := by
  obtain ⟨u1, u2⟩ := u
  obtain ⟨v1, v2⟩ := v
  obtain ⟨a0, a1, a2, a3⟩ := hu
  obtain ⟨b0, b1, b2, b3⟩ := hv
  simp only at a0 a1 a2 a3 b0 b1 b2 b3
  obtain ⟨c, r, hc⟩ := dec_some u2
  obtain ⟨d, s, hd⟩ := dec_some v2
  have gc := dec_head hc
  have gd := dec_head hd
  rcases (by omega : u1 = 0 ∨ u1 = 1 ∨ u1 = 2) with rfl | rfl | rfl <;> rcases (by omega : v1 = 0 ∨ v1 = 1 ∨ v1 = 2) with rfl | rfl | rfl
  · rw [a3 rfl, b3 rfl]
  · simp [valText, hd] at h
    rw [← h.1] at gd
    exact absurd gd (by decide)
  · simp [valText] at h
  · simp [valText, hc] at h
    rw [h.1] at gc
    exact absurd gc (by decide)
  · simp [valText] at h
    rw [dec_one a2 b2 h]
  · simp [valText, hc] at h
    rw [h.1] at gc
    exact absurd gc (by decide)
  · simp [valText] at h
  · simp [valText, hd] at h
    rw [← h.1] at gd
    exact absurd gd (by decide)
  · simp [valText] at h
    rw [dec_one a2 b2 h]
theorem cut_one : ∀ {x y r s : List UInt8}, (59 : UInt8) ∉ x → (59 : UInt8) ∉ y → x ++ 59 :: r = y ++ 59 :: s → x = y ∧ r = s
  | [], [], _, _, _, _, h => by simpa using h
  | [], c :: y, _, _, _, hy, h => by
    simp only [List.nil_append, List.cons_append, List.cons.injEq] at h
    exact absurd (by rw [h.1]; exact List.mem_cons_self ..) hy
  | c :: x, [], _, _, hx, _, h => by
    simp only [List.nil_append, List.cons_append, List.cons.injEq] at h
    exact absurd (by rw [← h.1]; exact List.mem_cons_self ..) hx
  | c :: x, d :: y, r, s, hx, hy, h => by
    simp only [List.cons_append, List.cons.injEq] at h
    obtain ⟨h1, h2⟩ := cut_one (x := x) (y := y) (fun k => hx (List.mem_cons_of_mem _ k)) (fun k => hy (List.mem_cons_of_mem _ k)) h.2
    exact ⟨by rw [h.1, h1], h2⟩
theorem saidText_one : ∀ {l m : List (Int × Int)}, (∀ v ∈ l, Plainly v) → (∀ v ∈ m, Plainly v) → saidText l = saidText m → l = m
  | [], m, _, _, h => by
    rw [saidText_nil] at h
    exact (saidText_some.1 h.symm).symm
  | v :: l, [], _, _, h => saidText_some.1 (by rw [h]; rfl)
  | v :: l, u :: m, hl, hm, h => by
    have e1 : ∀ (v : Int × Int) (l), saidText (v :: l) = valText v ++ 59 :: saidText l := fun v l => by simp [saidText]
    rw [e1, e1] at h
    obtain ⟨h1, h2⟩ := cut_one valText_no valText_no h
    rw [valText_one (hl v (List.mem_cons_self ..)) (hm u (List.mem_cons_self ..)) h1, saidText_one (fun v hv => hl v (List.mem_cons_of_mem _ hv)) (fun v hv => hm v (List.mem_cons_of_mem _ hv)) h2]
end Go.Proofs.YtileneepajcbgaaDoor
