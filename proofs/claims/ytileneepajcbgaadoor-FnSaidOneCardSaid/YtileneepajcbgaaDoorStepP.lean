/-
  The program's HeapDeep: how many calls there are from Now on by Sender.
-/
import Derived.Test.YtileneepajcbgaaDoorHSpecOk
import Derived.Test.YtileneepajcbgaaDoorHWait
import Derived.Test.YtileneepajcbgaaDoorHHeapOk
import Derived.Test.YtileneepajcbgaaDoorImplOk3
import Derived.Test.YtileneepajcbgaaDoorTakes2

namespace Go.Proofs.YtileneepajcbgaaDoor
open Go.RowKit
def deepC (cs : List Cl) : Nat → Int → Option Nat
  | 0, a => if 0 ≤ a ∧ a.toNat < cs.length then none else some 0
  | f + 1, a => if h : 0 ≤ a ∧ a.toNat < cs.length then (if (cs[a.toNat]'h.2).dead then none else (deepC cs f (cs[a.toNat]'h.2).sender).map (· + 1)) else some 0
theorem deepC_out {cs : List Cl} {f : Nat} {a : Int} (h : ¬ (0 ≤ a ∧ a < (cs.length : Int))) : deepC cs f a = some 0 := by
  have h' : ¬ (0 ≤ a ∧ a.toNat < cs.length) := by omega
  cases f
  · simp only [deepC, if_neg h']
  · simp only [deepC, dif_neg h']
theorem deepC_zero {cs : List Cl} {a : Nat} (h : a < cs.length) : deepC cs 0 (a : Int) = none := by
  simp only [deepC]
  rw [if_pos (by simp; exact h)]
theorem deepC_dead {cs : List Cl} {f : Nat} {a : Nat} (h : a < cs.length) (hd : cs[a].dead = true) : deepC cs f (a : Int) = none := by
  cases f with
  | zero => exact deepC_zero h
  | succ f =>
    simp only [deepC, Int.toNat_natCast]
    rw [dif_pos ⟨by omega, h⟩, if_pos hd]
theorem deepC_step {cs : List Cl} {f : Nat} {a : Nat} (h : a < cs.length) (hd : cs[a].dead = false) : deepC cs (f + 1) (a : Int) = (deepC cs f cs[a].sender).map (· + 1) := by
  simp only [deepC, Int.toNat_natCast]
  rw [dif_pos ⟨by omega, h⟩, hd]
  rfl
def deepOf (cs : List Cl) (now : Int) : Nat := (deepC cs cs.length now).getD 0
theorem deepC_walk {cs : List Cl} (hs : ∀ i, (h : i < cs.length) → -1 ≤ cs[i].sender ∧ cs[i].sender < (cs.length : Int)) : ∀ (f : Nat) (a : Int), -1 ≤ a → a < (cs.length : Int) → deepC cs f a = (walkC cs f a).map List.length
  | f, a, h0, h1 => by
    by_cases hn : a < 0
    · rw [walkC_neg hn, deepC_out (by omega)]; rfl
    obtain ⟨n, rfl⟩ := Int.eq_ofNat_of_zero_le (show 0 ≤ a by omega)
    have hl : n < cs.length := by omega
    cases f with
    | zero => rw [deepC_zero hl, walkC_zero (by omega)]; rfl
    | succ f =>
      cases hd : cs[n].dead
      · rw [deepC_step hl hd, walkC_step hl hd, deepC_walk hs f _ (hs n hl).1 (hs n hl).2]
        cases walkC cs f cs[n].sender <;> rfl
      · rw [deepC_dead hl hd, walkC_dead hl hd]; rfl
theorem deepOf_chain {cs : List Cl} {now : Int} (hs : ∀ i, (h : i < cs.length) → -1 ≤ cs[i].sender ∧ cs[i].sender < (cs.length : Int)) (h0 : -1 ≤ now) (h1 : now < (cs.length : Int)) : deepOf cs now = (chainOf cs now).length := by
  unfold deepOf chainOf
  rw [deepC_walk hs _ _ h0 h1]
  cases walkC cs cs.length now <;> rfl
end Go.Proofs.YtileneepajcbgaaDoor

/-
  The program's waitOk, in plain words (waitP).
-/
namespace Go.Proofs.YtileneepajcbgaaDoor
open Go.RowKit
def freeP (cs : List Cl) (now : Int) : Prop := ∀ i, (h : i < cs.length) → (i : Int) ≠ now → cs[i].stack.length < 6
open Classical in
noncomputable def waitP (cs : List Cl) (now : Int) : Bool := decide (freeP cs now) && ((deepOf cs now == liveN cs) && ((deepOf cs now == 0) == (now == -1)))
end Go.Proofs.YtileneepajcbgaaDoor

/-
  Who waits for whom: where all calls are in form, the program's test (waitP) and the model's (endOk) answer the same. A chain has no repeats; as long as the alive calls are many, it holds them all.
-/
namespace Go.Proofs.YtileneepajcbgaaDoor
theorem walkC_some {cs : List Cl} {f : Nat} {a : Int} {l : List Nat} (h : walkC cs f a = some l) (ha : 0 ≤ a) : ∃ (g n : Nat) (hn : n < cs.length) (t : List Nat), f = g + 1 ∧ a = n ∧ l = n :: t ∧ cs[n].dead = false ∧ walkC cs g cs[n].sender = some t := by
  obtain ⟨n, rfl⟩ := Int.eq_ofNat_of_zero_le ha
  cases f with
  | zero => rw [walkC_zero ha] at h; cases h
  | succ g =>
    by_cases hn : n < cs.length
    · cases hd : cs[n].dead
      · rw [walkC_step hn hd] at h
        cases hw : walkC cs g cs[n].sender with
        | none => rw [hw] at h; cases h
        | some t => rw [hw] at h; exact ⟨g, n, hn, t, rfl, rfl, (Option.some.inj h).symm, hd, hw⟩
      · rw [walkC_dead hn hd] at h; cases h
    · rw [walkC_past hn] at h; cases h
theorem walkC_one {cs : List Cl} : ∀ (l : List Nat) (f f' : Nat) (a : Int) (l' : List Nat), walkC cs f a = some l → walkC cs f' a = some l' → l = l'
  | l, f, f', a, l', h, h' => by
    by_cases ha : a < 0
    · rw [walkC_neg ha] at h h'
      exact (Option.some.inj h).symm.trans (Option.some.inj h')
    obtain ⟨g, n, hn, t, rfl, rfl, rfl, _, hw⟩ := walkC_some h (by omega)
    obtain ⟨g', n', hn', t', rfl, e, rfl, _, hw'⟩ := walkC_some h' (by omega)
    obtain rfl : n = n' := by omega
    rw [walkC_one t g g' _ t' hw hw']
  termination_by l => l.length
theorem walkC_tail {cs : List Cl} : ∀ (pre : List Nat) (f : Nat) (a : Int) (k : Nat) (post : List Nat), walkC cs f a = some (pre ++ k :: post) → ∃ f', walkC cs f' (k : Int) = some (k :: post)
  | [], f, a, k, post, h => by
    by_cases ha : a < 0
    · rw [walkC_neg ha] at h; cases h
    obtain ⟨g, n, hn, t, rfl, rfl, e, _, hw⟩ := walkC_some h (by omega)
    obtain ⟨rfl, rfl⟩ := List.cons.inj e
    exact ⟨g + 1, h⟩
  | p :: pre, f, a, k, post, h => by
    by_cases ha : a < 0
    · rw [walkC_neg ha] at h; cases h
    obtain ⟨g, n, hn, t, rfl, rfl, e, _, hw⟩ := walkC_some h (by omega)
    obtain ⟨rfl, rfl⟩ := List.cons.inj e
    exact walkC_tail pre g _ k post hw
theorem walkC_nodup {cs : List Cl} : ∀ (l : List Nat) (f : Nat) (a : Int), walkC cs f a = some l → l.Nodup
  | [], _, _, _ => List.nodup_nil
  | k :: t, f, a, h => by
    by_cases ha : a < 0
    · rw [walkC_neg ha] at h; cases h
    obtain ⟨g, n, hn, t', rfl, rfl, e, _, hw⟩ := walkC_some h (by omega)
    obtain ⟨rfl, rfl⟩ := List.cons.inj e
    refine List.nodup_cons.2 ⟨fun hm => ?_, walkC_nodup _ g _ hw⟩
    obtain ⟨pre, post, rfl⟩ := List.append_of_mem hm
    obtain ⟨f', hf⟩ := walkC_tail pre g _ k post hw
    have := congrArg List.length (walkC_one _ _ _ _ _ h hf)
    simp at this
    omega
theorem few_of_nodup : ∀ (l A : List Nat), l.Nodup → (∀ k ∈ l, k ∈ A) → l.length ≤ A.length
  | [], _, _, _ => Nat.zero_le _
  | a :: t, A, hn, hs => by
    obtain ⟨ha, ht⟩ := List.nodup_cons.1 hn
    have hm : a ∈ A := hs a (List.mem_cons_self ..)
    have := few_of_nodup t (A.erase a) ht fun k hk => (List.mem_erase_of_ne (show k ≠ a from fun e => ha (by rw [← e]; exact hk))).2 (hs k (List.mem_cons_of_mem _ hk))
    rw [List.length_erase_of_mem hm] at this
    have := List.length_pos_of_mem hm
    simp
    omega
def aliveL (cs : List Cl) : List Nat := (List.range cs.length).filter fun i => !(cs.getD i Cl.none).dead
theorem aliveL_len (cs : List Cl) : (aliveL cs).length = liveN cs := by
  have e : (List.range cs.length).map (fun i => cs.getD i Cl.none) = cs := by
    apply List.ext_getElem
    · simp
    · intro i h1 h2
      simp [h2]
  unfold liveN aliveL
  conv => rhs; rw [← e]
  rw [List.filter_map, List.length_map]
  rfl
theorem mem_alive {cs : List Cl} {k : Nat} : k ∈ aliveL cs ↔ ∃ h : k < cs.length, cs[k].dead = false := by
  unfold aliveL
  rw [List.mem_filter, List.mem_range]
  constructor
  · rintro ⟨h, e⟩
    exact ⟨h, by simpa [h] using e⟩
  · rintro ⟨h, e⟩
    exact ⟨h, by simp [h, e]⟩
theorem chain_nodup (cs : List Cl) (now : Int) : (chainOf cs now).Nodup := by
  unfold chainOf
  cases h : walkC cs cs.length now with
  | none => exact List.nodup_nil
  | some l => exact walkC_nodup l _ _ h
theorem chain_all {cs : List Cl} {now : Int} (h : (chainOf cs now).length = liveN cs) {k : Nat} (hk : k < cs.length) (hd : cs[k].dead = false) : k ∈ chainOf cs now := by
  apply Classical.byContradiction
  intro hn
  have := few_of_nodup (k :: chainOf cs now) (aliveL cs) (List.nodup_cons.2 ⟨hn, chain_nodup cs now⟩) (fun j hj => by
    rcases List.mem_cons.1 hj with rfl | hj
    · exact mem_alive.2 ⟨hk, hd⟩
    · exact mem_alive.2 (chain_in hj))
  rw [aliveL_len, List.length_cons] at this
  omega
end Go.Proofs.YtileneepajcbgaaDoor

/-
  The program's HeapOk answers the plain heapOk; it writes to nothing that was there.
-/
namespace Go.Proofs.YtileneepajcbgaaDoor
open Go.RowKit
end Go.Proofs.YtileneepajcbgaaDoor

/-
  What is seen of a heap, in plain words: the calls that can be come to, as they are come to, with the numbers that they have in this order. Nothing of the translation is used here.
-/
namespace Go.Proofs.YtileneepajcbgaaDoor
open Go.RowKit
def numOf (ps : List Nat) (p : Int) : Int := match ps.findIdx? (fun (q : Nat) => (q : Int) == p) with
  | some i => (i : Int)
  | none => -1
theorem numOf_none {ps : List Nat} {p : Int} (h : ∀ i, (hi : i < ps.length) → (ps[i] : Int) ≠ p) : numOf ps p = -1 := by
  unfold numOf
  have : ps.findIdx? (fun (q : Nat) => (q : Int) == p) = none := by
    rw [List.findIdx?_eq_none_iff]
    intro x hx
    obtain ⟨i, hi, rfl⟩ := List.getElem_of_mem hx
    simpa using h i hi
  rw [this]
theorem numOf_neg_iff {ps : List Nat} {p : Int} : numOf ps p = -1 ↔ ∀ i, (hi : i < ps.length) → (ps[i] : Int) ≠ p := by
  refine ⟨fun h i hi e => ?_, numOf_none⟩
  unfold numOf at h
  split at h
  · omega
  · rename_i hn
    rw [List.findIdx?_eq_none_iff] at hn
    have := hn ps[i] (List.getElem_mem hi)
    simp [e] at this
structure PsOk (n : Nat) (ps : List Nat) : Prop where
  nd : ps.Nodup
  lt : ∀ p ∈ ps, p < n
theorem PsOk.len {n : Nat} {ps : List Nat} (h : PsOk n ps) : ps.length ≤ n := by
  have := few_of_nodup ps (List.range n) h.nd (fun k hk => by simpa using h.lt k hk)
  simpa using this
def comeP (n : Nat) (ps : List Nat) (p : Int) : List Nat := if 0 ≤ p ∧ p < (n : Int) ∧ numOf ps p = -1 then ps ++ [p.toNat] else ps
theorem PsOk.come {n : Nat} {ps : List Nat} (h : PsOk n ps) (p : Int) : PsOk n (comeP n ps p) := by
  unfold comeP
  split
  · rename_i hc
    obtain ⟨k, rfl⟩ := Int.eq_ofNat_of_zero_le hc.1
    have hk : k < n := by omega
    have hn := numOf_neg_iff.1 hc.2.2
    refine ⟨?_, fun q hq => ?_⟩
    · rw [List.nodup_append]
      refine ⟨h.nd, by simp, fun a ha b hb e => ?_⟩
      simp at hb
      subst hb e
      obtain ⟨i, hi, e⟩ := List.getElem_of_mem ha
      exact hn i hi (by rw [e])
    · simp at hq
      rcases hq with hq | rfl
      · exact h.lt q hq
      · exact hk
  · exact h
end Go.Proofs.YtileneepajcbgaaDoor

/-
  One operation of a heap, in plain words, and that an ok heap stays ok. Nothing of the translation is used here.
-/
namespace Go.Proofs.YtileneepajcbgaaDoor
abbrev Ms := List (Int × Int × List (Int × Int))
def curC (h : Hp) : Cl := h.calls.getD h.now.toNat Cl.none
def setH (h : Hp) (c : Cl) : Hp := { h with calls := h.calls.set h.now.toNat c }
def pushH (h : Hp) (v : Int × Int) : Hp := setH h { curC h with stack := (curC h).stack ++ [v] }
def dieC (c : Cl) : Cl := { c with stack := [], sender := -1, dead := true }
def leaveH (h : Hp) : Hp := { setH h (dieC (curC h)) with now := (curC h).sender }
def sayV (h : Hp) (v : Int × Int) : Int × Int := if v.1 = 2 then (2, (h.calls.getD v.2.toNat Cl.none).m) else v
def sayH (h : Hp) (v : Int × Int) : Hp := { h with said := h.said ++ [sayV h v] }
def codeH (h : Hp) (k : Int) : Hp := { h with code := k }
def callH (ms : Ms) (h : Hp) (m : Int) (args : List (Int × Int)) : Hp :=
  if 30 ≤ h.born then codeH h 3
  else { h with calls := h.calls ++ [⟨m, 0, args ++ List.replicate ((ms.getD m.toNat (0, 0, [])).2.1.toNat - args.length) (0, 0), [], h.now, false⟩], now := h.calls.length, born := h.born + 1 }
def retH (h : Hp) (v : Int × Int) : Hp :=
  if (curC h).sender < 0 then codeH (sayH (leaveH h) v) 1 else pushH (leaveH h) v
def backTo : Nat → Hp → Nat → Hp
  | 0, h, _ => h
  | f + 1, h, b => if h.now = b then h else backTo f (leaveH h) b
def backH (h : Hp) (b : Nat) (v : Int × Int) : Hp :=
  if (h.calls.getD b Cl.none).dead then codeH h 2 else pushH (backTo h.calls.length h b) v
def bitV (b : Bool) : Int × Int := (1, if b then 1 else 0)
def lookV (h : Hp) (k a : Int) (at_ : Nat) : Int × Int :=
  let c := h.calls.getD at_ Cl.none
  if k = 12 then (if 0 ≤ c.sender then (2, c.sender) else (0, 0))
  else if k = 13 then c.temps.getD a.toNat (0, 0)
  else if k = 17 then bitV c.dead
  else (1, c.pc)
def kindsOk (k : Int) (args : List (Int × Int)) : Bool :=
  if k = 5 then (args.getD 0 (0, 0)).1 == 1 && (args.getD 1 (0, 0)).1 == 1
  else if k = 12 ∨ k = 13 ∨ k = 14 ∨ k = 15 ∨ k = 17 ∨ k = 18 then (args.getD 0 (0, 0)).1 == 2
  else true
def pokeH (h : Hp) (at_ : Nat) (a : Int) (v : Int × Int) : Hp :=
  { h with calls := h.calls.set at_ { h.calls.getD at_ Cl.none with temps := (h.calls.getD at_ Cl.none).temps.set a.toNat v } }
def doH (ms : Ms) (h : Hp) (k a : Int) (args : List (Int × Int)) : Hp :=
  let x := args.getD 0 (0, 0)
  let y := args.getD 1 (0, 0)
  if k = 1 then pushH h (1, a)
  else if k = 5 then pushH h (1, (x.2 + y.2) % 1000)
  else if k = 6 then pushH h (bitV (decide (x = y)))
  else if k = 2 then pushH h ((curC h).temps.getD a.toNat (0, 0))
  else if k = 3 then setH h { curC h with temps := (curC h).temps.set a.toNat x }
  else if k = 7 then setH h { curC h with pc := a }
  else if k = 8 then (if x.1 = 0 ∨ x = (1, 0) then setH h { curC h with pc := a } else h)
  else if k = 9 then callH ms h a args
  else if k = 10 then retH h x
  else if k = 11 then pushH h (2, h.now)
  else if k = 12 ∨ k = 13 ∨ k = 17 ∨ k = 18 then pushH h (lookV h k a x.2.toNat)
  else if k = 14 then pokeH h x.2.toNat a y
  else if k = 15 then backH h x.2.toNat y
  else if k = 16 then sayH h x
  else h
def opNext (ms : Ms) (c : Cl) : Int × Int := (ms.getD c.m.toNat (0, 0, [])).2.2.getD c.pc.toNat (0, 0)
def stepH (ms : Ms) (h : Hp) : Hp :=
  let c := curC h
  let op := opNext ms c
  let t := takesOf ms op.1 op.2
  let left := (c.stack.length : Int) - t.1
  if ((ms.getD c.m.toNat (0, 0, [])).2.2.length : Int) ≤ c.pc then codeH h 2
  else if left < 0 ∨ 6 < left + t.2 then codeH h 2
  else if kindsOk op.1 (c.stack.drop left.toNat) = false then codeH h 2
  else doH ms (setH h { c with stack := c.stack.take left.toNat, pc := c.pc + 1 }) op.1 op.2 (c.stack.drop left.toNat)
def runH (ms : Ms) : Nat → Hp → Hp
  | 0, h => h
  | n + 1, h => if h.code = 0 then runH ms n (stepH ms h) else h
/- the chain, where calls are turned -/
theorem walkC_congr {cs cs' : List Cl} (hl : cs'.length = cs.length) (h : ∀ i, (hi : i < cs.length) → (cs'[i]'(by omega)).dead = cs[i].dead ∧ (cs'[i]'(by omega)).sender = cs[i].sender) : ∀ (f : Nat) (a : Int), walkC cs' f a = walkC cs f a
  | 0, a => rfl
  | f + 1, a => by
    simp only [walkC]
    by_cases ha : a < 0
    · rw [if_pos ha, if_pos ha]
    · rw [if_neg ha, if_neg ha]
      by_cases hn : a.toNat < cs.length
      · rw [dif_pos hn, dif_pos (by omega), (h _ hn).1, (h _ hn).2, walkC_congr hl h f]
      · rw [dif_neg hn, dif_neg (by omega)]
theorem walkC_more {cs : List Cl} : ∀ (l : List Nat) (f f' : Nat) (a : Int), walkC cs f a = some l → l.length ≤ f' → walkC cs f' a = some l
  | [], f, f', a, h, _ => by
    by_cases ha : a < 0
    · exact walkC_neg ha
    · obtain ⟨g, n, hn, t, _, _, e, _⟩ := walkC_some h (by omega)
      cases e
  | k :: l, f, f', a, h, hl => by
    by_cases ha : a < 0
    · rw [walkC_neg ha] at h; cases h
    · obtain ⟨g, n, hn, t, _, rfl, e, hd, ht⟩ := walkC_some h (by omega)
      cases e
      obtain ⟨f'', rfl⟩ : ∃ f'', f' = f'' + 1 := ⟨f' - 1, by simp at hl; omega⟩
      rw [walkC_step hn hd, walkC_more l g f'' _ ht (by simpa using hl)]
      rfl
theorem walkC_set {cs : List Cl} {j : Nat} (c : Cl) : ∀ (l : List Nat) (f : Nat) (a : Int), walkC cs f a = some l → j ∉ l → walkC (cs.set j c) f a = some l
  | [], f, a, h, _ => by
    by_cases ha : a < 0
    · exact walkC_neg ha
    · obtain ⟨g, n, hn, t, _, _, e, _⟩ := walkC_some h (by omega)
      cases e
  | k :: l, f, a, h, hj => by
    by_cases ha : a < 0
    · rw [walkC_neg ha] at h; cases h
    · obtain ⟨g, n, hn, t, rfl, rfl, e, hd, ht⟩ := walkC_some h (by omega)
      cases e
      have hne : j ≠ k := fun e => hj (by rw [e]; exact List.mem_cons_self)
      have hk' : k < (cs.set j c).length := by simpa using hn
      have he : (cs.set j c)[k] = cs[k] := List.getElem_set_ne hne _
      rw [walkC_step hk' (by rw [he]; exact hd), he, walkC_set c l g _ ht (fun e => hj (List.mem_cons_of_mem _ e))]
      rfl
theorem walkC_append {cs : List Cl} (c : Cl) : ∀ (l : List Nat) (f : Nat) (a : Int), walkC cs f a = some l → walkC (cs ++ [c]) f a = some l
  | [], f, a, h => by
    by_cases ha : a < 0
    · exact walkC_neg ha
    · obtain ⟨g, n, hn, t, _, _, e, _⟩ := walkC_some h (by omega)
      cases e
  | k :: l, f, a, h => by
    by_cases ha : a < 0
    · rw [walkC_neg ha] at h; cases h
    · obtain ⟨g, n, hn, t, rfl, rfl, e, hd, ht⟩ := walkC_some h (by omega)
      cases e
      have hk' : k < (cs ++ [c]).length := by simp; omega
      have he : (cs ++ [c])[k] = cs[k] := List.getElem_append_left hn
      rw [walkC_step hk' (by rw [he]; exact hd), he, walkC_append c l g _ ht]
      rfl
structure Waits (cs : List Cl) (now : Int) (l : List Nat) : Prop where
  ch : ∃ f, walkC cs f now = some l
  all : ∀ k, (hk : k < cs.length) → cs[k].dead = false → k ∈ l
  room : ∀ k ∈ l.drop 1, ∀ hk : k < cs.length, cs[k].stack.length < 6
theorem Waits.nodup {cs : List Cl} {now : Int} {l : List Nat} (h : Waits cs now l) : l.Nodup := by
  obtain ⟨f, hf⟩ := h.ch
  exact walkC_nodup _ _ _ hf
theorem Waits.mem {cs : List Cl} {now : Int} {l : List Nat} (h : Waits cs now l) {k : Nat} (hk : k ∈ l) : ∃ h : k < cs.length, cs[k].dead = false := by
  obtain ⟨f, hf⟩ := h.ch
  exact walkC_in _ _ _ hf k hk
theorem Waits.len {cs : List Cl} {now : Int} {l : List Nat} (h : Waits cs now l) : l.length ≤ cs.length := by
  have := few_of_nodup l (List.range cs.length) h.nodup (fun k hk => List.mem_range.2 (h.mem hk).1)
  simpa using this
theorem Waits.chain {cs : List Cl} {now : Int} {l : List Nat} (h : Waits cs now l) : chainOf cs now = l := by
  obtain ⟨f, hf⟩ := h.ch
  unfold chainOf
  rw [walkC_more l f cs.length now hf h.len]
  rfl
end Go.Proofs.YtileneepajcbgaaDoor

/-
  An ok heap stays ok. Nothing of the translation is used here.
-/
namespace Go.Proofs.YtileneepajcbgaaDoor
structure ClP (ms : Ms) (n : Nat) (c : Cl) : Prop where
  m : 0 ≤ c.m ∧ c.m < (ms.length : Int)
  pc : 0 ≤ c.pc ∧ c.pc ≤ ((ms.getD c.m.toNat (0, 0, [])).2.2.length : Int)
  t : (c.temps.length : Int) = (ms.getD c.m.toNat (0, 0, [])).2.1
  s : c.stack.length ≤ 6
  sd : -1 ≤ c.sender ∧ c.sender < (n : Int)
  vt : valsOk n c.temps = true
  vs : valsOk n c.stack = true
  dd : c.dead = true → c.sender = -1 ∧ c.stack = []
theorem clOk_iff {ms : Ms} {n : Nat} {c : Cl} : clOk ms n c = true ↔ ClP ms n c := by
  simp only [clOk, Bool.and_eq_true, inR_true, decide_eq_true_iff]
  constructor
  · rintro ⟨⟨⟨⟨h1, h2⟩, h3⟩, h4⟩, ⟨⟨⟨h5, h6⟩, h7⟩, h8⟩⟩
    refine ⟨by omega, h2, h3, h4, by omega, h6, h7, fun hd => ?_⟩
    rw [hd] at h8
    simp at h8
    exact h8
  · rintro ⟨h1, h2, h3, h4, h5, h6, h7, h8⟩
    refine ⟨⟨⟨⟨by omega, h2⟩, h3⟩, h4⟩, ⟨⟨⟨by omega, h6⟩, h7⟩, ?_⟩⟩
    cases hd : c.dead
    · rfl
    · obtain ⟨e1, e2⟩ := h8 hd
      simp [e1, e2]
theorem valOk_mono {n n' : Nat} (hn : n ≤ n') {k a : Int} (h : valOk n k a = true) : valOk n' k a = true := by
  unfold valOk at h ⊢
  split at h
  · rename_i e; rw [if_pos e]; exact h
  · rename_i e; rw [if_neg e]
    split at h
    · rename_i e1; rw [if_pos e1]; exact h
    · rename_i e1; rw [if_neg e1]
      split at h
      · rename_i e2; rw [if_pos e2]; rw [inR_true] at h ⊢; omega
      · cases h
theorem valsOk_iff {n : Int} {l : List (Int × Int)} : valsOk n l = true ↔ ∀ v ∈ l, valOk n v.1 v.2 = true := by
  unfold valsOk
  rw [List.all_eq_true]
theorem valsOk_mono {n n' : Nat} (hn : n ≤ n') {l : List (Int × Int)} (h : valsOk n l = true) : valsOk n' l = true := by
  rw [valsOk_iff] at h ⊢
  exact fun v hv => valOk_mono hn (h v hv)
theorem ClP.mono {ms : Ms} {n n' : Nat} {c : Cl} (h : ClP ms n c) (hn : n ≤ n') : ClP ms n' c :=
  ⟨h.m, h.pc, h.t, h.s, by have := h.sd; omega, valsOk_mono hn h.vt, valsOk_mono hn h.vs, h.dd⟩
structure HeadP (ms : Ms) (h : Hp) : Prop where
  p : progOk ms = true
  now : -1 ≤ h.now ∧ h.now < (h.calls.length : Int)
  born : 1 ≤ h.born ∧ h.born ≤ 30
  few : (h.calls.length : Int) ≤ h.born
  code : 0 ≤ h.code ∧ h.code ≤ 3
  said : valsOk ms.length h.said = true
  fin : h.code = 1 ↔ h.now < 0
theorem headOk_iff {ms : Ms} {h : Hp} : headOk ms h = true ↔ HeadP ms h := by
  simp only [headOk, Bool.and_eq_true, inR_true, decide_eq_true_iff]
  constructor
  · rintro ⟨⟨⟨⟨⟨⟨h1, h2⟩, h3⟩, h4⟩, h5⟩, h6⟩, h7⟩
    refine ⟨h1, by omega, h3, h4, h5, h6, ?_⟩
    simp only [beq_iff_eq] at h7
    by_cases e : h.code = 1
    · rw [beq_iff_eq.2 e] at h7
      exact ⟨fun _ => of_decide_eq_true h7.symm, fun _ => e⟩
    · rw [beq_eq_false_iff_ne.2 e] at h7
      exact ⟨fun q => absurd q e, fun q => absurd q (of_decide_eq_false h7.symm)⟩
  · rintro ⟨h1, h2, h3, h4, h5, h6, h7⟩
    refine ⟨⟨⟨⟨⟨⟨h1, by omega⟩, h3⟩, h4⟩, h5⟩, h6⟩, ?_⟩
    simp only [beq_iff_eq]
    by_cases e : h.code = 1
    · rw [beq_iff_eq.2 e, decide_eq_true (h7.1 e)]
    · rw [beq_eq_false_iff_ne.2 e, decide_eq_false (fun q => e (h7.2 q))]
structure Good (ms : Ms) (h : Hp) : Prop where
  head : HeadP ms h
  cl : ∀ i, (hi : i < h.calls.length) → ClP ms h.calls.length h.calls[i]
  w : ∃ l, Waits h.calls h.now l
theorem alive_nodup (cs : List Cl) : (aliveL cs).Nodup := by
  unfold aliveL
  exact List.Pairwise.filter _ List.nodup_range
theorem good_iff {ms : Ms} {h : Hp} : heapOk ms h = true ↔ Good ms h := by
  unfold heapOk
  simp only [Bool.and_eq_true]
  constructor
  · rintro ⟨⟨h1, h2⟩, h3⟩
    have hh := headOk_iff.1 h1
    have hc : ∀ i, (hi : i < h.calls.length) → clOk ms h.calls.length h.calls[i] = true := fun i hi => List.all_eq_true.1 h2 _ (List.getElem_mem hi)
    refine ⟨hh, fun i hi => clOk_iff.1 (hc i hi), chainOf h.calls h.now, ?_⟩
    unfold endOk at h3
    simp only [Bool.and_eq_true, Bool.or_eq_true, decide_eq_true_iff, beq_iff_eq] at h3
    obtain ⟨⟨e1, e2⟩, e3⟩ := h3
    have hall : ∀ k, (hk : k < h.calls.length) → h.calls[k].dead = false → k ∈ chainOf h.calls h.now := fun k hk hd => chain_all e2 hk hd
    refine ⟨?_, hall, fun k hk hkl => ?_⟩
    · cases hw : walkC h.calls h.calls.length h.now with
      | some l => exact ⟨_, by unfold chainOf; rw [hw]; rfl⟩
      | none =>
        exfalso
        by_cases hn : h.now < 0
        · rw [walkC_neg hn] at hw; cases hw
        · have hlt : h.now.toNat < h.calls.length := by have := hh.now; omega
          rcases e1 with e1 | e1
          · exact hn e1
          · have hd : h.calls[h.now.toNat].dead = false := by simpa [hlt] using e1
            have := hall _ hlt hd
            unfold chainOf at this
            rw [hw] at this
            cases this
    · unfold roomP at e3
      rw [List.all_eq_true] at e3
      have := e3 k hk
      simpa [hkl] using this
  · rintro ⟨h1, h2, l, hw⟩
    refine ⟨⟨headOk_iff.2 h1, all_of fun i hi => clOk_iff.2 (h2 i hi)⟩, ?_⟩
    unfold endOk
    simp only [Bool.and_eq_true, Bool.or_eq_true, decide_eq_true_iff, beq_iff_eq]
    rw [hw.chain]
    refine ⟨⟨?_, ?_⟩, ?_⟩
    · by_cases hn : h.now < 0
      · exact .inl hn
      · obtain ⟨f, hf⟩ := hw.ch
        obtain ⟨g, n, hnl, t, _, e, _, hd, _⟩ := walkC_some hf (by omega)
        refine .inr ?_
        rw [e]
        simp [hnl, hd]
    · rw [← aliveL_len]
      have a1 := few_of_nodup l (aliveL h.calls) hw.nodup (fun k hk => mem_alive.2 (hw.mem hk))
      have a2 := few_of_nodup (aliveL h.calls) l (alive_nodup _) (fun k hk => by obtain ⟨q1, q2⟩ := mem_alive.1 hk; exact hw.all k q1 q2)
      omega
    · unfold roomP
      rw [List.all_eq_true]
      intro k hk
      obtain ⟨hkl, _⟩ := hw.mem (List.mem_of_mem_drop hk)
      have := hw.room k hk hkl
      simpa [hkl] using this
/- the chain of turned calls -/
theorem Waits.head {cs : List Cl} {j : Nat} {l : List Nat} (h : Waits cs (j : Int) l) : ∃ (hj : j < cs.length) (t : List Nat), l = j :: t ∧ cs[j].dead = false ∧ (∃ f, walkC cs f cs[j].sender = some t) ∧ j ∉ t := by
  have hn := h.nodup
  obtain ⟨f, hf⟩ := h.ch
  obtain ⟨g, n, hnl, t, _, e, e2, hd, ht⟩ := walkC_some hf (by omega)
  obtain rfl : j = n := by omega
  subst e2
  exact ⟨hnl, t, rfl, hd, ⟨g, ht⟩, (List.nodup_cons.1 hn).1⟩
theorem Waits.set_like {cs : List Cl} {now : Int} {l : List Nat} (h : Waits cs now l) (j : Nat) (hj : j < cs.length) (c : Cl) (hd : c.dead = cs[j].dead) (hs : c.sender = cs[j].sender) (hr : j ∈ l.drop 1 → c.stack.length < 6) : Waits (cs.set j c) now l := by
  have hl : (cs.set j c).length = cs.length := by simp
  have key : ∀ i, (hi : i < cs.length) → ((cs.set j c)[i]'(by omega)).dead = cs[i].dead ∧ ((cs.set j c)[i]'(by omega)).sender = cs[i].sender := fun i hi => by
    by_cases e : j = i
    · subst e; simp [hd, hs]
    · rw [List.getElem_set_ne e]; exact ⟨rfl, rfl⟩
  refine ⟨?_, fun k hk hkd => ?_, fun k hk hkl => ?_⟩
  · obtain ⟨f, hf⟩ := h.ch
    exact ⟨f, by rw [walkC_congr hl key]; exact hf⟩
  · rw [hl] at hk
    exact h.all k hk (by rw [← (key k hk).1]; exact hkd)
  · rw [hl] at hkl
    by_cases e : j = k
    · subst e; simp only [List.getElem_set_self]; exact hr hk
    · rw [List.getElem_set_ne e]; exact h.room k hk hkl
theorem Waits.set_cur {cs : List Cl} {j : Nat} {l : List Nat} (h : Waits cs (j : Int) l) (hj : j < cs.length) (c : Cl) (hd : c.dead = cs[j].dead) (hs : c.sender = cs[j].sender) : Waits (cs.set j c) (j : Int) l := by
  obtain ⟨_, t, rfl, _, _, hnt⟩ := h.head
  exact h.set_like j hj c hd hs (fun e => absurd (by simpa using e) hnt)
theorem Waits.leave {cs : List Cl} {j : Nat} {l : List Nat} (h : Waits cs (j : Int) l) (hj : j < cs.length) (c : Cl) (hd : c.dead = true) : ∃ t, l = j :: t ∧ Waits (cs.set j c) cs[j].sender t ∧ ∀ k ∈ t, ∀ hk : k < cs.length, cs[k].stack.length < 6 := by
  obtain ⟨_, t, rfl, hjd, ⟨f, hf⟩, hnt⟩ := h.head
  have hr : ∀ k ∈ t, ∀ hk : k < cs.length, cs[k].stack.length < 6 := fun k hk hkl => h.room k (by simpa using hk) hkl
  refine ⟨t, rfl, ⟨⟨f, walkC_set c t f _ hf hnt⟩, fun k hk hkd => ?_, fun k hk hkl => ?_⟩, hr⟩
  · have hk' : k < cs.length := by simpa using hk
    by_cases e : j = k
    · subst e; simp only [List.getElem_set_self] at hkd; rw [hd] at hkd; cases hkd
    · rw [List.getElem_set_ne e] at hkd
      rcases List.mem_cons.1 (h.all k hk' hkd) with q | q
      · exact absurd q.symm e
      · exact q
  · have hkt := List.mem_of_mem_drop hk
    have e : j ≠ k := fun e => hnt (by rw [e]; exact hkt)
    rw [List.getElem_set_ne e]
    exact hr k hkt (by simpa using hkl)
theorem Waits.call {cs : List Cl} {j : Nat} {l : List Nat} (h : Waits cs (j : Int) l) (hj : j < cs.length) (h6 : cs[j].stack.length < 6) (c : Cl) (hd : c.dead = false) (hs : c.sender = (j : Int)) : Waits (cs ++ [c]) (cs.length : Int) (cs.length :: l) := by
  have hn : cs.length < (cs ++ [c]).length := by simp
  have he : (cs ++ [c])[cs.length] = c := by simp
  obtain ⟨_, t, hl, _⟩ := h.head
  refine ⟨?_, fun k hk hkd => ?_, fun k hk hkl => ?_⟩
  · obtain ⟨f, hf⟩ := h.ch
    refine ⟨f + 1, ?_⟩
    rw [walkC_step hn (by rw [he]; exact hd), he, hs, walkC_append c l f _ hf]
    rfl
  · by_cases e : k < cs.length
    · rw [List.getElem_append_left e] at hkd
      exact List.mem_cons_of_mem _ (h.all k e hkd)
    · obtain rfl : k = cs.length := by simp at hk; omega
      exact List.mem_cons_self
  · have hkl' : k ∈ l := by simpa using hk
    obtain ⟨hk2, _⟩ := h.mem hkl'
    rw [List.getElem_append_left hk2]
    subst hl
    rcases List.mem_cons.1 hkl' with q | q
    · subst q; exact h6
    · exact h.room k (by simpa using q) hk2
end Go.Proofs.YtileneepajcbgaaDoor
