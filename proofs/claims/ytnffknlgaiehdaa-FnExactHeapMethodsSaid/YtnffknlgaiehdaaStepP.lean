/-
  One operation of a heap, in plain words, and that an ok heap stays ok. Nothing of the translation is used here.
-/
import Derived.Test.YtnffknlgaiehdaaHImpl5
import Derived.Test.YtnffknlgaiehdaaTakes2
namespace Go.Proofs.Ytnffknlgaiehdaa

abbrev Ms := List (Int × Int × List (Int × Int))

/-- the call that runs -/
def curC (h : Hp) : Cl := h.calls.getD h.now.toNat Cl.none
/-- the call that runs is turned -/
def setH (h : Hp) (c : Cl) : Hp := { h with calls := h.calls.set h.now.toNat c }
/-- a value is put to those of the call that runs -/
def pushH (h : Hp) (v : Int × Int) : Hp := setH h { curC h with stack := (curC h).stack ++ [v] }
/-- a call that has returned -/
def dieC (c : Cl) : Cl := { c with stack := [], sender := -1, dead := true }
/-- the call that runs returns; who called it runs -/
def leaveH (h : Hp) : Hp := { setH h (dieC (curC h)) with now := (curC h).sender }
/-- what is said of a value -/
def sayV (h : Hp) (v : Int × Int) : Int × Int := if v.1 = 2 then (2, (h.calls.getD v.2.toNat Cl.none).m) else v
def sayH (h : Hp) (v : Int × Int) : Hp := { h with said := h.said ++ [sayV h v] }
def codeH (h : Hp) (k : Int) : Hp := { h with code := k }

/-- a method is called -/
def callH (ms : Ms) (h : Hp) (m : Int) (args : List (Int × Int)) : Hp :=
  if 30 ≤ h.born then codeH h 3
  else { h with calls := h.calls ++ [⟨m, 0, args ++ List.replicate ((ms.getD m.toNat (0, 0, [])).2.1.toNat - args.length) (0, 0), [], h.now, false⟩], now := h.calls.length, born := h.born + 1 }

/-- a value is returned -/
def retH (h : Hp) (v : Int × Int) : Hp :=
  if (curC h).sender < 0 then codeH (sayH (leaveH h) v) 1 else pushH (leaveH h) v

/-- calls are left till that one runs -/
def backTo : Nat → Hp → Nat → Hp
  | 0, h, _ => h
  | f + 1, h, b => if h.now = b then h else backTo f (leaveH h) b

def backH (h : Hp) (b : Nat) (v : Int × Int) : Hp :=
  if (h.calls.getD b Cl.none).dead then codeH h 2 else pushH (backTo h.calls.length h b) v

def bitV (b : Bool) : Int × Int := (1, if b then 1 else 0)

/-- what is seen of a call -/
def lookV (h : Hp) (k a : Int) (at_ : Nat) : Int × Int :=
  let c := h.calls.getD at_ Cl.none
  if k = 12 then (if 0 ≤ c.sender then (2, c.sender) else (0, 0))
  else if k = 13 then c.temps.getD a.toNat (0, 0)
  else if k = 17 then bitV c.dead
  else (1, c.pc)

/-- values of the kinds that an operation takes -/
def kindsOk (k : Int) (args : List (Int × Int)) : Bool :=
  if k = 5 then (args.getD 0 (0, 0)).1 == 1 && (args.getD 1 (0, 0)).1 == 1
  else if k = 12 ∨ k = 13 ∨ k = 14 ∨ k = 15 ∨ k = 17 ∨ k = 18 then (args.getD 0 (0, 0)).1 == 2
  else true

/-- a temp of a call is set, if it has one -/
def pokeH (h : Hp) (at_ : Nat) (a : Int) (v : Int × Int) : Hp :=
  { h with calls := h.calls.set at_ { h.calls.getD at_ Cl.none with temps := (h.calls.getD at_ Cl.none).temps.set a.toNat v } }

/-- an operation is done with the values that it has taken -/
def doH (ms : Ms) (h : Hp) (k a : Int) (args : List (Int × Int)) : Hp :=
  let x := args.getD 0 (0, 0)
  let y := args.getD 1 (0, 0)
  if k = 1 then pushH h (1, a)
  else if k = 5 then pushH h (1, (x.2 + y.2) % 1000)
  else if k = 6 then pushH h (bitV (decide (x = y)))
  else if k = 2 then pushH h ((curC h).temps.getD a.toNat (0, 0))
  else if k = 3 then setH h { curC h with temps := (curC h).temps.set a.toNat x }
  else if k = 7 then setH h { curC h with pc := a }
  else if k = 8 then (if x.1 = 0 ∨ x = (1, 0) then setH h { curC h with pc := a } else h)
  else if k = 9 then callH ms h a args
  else if k = 10 then retH h x
  else if k = 11 then pushH h (2, h.now)
  else if k = 12 ∨ k = 13 ∨ k = 17 ∨ k = 18 then pushH h (lookV h k a x.2.toNat)
  else if k = 14 then pokeH h x.2.toNat a y
  else if k = 15 then backH h x.2.toNat y
  else if k = 16 then sayH h x
  else h

/-- the operation that is next -/
def opNext (ms : Ms) (c : Cl) : Int × Int := (ms.getD c.m.toNat (0, 0, [])).2.2.getD c.pc.toNat (0, 0)

/-- one operation -/
def stepH (ms : Ms) (h : Hp) : Hp :=
  let c := curC h
  let op := opNext ms c
  let t := takesOf ms op.1 op.2
  let left := (c.stack.length : Int) - t.1
  if ((ms.getD c.m.toNat (0, 0, [])).2.2.length : Int) ≤ c.pc then codeH h 2
  else if left < 0 ∨ 6 < left + t.2 then codeH h 2
  else if kindsOk op.1 (c.stack.drop left.toNat) = false then codeH h 2
  else doH ms (setH h { c with stack := c.stack.take left.toNat, pc := c.pc + 1 }) op.1 op.2 (c.stack.drop left.toNat)

/-- so many operations, as long as it runs -/
def runH (ms : Ms) : Nat → Hp → Hp
  | 0, h => h
  | n + 1, h => if h.code = 0 then runH ms n (stepH ms h) else h

/- the chain, where calls are turned -/

theorem walkC_congr {cs cs' : List Cl} (hl : cs'.length = cs.length) (h : ∀ i, (hi : i < cs.length) → (cs'[i]'(by omega)).dead = cs[i].dead ∧ (cs'[i]'(by omega)).sender = cs[i].sender) : ∀ (f : Nat) (a : Int), walkC cs' f a = walkC cs f a
  | 0, a => rfl
  | f + 1, a => by
    simp only [walkC]
    by_cases ha : a < 0
    · rw [if_pos ha, if_pos ha]
    · rw [if_neg ha, if_neg ha]
      by_cases hn : a.toNat < cs.length
      · rw [dif_pos hn, dif_pos (by omega), (h _ hn).1, (h _ hn).2, walkC_congr hl h f]
      · rw [dif_neg hn, dif_neg (by omega)]

theorem walkC_more {cs : List Cl} : ∀ (l : List Nat) (f f' : Nat) (a : Int), walkC cs f a = some l → l.length ≤ f' → walkC cs f' a = some l
  | [], f, f', a, h, _ => by
    by_cases ha : a < 0
    · exact walkC_neg ha
    · obtain ⟨g, n, hn, t, _, _, e, _⟩ := walkC_some h (by omega)
      cases e
  | k :: l, f, f', a, h, hl => by
    by_cases ha : a < 0
    · rw [walkC_neg ha] at h; cases h
    · obtain ⟨g, n, hn, t, _, rfl, e, hd, ht⟩ := walkC_some h (by omega)
      cases e
      obtain ⟨f'', rfl⟩ : ∃ f'', f' = f'' + 1 := ⟨f' - 1, by simp at hl; omega⟩
      rw [walkC_step hn hd, walkC_more l g f'' _ ht (by simpa using hl)]
      rfl

/-- a call that is not in the chain is turned -/
theorem walkC_set {cs : List Cl} {j : Nat} (c : Cl) : ∀ (l : List Nat) (f : Nat) (a : Int), walkC cs f a = some l → j ∉ l → walkC (cs.set j c) f a = some l
  | [], f, a, h, _ => by
    by_cases ha : a < 0
    · exact walkC_neg ha
    · obtain ⟨g, n, hn, t, _, _, e, _⟩ := walkC_some h (by omega)
      cases e
  | k :: l, f, a, h, hj => by
    by_cases ha : a < 0
    · rw [walkC_neg ha] at h; cases h
    · obtain ⟨g, n, hn, t, rfl, rfl, e, hd, ht⟩ := walkC_some h (by omega)
      cases e
      have hne : j ≠ k := fun e => hj (by rw [e]; exact List.mem_cons_self)
      have hk' : k < (cs.set j c).length := by simpa using hn
      have he : (cs.set j c)[k] = cs[k] := List.getElem_set_ne hne _
      rw [walkC_step hk' (by rw [he]; exact hd), he, walkC_set c l g _ ht (fun e => hj (List.mem_cons_of_mem _ e))]
      rfl

theorem walkC_append {cs : List Cl} (c : Cl) : ∀ (l : List Nat) (f : Nat) (a : Int), walkC cs f a = some l → walkC (cs ++ [c]) f a = some l
  | [], f, a, h => by
    by_cases ha : a < 0
    · exact walkC_neg ha
    · obtain ⟨g, n, hn, t, _, _, e, _⟩ := walkC_some h (by omega)
      cases e
  | k :: l, f, a, h => by
    by_cases ha : a < 0
    · rw [walkC_neg ha] at h; cases h
    · obtain ⟨g, n, hn, t, rfl, rfl, e, hd, ht⟩ := walkC_some h (by omega)
      cases e
      have hk' : k < (cs ++ [c]).length := by simp; omega
      have he : (cs ++ [c])[k] = cs[k] := List.getElem_append_left hn
      rw [walkC_step hk' (by rw [he]; exact hd), he, walkC_append c l g _ ht]
      rfl

/-- those that wait for one another: l, all that are not Dead, each behind the first with room -/
structure Waits (cs : List Cl) (now : Int) (l : List Nat) : Prop where
  ch : ∃ f, walkC cs f now = some l
  all : ∀ k, (hk : k < cs.length) → cs[k].dead = false → k ∈ l
  room : ∀ k ∈ l.drop 1, ∀ hk : k < cs.length, cs[k].stack.length < 6

theorem Waits.nodup {cs : List Cl} {now : Int} {l : List Nat} (h : Waits cs now l) : l.Nodup := by
  obtain ⟨f, hf⟩ := h.ch
  exact walkC_nodup _ _ _ hf
theorem Waits.mem {cs : List Cl} {now : Int} {l : List Nat} (h : Waits cs now l) {k : Nat} (hk : k ∈ l) : ∃ h : k < cs.length, cs[k].dead = false := by
  obtain ⟨f, hf⟩ := h.ch
  exact walkC_in _ _ _ hf k hk
theorem Waits.len {cs : List Cl} {now : Int} {l : List Nat} (h : Waits cs now l) : l.length ≤ cs.length := by
  have := few_of_nodup l (List.range cs.length) h.nodup (fun k hk => List.mem_range.2 (h.mem hk).1)
  simpa using this
theorem Waits.chain {cs : List Cl} {now : Int} {l : List Nat} (h : Waits cs now l) : chainOf cs now = l := by
  obtain ⟨f, hf⟩ := h.ch
  unfold chainOf
  rw [walkC_more l f cs.length now hf h.len]
  rfl

end Go.Proofs.Ytnffknlgaiehdaa
