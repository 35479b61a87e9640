/-
  An ok heap that runs is ok behind one operation, and behind any number. Nothing of the translation is used here.
-/
import Derived.Test.YtileneepajcbgaaDoorStepP

namespace Go.Proofs.YtileneepajcbgaaDoor
theorem valOk_none (n : Int) : valOk n 0 0 = true := by simp [valOk]
theorem valOk_num {n a : Int} (h0 : 0 ≤ a) (h1 : a ≤ 999) : valOk n 1 a = true := by
  unfold valOk
  rw [if_neg (by decide), if_pos rfl, inR_true]
  exact ⟨h0, h1⟩
theorem valOk_ref {n : Nat} {a : Int} (h0 : 0 ≤ a) (h1 : a < (n : Int)) : valOk n 2 a = true := by
  unfold valOk
  rw [if_neg (by decide), if_neg (by decide), if_pos rfl, inR_true]
  omega
theorem valOk_ref' {n : Nat} {a : Int} (h : valOk n 2 a = true) : 0 ≤ a ∧ a < (n : Int) := by
  unfold valOk at h
  rw [if_neg (by decide), if_neg (by decide), if_pos rfl, inR_true] at h
  omega
theorem valOk_else {n n' : Int} {k a : Int} (hk : k ≠ 2) (h : valOk n k a = true) : valOk n' k a = true := by
  unfold valOk at h ⊢
  split at h
  · rename_i e; rw [if_pos e]; exact h
  · rename_i e; rw [if_neg e]
    split at h
    · rename_i e1; rw [if_pos e1]; exact h
    · cases h
theorem valOk_bit (n : Int) (b : Bool) : valOk n (bitV b).1 (bitV b).2 = true := by
  unfold bitV
  cases b
  · exact valOk_num (by decide) (by decide)
  · exact valOk_num (by decide) (by decide)
theorem vals_getD {n : Int} {l : List (Int × Int)} (h : valsOk n l = true) (i : Nat) : valOk n (l.getD i (0, 0)).1 (l.getD i (0, 0)).2 = true := by
  by_cases hi : i < l.length
  · rw [show l.getD i (0, 0) = l[i] by simp [hi]]
    exact valsOk_iff.1 h _ (List.getElem_mem hi)
  · rw [show l.getD i (0, 0) = (0, 0) by simp [hi]]
    exact valOk_none n
theorem vals_append {n : Int} {l l' : List (Int × Int)} (h : valsOk n l = true) (h' : valsOk n l' = true) : valsOk n (l ++ l') = true := by
  rw [valsOk_iff] at *
  intro v hv
  rcases List.mem_append.1 hv with q | q
  · exact h v q
  · exact h' v q
theorem vals_one {n : Int} {v : Int × Int} (h : valOk n v.1 v.2 = true) : valsOk n [v] = true := by
  rw [valsOk_iff]
  intro u hu
  simp at hu
  subst hu
  exact h
theorem vals_set {n : Int} {l : List (Int × Int)} (h : valsOk n l = true) (i : Nat) {v : Int × Int} (hv : valOk n v.1 v.2 = true) : valsOk n (l.set i v) = true := by
  rw [valsOk_iff] at *
  intro u hu
  rcases List.mem_or_eq_of_mem_set hu with q | q
  · exact h u q
  · subst q; exact hv
theorem vals_take {n : Int} {l : List (Int × Int)} (h : valsOk n l = true) (k : Nat) : valsOk n (l.take k) = true := by
  rw [valsOk_iff] at *
  exact fun v hv => h v (List.mem_of_mem_take hv)
theorem vals_drop {n : Int} {l : List (Int × Int)} (h : valsOk n l = true) (k : Nat) : valsOk n (l.drop k) = true := by
  rw [valsOk_iff] at *
  exact fun v hv => h v (List.mem_of_mem_drop hv)
theorem vals_nones (n : Int) (k : Nat) : valsOk n (List.replicate k (0, 0)) = true := by
  rw [valsOk_iff]
  intro v hv
  rw [List.eq_of_mem_replicate hv]
  exact valOk_none n
structure MethP (ms : Ms) (m : Int × Int × List (Int × Int)) : Prop where
  args : 0 ≤ m.1 ∧ m.1 ≤ 2
  temps : m.1 ≤ m.2.1 ∧ m.2.1 ≤ 4
  few : m.2.2.length ≤ 14
  ops : ∀ op ∈ m.2.2, opOk ms.length m.2.2.length m.2.1 op.1 op.2 = true
theorem prog_meth {ms : Ms} (hp : progOk ms = true) {m : Nat} (hm : m < ms.length) : MethP ms ms[m] := by
  unfold progOk at hp
  simp only [Bool.and_eq_true] at hp
  have := List.all_eq_true.1 hp.2 _ (List.getElem_mem hm)
  unfold methOk at this
  simp only [Bool.and_eq_true, inR_true, decide_eq_true_iff] at this
  exact ⟨this.1.1.1, this.1.1.2, this.1.2, fun op ho => List.all_eq_true.1 this.2 op ho⟩
theorem set_cur {h : Hp} {j : Nat} (hn : h.now = j) (hj : j < h.calls.length) (c : Cl) : curC (setH h c) = c := by
  unfold curC setH
  simp [hn, hj]
theorem cur_at {h : Hp} {j : Nat} (hn : h.now = j) (hj : j < h.calls.length) : curC h = h.calls[j] := by
  unfold curC
  simp [hn, hj]
theorem Good.set {ms : Ms} {h : Hp} (g : Good ms h) {j : Nat} (_hj : j < h.calls.length) {c : Cl} (hc : ClP ms h.calls.length c) {l : List Nat} (hw : Waits (h.calls.set j c) h.now l) : Good ms { h with calls := h.calls.set j c } := by
  have hl : (h.calls.set j c).length = h.calls.length := by simp
  refine ⟨⟨g.head.p, by simp only [hl]; exact g.head.now, g.head.born, by simp only [hl]; exact g.head.few, g.head.code, g.head.said, g.head.fin⟩, fun i hi => ?_, l, hw⟩
  simp only [hl] at hi ⊢
  by_cases e : j = i
  · subst e; simp only [List.getElem_set_self]; exact hc
  · rw [List.getElem_set_ne e]; exact g.cl i hi
theorem Good.cur {ms : Ms} {h : Hp} (g : Good ms h) {j : Nat} (hn : h.now = j) (hj : j < h.calls.length) {c : Cl} (hc : ClP ms h.calls.length c) (hd : c.dead = h.calls[j].dead) (hs : c.sender = h.calls[j].sender) : Good ms (setH h c) := by
  obtain ⟨l, hw⟩ := g.w
  unfold setH
  have e : h.now.toNat = j := by omega
  rw [e]
  refine g.set hj hc (l := l) ?_
  rw [hn] at hw ⊢
  exact hw.set_cur hj c hd hs
theorem Good.push {ms : Ms} {h : Hp} (g : Good ms h) {j : Nat} (hn : h.now = j) (hj : j < h.calls.length) (h6 : h.calls[j].stack.length < 6) {v : Int × Int} (hv : valOk h.calls.length v.1 v.2 = true) (hd : h.calls[j].dead = false) : Good ms (pushH h v) := by
  unfold pushH
  rw [cur_at hn hj]
  have c := g.cl j hj
  exact g.cur hn hj ⟨c.m, c.pc, c.t, by simp; omega, c.sd, c.vt, vals_append c.vs (vals_one hv), fun q => by rw [hd] at q; cases q⟩ rfl rfl
theorem Good.code {ms : Ms} {h : Hp} (g : Good ms h) (hn : 0 ≤ h.now) {k : Int} (hk : k = 2 ∨ k = 3) : Good ms (codeH h k) :=
  ⟨⟨g.head.p, g.head.now, g.head.born, g.head.few, by unfold codeH; simp only []; omega, g.head.said, ⟨fun e => by unfold codeH at e; simp only [] at e; omega, fun e => by unfold codeH at e; simp only [] at e; omega⟩⟩, g.cl, g.w⟩
theorem Good.die {ms : Ms} {h : Hp} (g : Good ms h) {j : Nat} (hj : j < h.calls.length) : ClP ms h.calls.length (dieC h.calls[j]) := by
  have c := g.cl j hj
  exact ⟨c.m, c.pc, c.t, by simp [dieC], by simp [dieC]; omega, c.vt, rfl, fun _ => ⟨rfl, rfl⟩⟩
theorem Good.leave {ms : Ms} {h : Hp} (g : Good ms h) {j : Nat} (hn : h.now = j) (hj : j < h.calls.length) (hs : 0 ≤ h.calls[j].sender) (hc : h.code = 0) : Good ms (leaveH h) := by
  obtain ⟨l, hw⟩ := g.w
  rw [hn] at hw
  obtain ⟨t, _, hw', _⟩ := hw.leave hj (dieC h.calls[j]) rfl
  have e : h.now.toNat = j := by omega
  have hl : (h.calls.set j (dieC h.calls[j])).length = h.calls.length := by simp
  have c := g.cl j hj
  unfold leaveH setH
  rw [cur_at hn hj, e]
  refine ⟨⟨g.head.p, ?_, g.head.born, by simp only [hl]; exact g.head.few, g.head.code, g.head.said, ⟨fun e => by simp only [] at e; omega, fun e => by simp only [] at e; omega⟩⟩, fun i hi => ?_, t, hw'⟩
  · simp only [hl]; have := c.sd; omega
  · simp only [hl] at hi ⊢
    by_cases e : j = i
    · subst e; simp only [List.getElem_set_self]; exact g.die hj
    · rw [List.getElem_set_ne e]; exact g.cl i hi
theorem vals_say {ms : Ms} {h : Hp} (g : Good ms h) {v : Int × Int} (hv : valOk h.calls.length v.1 v.2 = true) : valOk ms.length (sayV h v).1 (sayV h v).2 = true := by
  unfold sayV
  by_cases e : v.1 = 2
  · rw [if_pos e]
    rw [e] at hv
    have hr := valOk_ref' hv
    have hlt : v.2.toNat < h.calls.length := by omega
    rw [show h.calls.getD v.2.toNat Cl.none = h.calls[v.2.toNat] by simp [hlt]]
    have := (g.cl _ hlt).m
    exact valOk_ref this.1 this.2
  · rw [if_neg e]
    exact valOk_else e hv
theorem Good.fin {ms : Ms} {h : Hp} (g : Good ms h) {j : Nat} (hn : h.now = j) (hj : j < h.calls.length) (hs : h.calls[j].sender < 0) {v : Int × Int} (hv : valOk h.calls.length v.1 v.2 = true) : Good ms (codeH (sayH (leaveH h) v) 1) := by
  obtain ⟨l, hw⟩ := g.w
  rw [hn] at hw
  obtain ⟨t, _, hw', _⟩ := hw.leave hj (dieC h.calls[j]) rfl
  have e : h.now.toNat = j := by omega
  have hl : (h.calls.set j (dieC h.calls[j])).length = h.calls.length := by simp
  have c := g.cl j hj
  have hsay : sayV (leaveH h) v = sayV h v := by
    unfold sayV
    by_cases e2 : v.1 = 2
    · rw [if_pos e2, if_pos e2]
      congr 1
      unfold leaveH setH
      rw [cur_at hn hj, e]
      by_cases e3 : j = v.2.toNat
      · rw [← e3]; simp [hj, dieC]
      · simp [List.getElem?_set_ne e3]
    · rw [if_neg e2, if_neg e2]
  unfold codeH sayH
  rw [hsay]
  unfold leaveH setH
  rw [cur_at hn hj, e]
  refine ⟨⟨g.head.p, ?_, g.head.born, by simp only [hl]; exact g.head.few, by simp, vals_append g.head.said (vals_one (vals_say g hv)), ⟨fun _ => hs, fun _ => rfl⟩⟩, fun i hi => ?_, t, hw'⟩
  · simp only [hl]; have := c.sd; omega
  · simp only [hl] at hi ⊢
    by_cases e : j = i
    · subst e; simp only [List.getElem_set_self]; exact g.die hj
    · rw [List.getElem_set_ne e]; exact g.cl i hi
theorem leave_at {h : Hp} {j : Nat} (hn : h.now = j) (hj : j < h.calls.length) : (leaveH h).calls = h.calls.set j (dieC h.calls[j]) ∧ (leaveH h).now = h.calls[j].sender ∧ (leaveH h).code = h.code := by
  have e : h.now.toNat = j := by omega
  unfold leaveH setH
  rw [cur_at hn hj, e]
  exact ⟨rfl, rfl, rfl⟩
theorem backTo_here {f : Nat} {h : Hp} {b : Nat} (e : h.now = b) : backTo (f + 1) h b = h := by
  unfold backTo
  rw [if_pos e]
theorem backTo_on {f : Nat} {h : Hp} {b : Nat} (e : ¬ h.now = b) : backTo (f + 1) h b = backTo f (leaveH h) b := by
  conv => lhs; unfold backTo
  rw [if_neg e]
theorem Good.back {ms : Ms} : ∀ (f : Nat) (h : Hp) (b : Nat) (l : List Nat), Good ms h → h.code = 0 → Waits h.calls h.now l → b ∈ l → l.length ≤ f → (∀ hb : b < h.calls.length, h.calls[b].stack.length < 6) →
    Good ms (backTo f h b) ∧ (backTo f h b).code = 0 ∧ (backTo f h b).now = b ∧ (backTo f h b).calls.length = h.calls.length ∧ (∀ hb : b < (backTo f h b).calls.length, (backTo f h b).calls[b].stack.length < 6 ∧ (backTo f h b).calls[b].dead = false)
  | 0, h, b, l, g, hc, hw, hb, hl, h6 => by
    cases l with
    | nil => cases hb
    | cons => simp at hl
  | f + 1, h, b, l, g, hc, hw, hb, hl, h6 => by
    by_cases e : h.now = b
    · rw [backTo_here e]
      exact ⟨g, hc, e, rfl, fun hb' => ⟨h6 hb', (hw.mem hb).2⟩⟩
    · rw [backTo_on e]
      have hn0 : 0 ≤ h.now := by
        by_cases q : h.now < 0
        · obtain ⟨f', hf'⟩ := hw.ch
          rw [walkC_neg q] at hf'
          cases hf'
          cases hb
        · omega
      obtain ⟨j, hn⟩ : ∃ j : Nat, h.now = j := ⟨h.now.toNat, by omega⟩
      rw [hn] at hw
      have hj : j < h.calls.length := hw.head.1
      obtain ⟨t, rfl, hw', hr⟩ := hw.leave hj (dieC h.calls[j]) rfl
      have hbt : b ∈ t := by
        rcases List.mem_cons.1 hb with q | q
        · exact absurd (by rw [hn, q]) e
        · exact q
      have hs0 : 0 ≤ h.calls[j].sender := by
        by_cases q : h.calls[j].sender < 0
        · obtain ⟨f', hf'⟩ := hw'.ch
          rw [walkC_neg q] at hf'
          cases hf'
          cases hbt
        · omega
      obtain ⟨a1, a2, a3⟩ := leave_at hn hj
      have hlen : (leaveH h).calls.length = h.calls.length := by rw [a1]; simp
      have hbj : j ≠ b := fun q => e (by rw [hn, q])
      have hh6 : ∀ hb : b < (leaveH h).calls.length, (leaveH h).calls[b].stack.length < 6 := fun hb' => by
        simp only [a1]
        rw [List.getElem_set_ne hbj]
        exact h6 (by omega)
      have hw2 : Waits (leaveH h).calls (leaveH h).now t := by rw [a1, a2]; exact hw'
      obtain ⟨r1, r2, r3, r4, r5⟩ := Good.back f (leaveH h) b t (g.leave hn hj hs0 hc) (by rw [a3]; exact hc) hw2 hbt (by simpa using hl) hh6
      exact ⟨r1, r2, r3, by rw [r4]; exact hlen, r5⟩
end Go.Proofs.YtileneepajcbgaaDoor

/-
  An ok heap that runs is ok behind one operation, and behind any number. Nothing of the translation is used here.
-/
namespace Go.Proofs.YtileneepajcbgaaDoor
theorem getD_at {α : Type} {l : List α} {i : Nat} (h : i < l.length) (d : α) : l.getD i d = l[i] := by simp [h]
structure Doing (ms : Ms) (h : Hp) (j : Nat) (k a : Int) (args : List (Int × Int)) : Prop where
  g : Good ms h
  code : h.code = 0
  now : h.now = j
  lt : j < h.calls.length
  live : h.calls[j].dead = false
  kind : 1 ≤ k ∧ k ≤ 18
  op : ∃ (m : Nat) (hm : m < ms.length), h.calls[j].m = m ∧ opOk ms.length ms[m].2.2.length ms[m].2.1 k a = true
  takes : (args.length : Int) = (takesOf ms k a).1
  room : (h.calls[j].stack.length : Int) + (takesOf ms k a).2 ≤ 6
  vals : valsOk h.calls.length args = true
  kinds : kindsOk k args = true
theorem takes_num {ms : Ms} {k a : Int} (h : k ≠ 9) : takesOf ms k a = (tk k, lv k) := by
  unfold takesOf
  rw [if_neg h]
theorem Doing.free {ms : Ms} {h : Hp} {j : Nat} {k a : Int} {args : List (Int × Int)} (d : Doing ms h j k a args) (hl : (takesOf ms k a).2 = 1) : (h.calls[j]'d.lt).stack.length < 6 := by
  have := d.room
  rw [hl] at this
  omega
theorem Doing.push {ms : Ms} {h : Hp} {j : Nat} {k a : Int} {args : List (Int × Int)} (d : Doing ms h j k a args) (hl : (takesOf ms k a).2 = 1) {v : Int × Int} (hv : valOk h.calls.length v.1 v.2 = true) : Good ms (pushH h v) :=
  d.g.push d.now d.lt (d.free hl) hv d.live
theorem opOk_kind {nm no : Nat} {t k a : Int} (h : opOk nm no t k a = true) : 1 ≤ k ∧ k ≤ 18 := by
  unfold opOk at h
  by_cases h1 : k = 1
  · omega
  rw [if_neg h1] at h
  by_cases h2 : k = 2 ∨ k = 3
  · omega
  rw [if_neg h2] at h
  by_cases h3 : k = 7 ∨ k = 8
  · omega
  rw [if_neg h3] at h
  by_cases h4 : k = 9
  · omega
  rw [if_neg h4] at h
  by_cases h5 : k = 13 ∨ k = 14
  · omega
  rw [if_neg h5] at h
  simp only [Bool.and_eq_true, inR_true] at h
  exact h.1
theorem Doing.first {ms : Ms} {h : Hp} {j : Nat} {k a : Int} {args : List (Int × Int)} (d : Doing ms h j k a args) (i : Nat) : valOk h.calls.length (args.getD i (0, 0)).1 (args.getD i (0, 0)).2 = true := vals_getD d.vals i
theorem Doing.ref {ms : Ms} {h : Hp} {j : Nat} {k a : Int} {args : List (Int × Int)} (d : Doing ms h j k a args) (hk : k = 12 ∨ k = 13 ∨ k = 14 ∨ k = 15 ∨ k = 17 ∨ k = 18) : (args.getD 0 (0, 0)).1 = 2 ∧ 0 ≤ (args.getD 0 (0, 0)).2 ∧ (args.getD 0 (0, 0)).2.toNat < h.calls.length := by
  have hq := d.kinds
  unfold kindsOk at hq
  rw [if_neg (by omega), if_pos hk, beq_iff_eq] at hq
  have hv := d.first 0
  rw [hq] at hv
  have := valOk_ref' hv
  exact ⟨hq, this.1, by omega⟩
theorem Good.do {ms : Ms} {h : Hp} {j : Nat} {k a : Int} {args : List (Int × Int)} (d : Doing ms h j k a args) : Good ms (doH ms h k a args) := by
  have hlt := d.lt
  obtain ⟨m, hm, hcm, hop⟩ := d.op
  have hP := prog_meth d.g.head.p hm
  have c := d.g.cl j d.lt
  have hmg : ms.getD h.calls[j].m.toNat (0, 0, []) = ms[m] := by rw [hcm]; simp [hm]
  have hcur := cur_at d.now d.lt
  have hn0 : 0 ≤ h.now := by rw [d.now]; omega
  have hset : ∀ c' : Cl, ClP ms h.calls.length c' → c'.dead = h.calls[j].dead → c'.sender = h.calls[j].sender → Good ms (setH h c') := fun c' q1 q2 q3 => d.g.cur d.now d.lt q1 q2 q3
  unfold doH
  simp only []
  by_cases h1 : k = 1
  · rw [if_pos h1]; subst h1
    refine d.push (by rw [takes_num (by decide)]; rfl) (valOk_num ?_ ?_)
    all_goals
      have := hop
      simp only [opOk, if_true, inR_true] at this
      simp only []
      omega
  rw [if_neg h1]
  by_cases h5 : k = 5
  · rw [if_pos h5]; subst h5
    refine d.push (by rw [takes_num (by decide)]; rfl) (valOk_num ?_ ?_)
    · exact Int.emod_nonneg _ (by decide)
    · have := Int.emod_lt_of_pos ((args.getD 0 (0, 0)).2 + (args.getD 1 (0, 0)).2) (show (0 : Int) < 1000 by decide)
      simp only []
      omega
  rw [if_neg h5]
  by_cases h6 : k = 6
  · rw [if_pos h6]; subst h6
    exact d.push (by rw [takes_num (by decide)]; rfl) (valOk_bit _ _)
  rw [if_neg h6]
  by_cases h2 : k = 2
  · rw [if_pos h2]; subst h2
    refine d.push (by rw [takes_num (by decide)]; rfl) ?_
    rw [hcur]
    exact vals_getD c.vt _
  rw [if_neg h2]
  by_cases h3 : k = 3
  · rw [if_pos h3]; subst h3
    rw [hcur]
    exact hset _ ⟨c.m, c.pc, by simp only [List.length_set]; exact c.t, c.s, c.sd, vals_set c.vt _ (d.first 0), c.vs, c.dd⟩ rfl rfl
  rw [if_neg h3]
  have hjump : k = 7 ∨ k = 8 → Good ms (setH h { curC h with pc := a }) := fun hk => by
    rw [hcur]
    have ho := hop
    unfold opOk at ho
    rw [if_neg (by omega), if_neg (by omega), if_pos hk, inR_true] at ho
    exact hset _ ⟨c.m, by simp only []; rw [hmg]; omega, c.t, c.s, c.sd, c.vt, c.vs, c.dd⟩ rfl rfl
  by_cases h7 : k = 7
  · rw [if_pos h7]; exact hjump (.inl h7)
  rw [if_neg h7]
  by_cases h8 : k = 8
  · rw [if_pos h8]
    split
    · exact hjump (.inr h8)
    · exact d.g
  rw [if_neg h8]
  by_cases h9 : k = 9
  · rw [if_pos h9]; subst h9
    unfold callH
    by_cases hb : 30 ≤ h.born
    · rw [if_pos hb]; exact d.g.code hn0 (.inr rfl)
    rw [if_neg hb]
    have ho := hop
    unfold opOk at ho
    rw [if_neg (by decide), if_neg (by decide), if_neg (by decide), if_pos rfl, inR_true] at ho
    obtain ⟨a', rfl⟩ := Int.eq_ofNat_of_zero_le ho.1
    have ha : a' < ms.length := by omega
    have hA := prog_meth d.g.head.p ha
    have htk := takesOf_call ha
    have h6 := d.free (by rw [htk])
    have hal : (args.length : Int) = ms[a'].1 := by rw [d.takes, htk]
    have hga : ms.getD ((a' : Int)).toNat (0, 0, []) = ms[a'] := by simp [ha]
    rw [hga]
    obtain ⟨l, hw⟩ := d.g.w
    rw [d.now] at hw
    have hw' := hw.call d.lt h6 ⟨(a' : Int), 0, args ++ List.replicate (ms[a'].2.1.toNat - args.length) (0, 0), [], h.now, false⟩ rfl d.now
    have hlen : (h.calls ++ [(⟨(a' : Int), 0, args ++ List.replicate (ms[a'].2.1.toNat - args.length) (0, 0), [], h.now, false⟩ : Cl)]).length = h.calls.length + 1 := by simp
    have hb1 := d.g.head.born
    have hb2 := d.g.head.few
    refine ⟨⟨d.g.head.p, ?_, by simp only []; omega, by simp only [hlen]; omega, d.g.head.code, d.g.head.said, ⟨fun e => by (have e' : h.code = 1 := e; rw [d.code] at e'; cases e'), fun e => by (have e' : ((h.calls.length : Nat) : Int) < 0 := e; omega)⟩⟩, fun i hi => ?_, _, hw'⟩
    · simp only [hlen]; omega
    · simp only [hlen] at hi ⊢
      by_cases e : i < h.calls.length
      · rw [List.getElem_append_left e]
        exact (d.g.cl i e).mono (Nat.le_succ _)
      · obtain rfl : i = h.calls.length := by omega
        simp only [List.getElem_append_right (Nat.le_refl _), Nat.sub_self, List.getElem_singleton]
        refine ⟨by simp only []; omega, by simp only [hga]; omega, ?_, by simp, by simp only []; rw [d.now]; omega, ?_, rfl, fun e => by cases e⟩
        · simp only [hga, List.length_append, List.length_replicate]
          have := hA.temps
          omega
        · exact vals_append (valsOk_mono (Nat.le_succ _) d.vals) (vals_nones _ _)
  rw [if_neg h9]
  by_cases h10 : k = 10
  · rw [if_pos h10]; subst h10
    unfold retH
    rw [hcur]
    by_cases hs : h.calls[j].sender < 0
    · rw [if_pos hs]
      exact d.g.fin d.now d.lt hs (d.first 0)
    · rw [if_neg hs]
      have hs0 : 0 ≤ h.calls[j].sender := by omega
      obtain ⟨a1, a2, _⟩ := leave_at d.now d.lt
      have hg := d.g.leave d.now d.lt hs0 d.code
      obtain ⟨l, hw⟩ := d.g.w
      rw [d.now] at hw
      obtain ⟨t, _, hw', hr⟩ := hw.leave d.lt (dieC h.calls[j]) rfl
      obtain ⟨s, hse⟩ : ∃ s : Nat, h.calls[j].sender = s := ⟨h.calls[j].sender.toNat, by omega⟩
      rw [hse] at hw'
      obtain ⟨hsl, t', rfl, hsd, _, _⟩ := hw'.head
      have hlen : (leaveH h).calls.length = h.calls.length := by rw [a1]; simp
      have hsl' : s < h.calls.length := by simpa using hsl
      have hjs : j ≠ s := fun q => by
        subst q
        simp only [List.getElem_set_self] at hsd
        cases hsd
      have hat : ∀ q : s < (leaveH h).calls.length, (leaveH h).calls[s] = h.calls[s] := fun q => by
        simp only [a1]
        rw [List.getElem_set_ne hjs]
      have hlv : s < (leaveH h).calls.length := by omega
      refine hg.push (j := s) (by rw [a2, hse]) hlv (by rw [hat]; exact hr s List.mem_cons_self hsl') (by rw [hlen]; exact d.first 0) ?_
      rw [hat]
      rw [List.getElem_set_ne hjs] at hsd
      exact hsd
  rw [if_neg h10]
  by_cases h11 : k = 11
  · rw [if_pos h11]; subst h11
    refine d.push (by rw [takes_num (by decide)]; rfl) (valOk_ref hn0 ?_)
    rw [d.now]
    have := d.lt
    simp only []
    omega
  rw [if_neg h11]
  by_cases hl : k = 12 ∨ k = 13 ∨ k = 17 ∨ k = 18
  · rw [if_pos hl]
    obtain ⟨_, _, hr⟩ := d.ref (by omega)
    have hlv : (takesOf ms k a).2 = 1 := by
      rw [takes_num (by omega)]
      rcases hl with e | e | e | e <;> subst e <;> rfl
    refine d.push hlv ?_
    have cr := d.g.cl _ hr
    unfold lookV
    simp only []
    rw [getD_at hr]
    by_cases e12 : k = 12
    · rw [if_pos e12]
      split
      · rename_i q; exact valOk_ref q cr.sd.2
      · exact valOk_none _
    rw [if_neg e12]
    by_cases e13 : k = 13
    · rw [if_pos e13]; exact vals_getD cr.vt _
    rw [if_neg e13]
    by_cases e17 : k = 17
    · rw [if_pos e17]; exact valOk_bit _ _
    rw [if_neg e17]
    have hlm : h.calls[(args.getD 0 (0, 0)).2.toNat].m.toNat < ms.length := by have := cr.m; omega
    have hfew := (prog_meth d.g.head.p hlm).few
    have hpc := cr.pc
    rw [getD_at hlm] at hpc
    exact valOk_num hpc.1 (by simp only []; omega)
  rw [if_neg hl]
  by_cases h14 : k = 14
  · rw [if_pos h14]
    obtain ⟨_, _, hr⟩ := d.ref (by omega)
    have cr := d.g.cl _ hr
    unfold pokeH
    rw [getD_at hr]
    obtain ⟨l, hw⟩ := d.g.w
    exact d.g.set hr ⟨cr.m, cr.pc, by simp only [List.length_set]; exact cr.t, cr.s, cr.sd, vals_set cr.vt _ (d.first 1), cr.vs, cr.dd⟩ (hw.set_like _ hr _ rfl rfl (fun q => hw.room _ q hr))
  rw [if_neg h14]
  by_cases h15 : k = 15
  · rw [if_pos h15]; subst h15
    obtain ⟨_, _, hr⟩ := d.ref (by decide)
    unfold backH
    rw [getD_at hr]
    by_cases hd : h.calls[(args.getD 0 (0, 0)).2.toNat].dead = true
    · rw [if_pos hd]; exact d.g.code hn0 (.inl rfl)
    rw [if_neg hd]
    obtain ⟨l, hw⟩ := d.g.w
    have hbl : (args.getD 0 (0, 0)).2.toNat ∈ l := hw.all _ hr (by simpa using hd)
    have h6 : ∀ hb : (args.getD 0 (0, 0)).2.toNat < h.calls.length, h.calls[(args.getD 0 (0, 0)).2.toNat].stack.length < 6 := fun hb => by
      have hw2 := hw
      rw [d.now] at hw2
      obtain ⟨_, t, rfl, _⟩ := hw2.head
      rcases List.mem_cons.1 hbl with q | q
      · have := d.free (by rw [takes_num (by decide)]; rfl)
        simp only [q]
        exact this
      · exact hw.room _ (by simpa using q) hb
    obtain ⟨r1, _, r3, r4, r5⟩ := Good.back h.calls.length h _ l d.g d.code hw hbl hw.len h6
    have hlt : (args.getD 0 (0, 0)).2.toNat < (backTo h.calls.length h (args.getD 0 (0, 0)).2.toNat).calls.length := by rw [r4]; exact hr
    exact r1.push r3 hlt (r5 hlt).1 (by rw [r4]; exact d.first 1) (r5 hlt).2
  rw [if_neg h15]
  by_cases h16 : k = 16
  · rw [if_pos h16]
    exact ⟨⟨d.g.head.p, d.g.head.now, d.g.head.born, d.g.head.few, d.g.head.code, vals_append d.g.head.said (vals_one (vals_say d.g (d.first 0))), d.g.head.fin⟩, d.g.cl, d.g.w⟩
  rw [if_neg h16]
  exact d.g
theorem Good.doing {ms : Ms} {h : Hp} (g : Good ms h) (hc : h.code = 0) (h1 : ¬ ((ms.getD (curC h).m.toNat (0, 0, [])).2.2.length : Int) ≤ (curC h).pc)
    (h2 : ¬ (((curC h).stack.length : Int) - (takesOf ms (opNext ms (curC h)).1 (opNext ms (curC h)).2).1 < 0 ∨ 6 < ((curC h).stack.length : Int) - (takesOf ms (opNext ms (curC h)).1 (opNext ms (curC h)).2).1 + (takesOf ms (opNext ms (curC h)).1 (opNext ms (curC h)).2).2))
    (h3 : kindsOk (opNext ms (curC h)).1 ((curC h).stack.drop (((curC h).stack.length : Int) - (takesOf ms (opNext ms (curC h)).1 (opNext ms (curC h)).2).1).toNat) = true) :
    ∃ j : Nat, Doing ms (setH h { curC h with stack := (curC h).stack.take (((curC h).stack.length : Int) - (takesOf ms (opNext ms (curC h)).1 (opNext ms (curC h)).2).1).toNat, pc := (curC h).pc + 1 }) j (opNext ms (curC h)).1 (opNext ms (curC h)).2 ((curC h).stack.drop (((curC h).stack.length : Int) - (takesOf ms (opNext ms (curC h)).1 (opNext ms (curC h)).2).1).toNat) := by
  have hn0 : 0 ≤ h.now := by
    by_cases q : h.now < 0
    · have := g.head.fin.2 q; omega
    · omega
  obtain ⟨j, hn⟩ : ∃ j : Nat, h.now = j := ⟨h.now.toNat, by omega⟩
  have hj : j < h.calls.length := by have := g.head.now; omega
  have hcur := cur_at hn hj
  have c := g.cl j hj
  obtain ⟨l, hw⟩ := g.w
  rw [hn] at hw
  obtain ⟨_, _, _, hlive, _⟩ := hw.head
  rw [hcur] at h1 h2 h3 ⊢
  have hml : h.calls[j].m.toNat < ms.length := by have := c.m; omega
  have hmg : ms.getD h.calls[j].m.toNat (0, 0, []) = ms[h.calls[j].m.toNat] := by simp [hml]
  have hpc := c.pc
  rw [hmg] at h1 hpc
  have hpl : h.calls[j].pc.toNat < ms[h.calls[j].m.toNat].2.2.length := by omega
  have hon : opNext ms h.calls[j] = ms[h.calls[j].m.toNat].2.2[h.calls[j].pc.toNat] := by
    unfold opNext
    rw [hmg]
    simp [hpl]
  have hop := (prog_meth g.head.p hml).ops _ (List.getElem_mem hpl)
  rw [← hon] at hop
  generalize opNext ms h.calls[j] = op at *
  generalize hT : takesOf ms op.1 op.2 = T at *
  have hs := c.s
  have hlen : ∀ c' : Cl, (setH h c').calls.length = h.calls.length := fun c' => by unfold setH; simp
  have hat : ∀ (c' : Cl) (q : j < (setH h c').calls.length), (setH h c').calls[j] = c' := fun c' q => by
    have e : h.now.toNat = j := by omega
    unfold setH
    simp only [e, List.getElem_set_self]
  have hT1 : 0 ≤ T.1 := by
    rw [← hT]
    unfold takesOf
    split
    · split
      · rename_i q
        rw [inR_true] at q
        have hq : op.2.toNat < ms.length := by omega
        rw [show ms.getD op.2.toNat (0, 0, []) = ms[op.2.toNat] by simp [hq]]
        exact (prog_meth g.head.p hq).args.1
      · exact Int.le_refl _
    · simp only []
      unfold tk
      split
      · decide
      · split <;> decide
  refine ⟨j, ?_, hc, hn, by rw [hlen]; exact hj, ?_, opOk_kind hop, ⟨_, hml, ?_, hop⟩, ?_, ?_, ?_, h3⟩
  · exact g.cur hn hj ⟨c.m, by simp only []; rw [hmg]; omega, c.t, by simp only [List.length_take]; omega, c.sd, c.vt, vals_take c.vs _, fun q => by simp only [] at q; rw [hlive] at q; cases q⟩ rfl rfl
  · rw [hat]; exact hlive
  · rw [hat]; simp only []; have := c.m; omega
  · rw [hT, List.length_drop]; omega
  · rw [hat, hT]; simp only [List.length_take]; omega
  · rw [hlen]; exact vals_drop c.vs _
theorem Good.step {ms : Ms} {h : Hp} (g : Good ms h) (hc : h.code = 0) : Good ms (stepH ms h) := by
  have hn0 : 0 ≤ h.now := by
    by_cases q : h.now < 0
    · have := g.head.fin.2 q; omega
    · omega
  unfold stepH
  simp only []
  by_cases h1 : ((ms.getD (curC h).m.toNat (0, 0, [])).2.2.length : Int) ≤ (curC h).pc
  · rw [if_pos h1]; exact g.code hn0 (.inl rfl)
  rw [if_neg h1]
  split
  · exact g.code hn0 (.inl rfl)
  rename_i h2
  split
  · exact g.code hn0 (.inl rfl)
  rename_i h3
  obtain ⟨j, d⟩ := g.doing hc h1 h2 (by simpa using h3)
  exact Good.do d
theorem Good.run {ms : Ms} : ∀ (n : Nat) (h : Hp), Good ms h → Good ms (runH ms n h)
  | 0, h, g => g
  | n + 1, h, g => by
    unfold runH
    by_cases hc : h.code = 0
    · rw [if_pos hc]; exact Good.run n _ (g.step hc)
    · rw [if_neg hc]; exact g
end Go.Proofs.YtileneepajcbgaaDoor
