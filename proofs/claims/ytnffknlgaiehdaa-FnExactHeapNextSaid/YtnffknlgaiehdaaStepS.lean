/-
  An ok heap that runs is ok behind one operation, and behind any number. Nothing of the translation is used here.
-/
import Derived.Test.YtnffknlgaiehdaaStepR
namespace Go.Proofs.Ytnffknlgaiehdaa

theorem getD_at {α : Type} {l : List α} {i : Nat} (h : i < l.length) (d : α) : l.getD i d = l[i] := by simp [h]

/-- what is known where an operation is done: h is the heap behind the taking, j the call that runs, k a the operation -/
structure Doing (ms : Ms) (h : Hp) (j : Nat) (k a : Int) (args : List (Int × Int)) : Prop where
  g : Good ms h
  code : h.code = 0
  now : h.now = j
  lt : j < h.calls.length
  live : h.calls[j].dead = false
  kind : 1 ≤ k ∧ k ≤ 18
  op : ∃ (m : Nat) (hm : m < ms.length), h.calls[j].m = m ∧ opOk ms.length ms[m].2.2.length ms[m].2.1 k a = true
  takes : (args.length : Int) = (takesOf ms k a).1
  room : (h.calls[j].stack.length : Int) + (takesOf ms k a).2 ≤ 6
  vals : valsOk h.calls.length args = true
  kinds : kindsOk k args = true

theorem takes_num {ms : Ms} {k a : Int} (h : k ≠ 9) : takesOf ms k a = (tk k, lv k) := by
  unfold takesOf
  rw [if_neg h]

theorem Doing.free {ms : Ms} {h : Hp} {j : Nat} {k a : Int} {args : List (Int × Int)} (d : Doing ms h j k a args) (hl : (takesOf ms k a).2 = 1) : (h.calls[j]'d.lt).stack.length < 6 := by
  have := d.room
  rw [hl] at this
  omega

theorem Doing.push {ms : Ms} {h : Hp} {j : Nat} {k a : Int} {args : List (Int × Int)} (d : Doing ms h j k a args) (hl : (takesOf ms k a).2 = 1) {v : Int × Int} (hv : valOk h.calls.length v.1 v.2 = true) : Good ms (pushH h v) :=
  d.g.push d.now d.lt (d.free hl) hv d.live

theorem opOk_kind {nm no : Nat} {t k a : Int} (h : opOk nm no t k a = true) : 1 ≤ k ∧ k ≤ 18 := by
  unfold opOk at h
  by_cases h1 : k = 1
  · omega
  rw [if_neg h1] at h
  by_cases h2 : k = 2 ∨ k = 3
  · omega
  rw [if_neg h2] at h
  by_cases h3 : k = 7 ∨ k = 8
  · omega
  rw [if_neg h3] at h
  by_cases h4 : k = 9
  · omega
  rw [if_neg h4] at h
  by_cases h5 : k = 13 ∨ k = 14
  · omega
  rw [if_neg h5] at h
  simp only [Bool.and_eq_true, inR_true] at h
  exact h.1

theorem Doing.first {ms : Ms} {h : Hp} {j : Nat} {k a : Int} {args : List (Int × Int)} (d : Doing ms h j k a args) (i : Nat) : valOk h.calls.length (args.getD i (0, 0)).1 (args.getD i (0, 0)).2 = true := vals_getD d.vals i

/-- an operation that looks at a call: which -/
theorem Doing.ref {ms : Ms} {h : Hp} {j : Nat} {k a : Int} {args : List (Int × Int)} (d : Doing ms h j k a args) (hk : k = 12 ∨ k = 13 ∨ k = 14 ∨ k = 15 ∨ k = 17 ∨ k = 18) : (args.getD 0 (0, 0)).1 = 2 ∧ 0 ≤ (args.getD 0 (0, 0)).2 ∧ (args.getD 0 (0, 0)).2.toNat < h.calls.length := by
  have hq := d.kinds
  unfold kindsOk at hq
  rw [if_neg (by omega), if_pos hk, beq_iff_eq] at hq
  have hv := d.first 0
  rw [hq] at hv
  have := valOk_ref' hv
  exact ⟨hq, this.1, by omega⟩

theorem Good.do {ms : Ms} {h : Hp} {j : Nat} {k a : Int} {args : List (Int × Int)} (d : Doing ms h j k a args) : Good ms (doH ms h k a args) := by
  have hlt := d.lt
  obtain ⟨m, hm, hcm, hop⟩ := d.op
  have hP := prog_meth d.g.head.p hm
  have c := d.g.cl j d.lt
  have hmg : ms.getD h.calls[j].m.toNat (0, 0, []) = ms[m] := by rw [hcm]; simp [hm]
  have hcur := cur_at d.now d.lt
  have hn0 : 0 ≤ h.now := by rw [d.now]; omega
  have hset : ∀ c' : Cl, ClP ms h.calls.length c' → c'.dead = h.calls[j].dead → c'.sender = h.calls[j].sender → Good ms (setH h c') := fun c' q1 q2 q3 => d.g.cur d.now d.lt q1 q2 q3
  unfold doH
  simp only []
  by_cases h1 : k = 1
  · rw [if_pos h1]; subst h1
    refine d.push (by rw [takes_num (by decide)]; rfl) (valOk_num ?_ ?_)
    all_goals
      have := hop
      simp only [opOk, if_true, inR_true] at this
      simp only []
      omega
  rw [if_neg h1]
  by_cases h5 : k = 5
  · rw [if_pos h5]; subst h5
    refine d.push (by rw [takes_num (by decide)]; rfl) (valOk_num ?_ ?_)
    · exact Int.emod_nonneg _ (by decide)
    · have := Int.emod_lt_of_pos ((args.getD 0 (0, 0)).2 + (args.getD 1 (0, 0)).2) (show (0 : Int) < 1000 by decide)
      simp only []
      omega
  rw [if_neg h5]
  by_cases h6 : k = 6
  · rw [if_pos h6]; subst h6
    exact d.push (by rw [takes_num (by decide)]; rfl) (valOk_bit _ _)
  rw [if_neg h6]
  by_cases h2 : k = 2
  · rw [if_pos h2]; subst h2
    refine d.push (by rw [takes_num (by decide)]; rfl) ?_
    rw [hcur]
    exact vals_getD c.vt _
  rw [if_neg h2]
  by_cases h3 : k = 3
  · rw [if_pos h3]; subst h3
    rw [hcur]
    exact hset _ ⟨c.m, c.pc, by simp only [List.length_set]; exact c.t, c.s, c.sd, vals_set c.vt _ (d.first 0), c.vs, c.dd⟩ rfl rfl
  rw [if_neg h3]
  have hjump : k = 7 ∨ k = 8 → Good ms (setH h { curC h with pc := a }) := fun hk => by
    rw [hcur]
    have ho := hop
    unfold opOk at ho
    rw [if_neg (by omega), if_neg (by omega), if_pos hk, inR_true] at ho
    exact hset _ ⟨c.m, by simp only []; rw [hmg]; omega, c.t, c.s, c.sd, c.vt, c.vs, c.dd⟩ rfl rfl
  by_cases h7 : k = 7
  · rw [if_pos h7]; exact hjump (.inl h7)
  rw [if_neg h7]
  by_cases h8 : k = 8
  · rw [if_pos h8]
    split
    · exact hjump (.inr h8)
    · exact d.g
  rw [if_neg h8]
  by_cases h9 : k = 9
  · rw [if_pos h9]; subst h9
    unfold callH
    by_cases hb : 30 ≤ h.born
    · rw [if_pos hb]; exact d.g.code hn0 (.inr rfl)
    rw [if_neg hb]
    have ho := hop
    unfold opOk at ho
    rw [if_neg (by decide), if_neg (by decide), if_neg (by decide), if_pos rfl, inR_true] at ho
    obtain ⟨a', rfl⟩ := Int.eq_ofNat_of_zero_le ho.1
    have ha : a' < ms.length := by omega
    have hA := prog_meth d.g.head.p ha
    have htk := takesOf_call ha
    have h6 := d.free (by rw [htk])
    have hal : (args.length : Int) = ms[a'].1 := by rw [d.takes, htk]
    have hga : ms.getD ((a' : Int)).toNat (0, 0, []) = ms[a'] := by simp [ha]
    rw [hga]
    obtain ⟨l, hw⟩ := d.g.w
    rw [d.now] at hw
    have hw' := hw.call d.lt h6 ⟨(a' : Int), 0, args ++ List.replicate (ms[a'].2.1.toNat - args.length) (0, 0), [], h.now, false⟩ rfl d.now
    have hlen : (h.calls ++ [(⟨(a' : Int), 0, args ++ List.replicate (ms[a'].2.1.toNat - args.length) (0, 0), [], h.now, false⟩ : Cl)]).length = h.calls.length + 1 := by simp
    have hb1 := d.g.head.born
    have hb2 := d.g.head.few
    refine ⟨⟨d.g.head.p, ?_, by simp only []; omega, by simp only [hlen]; omega, d.g.head.code, d.g.head.said, ⟨fun e => by (have e' : h.code = 1 := e; rw [d.code] at e'; cases e'), fun e => by (have e' : ((h.calls.length : Nat) : Int) < 0 := e; omega)⟩⟩, fun i hi => ?_, _, hw'⟩
    · simp only [hlen]; omega
    · simp only [hlen] at hi ⊢
      by_cases e : i < h.calls.length
      · rw [List.getElem_append_left e]
        exact (d.g.cl i e).mono (Nat.le_succ _)
      · obtain rfl : i = h.calls.length := by omega
        simp only [List.getElem_append_right (Nat.le_refl _), Nat.sub_self, List.getElem_singleton]
        refine ⟨by simp only []; omega, by simp only [hga]; omega, ?_, by simp, by simp only []; rw [d.now]; omega, ?_, rfl, fun e => by cases e⟩
        · simp only [hga, List.length_append, List.length_replicate]
          have := hA.temps
          omega
        · exact vals_append (valsOk_mono (Nat.le_succ _) d.vals) (vals_nones _ _)
  rw [if_neg h9]
  by_cases h10 : k = 10
  · rw [if_pos h10]; subst h10
    unfold retH
    rw [hcur]
    by_cases hs : h.calls[j].sender < 0
    · rw [if_pos hs]
      exact d.g.fin d.now d.lt hs (d.first 0)
    · rw [if_neg hs]
      have hs0 : 0 ≤ h.calls[j].sender := by omega
      obtain ⟨a1, a2, _⟩ := leave_at d.now d.lt
      have hg := d.g.leave d.now d.lt hs0 d.code
      obtain ⟨l, hw⟩ := d.g.w
      rw [d.now] at hw
      obtain ⟨t, _, hw', hr⟩ := hw.leave d.lt (dieC h.calls[j]) rfl
      obtain ⟨s, hse⟩ : ∃ s : Nat, h.calls[j].sender = s := ⟨h.calls[j].sender.toNat, by omega⟩
      rw [hse] at hw'
      obtain ⟨hsl, t', rfl, hsd, _, _⟩ := hw'.head
      have hlen : (leaveH h).calls.length = h.calls.length := by rw [a1]; simp
      have hsl' : s < h.calls.length := by simpa using hsl
      have hjs : j ≠ s := fun q => by
        subst q
        simp only [List.getElem_set_self] at hsd
        cases hsd
      have hat : ∀ q : s < (leaveH h).calls.length, (leaveH h).calls[s] = h.calls[s] := fun q => by
        simp only [a1]
        rw [List.getElem_set_ne hjs]
      have hlv : s < (leaveH h).calls.length := by omega
      refine hg.push (j := s) (by rw [a2, hse]) hlv (by rw [hat]; exact hr s List.mem_cons_self hsl') (by rw [hlen]; exact d.first 0) ?_
      rw [hat]
      rw [List.getElem_set_ne hjs] at hsd
      exact hsd
  rw [if_neg h10]
  by_cases h11 : k = 11
  · rw [if_pos h11]; subst h11
    refine d.push (by rw [takes_num (by decide)]; rfl) (valOk_ref hn0 ?_)
    rw [d.now]
    have := d.lt
    simp only []
    omega
  rw [if_neg h11]
  by_cases hl : k = 12 ∨ k = 13 ∨ k = 17 ∨ k = 18
  · rw [if_pos hl]
    obtain ⟨_, _, hr⟩ := d.ref (by omega)
    have hlv : (takesOf ms k a).2 = 1 := by
      rw [takes_num (by omega)]
      rcases hl with e | e | e | e <;> subst e <;> rfl
    refine d.push hlv ?_
    have cr := d.g.cl _ hr
    unfold lookV
    simp only []
    rw [getD_at hr]
    by_cases e12 : k = 12
    · rw [if_pos e12]
      split
      · rename_i q; exact valOk_ref q cr.sd.2
      · exact valOk_none _
    rw [if_neg e12]
    by_cases e13 : k = 13
    · rw [if_pos e13]; exact vals_getD cr.vt _
    rw [if_neg e13]
    by_cases e17 : k = 17
    · rw [if_pos e17]; exact valOk_bit _ _
    rw [if_neg e17]
    have hlm : h.calls[(args.getD 0 (0, 0)).2.toNat].m.toNat < ms.length := by have := cr.m; omega
    have hfew := (prog_meth d.g.head.p hlm).few
    have hpc := cr.pc
    rw [getD_at hlm] at hpc
    exact valOk_num hpc.1 (by simp only []; omega)
  rw [if_neg hl]
  by_cases h14 : k = 14
  · rw [if_pos h14]
    obtain ⟨_, _, hr⟩ := d.ref (by omega)
    have cr := d.g.cl _ hr
    unfold pokeH
    rw [getD_at hr]
    obtain ⟨l, hw⟩ := d.g.w
    exact d.g.set hr ⟨cr.m, cr.pc, by simp only [List.length_set]; exact cr.t, cr.s, cr.sd, vals_set cr.vt _ (d.first 1), cr.vs, cr.dd⟩ (hw.set_like _ hr _ rfl rfl (fun q => hw.room _ q hr))
  rw [if_neg h14]
  by_cases h15 : k = 15
  · rw [if_pos h15]; subst h15
    obtain ⟨_, _, hr⟩ := d.ref (by decide)
    unfold backH
    rw [getD_at hr]
    by_cases hd : h.calls[(args.getD 0 (0, 0)).2.toNat].dead = true
    · rw [if_pos hd]; exact d.g.code hn0 (.inl rfl)
    rw [if_neg hd]
    obtain ⟨l, hw⟩ := d.g.w
    have hbl : (args.getD 0 (0, 0)).2.toNat ∈ l := hw.all _ hr (by simpa using hd)
    have h6 : ∀ hb : (args.getD 0 (0, 0)).2.toNat < h.calls.length, h.calls[(args.getD 0 (0, 0)).2.toNat].stack.length < 6 := fun hb => by
      have hw2 := hw
      rw [d.now] at hw2
      obtain ⟨_, t, rfl, _⟩ := hw2.head
      rcases List.mem_cons.1 hbl with q | q
      · have := d.free (by rw [takes_num (by decide)]; rfl)
        simp only [q]
        exact this
      · exact hw.room _ (by simpa using q) hb
    obtain ⟨r1, _, r3, r4, r5⟩ := Good.back h.calls.length h _ l d.g d.code hw hbl hw.len h6
    have hlt : (args.getD 0 (0, 0)).2.toNat < (backTo h.calls.length h (args.getD 0 (0, 0)).2.toNat).calls.length := by rw [r4]; exact hr
    exact r1.push r3 hlt (r5 hlt).1 (by rw [r4]; exact d.first 1) (r5 hlt).2
  rw [if_neg h15]
  by_cases h16 : k = 16
  · rw [if_pos h16]
    exact ⟨⟨d.g.head.p, d.g.head.now, d.g.head.born, d.g.head.few, d.g.head.code, vals_append d.g.head.said (vals_one (vals_say d.g (d.first 0))), d.g.head.fin⟩, d.g.cl, d.g.w⟩
  rw [if_neg h16]
  exact d.g

/-- what is known at a step that is done -/
theorem Good.doing {ms : Ms} {h : Hp} (g : Good ms h) (hc : h.code = 0) (h1 : ¬ ((ms.getD (curC h).m.toNat (0, 0, [])).2.2.length : Int) ≤ (curC h).pc)
    (h2 : ¬ (((curC h).stack.length : Int) - (takesOf ms (opNext ms (curC h)).1 (opNext ms (curC h)).2).1 < 0 ∨ 6 < ((curC h).stack.length : Int) - (takesOf ms (opNext ms (curC h)).1 (opNext ms (curC h)).2).1 + (takesOf ms (opNext ms (curC h)).1 (opNext ms (curC h)).2).2))
    (h3 : kindsOk (opNext ms (curC h)).1 ((curC h).stack.drop (((curC h).stack.length : Int) - (takesOf ms (opNext ms (curC h)).1 (opNext ms (curC h)).2).1).toNat) = true) :
    ∃ j : Nat, Doing ms (setH h { curC h with stack := (curC h).stack.take (((curC h).stack.length : Int) - (takesOf ms (opNext ms (curC h)).1 (opNext ms (curC h)).2).1).toNat, pc := (curC h).pc + 1 }) j (opNext ms (curC h)).1 (opNext ms (curC h)).2 ((curC h).stack.drop (((curC h).stack.length : Int) - (takesOf ms (opNext ms (curC h)).1 (opNext ms (curC h)).2).1).toNat) := by
  have hn0 : 0 ≤ h.now := by
    by_cases q : h.now < 0
    · have := g.head.fin.2 q; omega
    · omega
  obtain ⟨j, hn⟩ : ∃ j : Nat, h.now = j := ⟨h.now.toNat, by omega⟩
  have hj : j < h.calls.length := by have := g.head.now; omega
  have hcur := cur_at hn hj
  have c := g.cl j hj
  obtain ⟨l, hw⟩ := g.w
  rw [hn] at hw
  obtain ⟨_, _, _, hlive, _⟩ := hw.head
  rw [hcur] at h1 h2 h3 ⊢
  have hml : h.calls[j].m.toNat < ms.length := by have := c.m; omega
  have hmg : ms.getD h.calls[j].m.toNat (0, 0, []) = ms[h.calls[j].m.toNat] := by simp [hml]
  have hpc := c.pc
  rw [hmg] at h1 hpc
  have hpl : h.calls[j].pc.toNat < ms[h.calls[j].m.toNat].2.2.length := by omega
  have hon : opNext ms h.calls[j] = ms[h.calls[j].m.toNat].2.2[h.calls[j].pc.toNat] := by
    unfold opNext
    rw [hmg]
    simp [hpl]
  have hop := (prog_meth g.head.p hml).ops _ (List.getElem_mem hpl)
  rw [← hon] at hop
  generalize opNext ms h.calls[j] = op at *
  generalize hT : takesOf ms op.1 op.2 = T at *
  have hs := c.s
  have hlen : ∀ c' : Cl, (setH h c').calls.length = h.calls.length := fun c' => by unfold setH; simp
  have hat : ∀ (c' : Cl) (q : j < (setH h c').calls.length), (setH h c').calls[j] = c' := fun c' q => by
    have e : h.now.toNat = j := by omega
    unfold setH
    simp only [e, List.getElem_set_self]
  have hT1 : 0 ≤ T.1 := by
    rw [← hT]
    unfold takesOf
    split
    · split
      · rename_i q
        rw [inR_true] at q
        have hq : op.2.toNat < ms.length := by omega
        rw [show ms.getD op.2.toNat (0, 0, []) = ms[op.2.toNat] by simp [hq]]
        exact (prog_meth g.head.p hq).args.1
      · exact Int.le_refl _
    · simp only []
      unfold tk
      split
      · decide
      · split <;> decide
  refine ⟨j, ?_, hc, hn, by rw [hlen]; exact hj, ?_, opOk_kind hop, ⟨_, hml, ?_, hop⟩, ?_, ?_, ?_, h3⟩
  · exact g.cur hn hj ⟨c.m, by simp only []; rw [hmg]; omega, c.t, by simp only [List.length_take]; omega, c.sd, c.vt, vals_take c.vs _, fun q => by simp only [] at q; rw [hlive] at q; cases q⟩ rfl rfl
  · rw [hat]; exact hlive
  · rw [hat]; simp only []; have := c.m; omega
  · rw [hT, List.length_drop]; omega
  · rw [hat, hT]; simp only [List.length_take]; omega
  · rw [hlen]; exact vals_drop c.vs _

theorem Good.step {ms : Ms} {h : Hp} (g : Good ms h) (hc : h.code = 0) : Good ms (stepH ms h) := by
  have hn0 : 0 ≤ h.now := by
    by_cases q : h.now < 0
    · have := g.head.fin.2 q; omega
    · omega
  unfold stepH
  simp only []
  by_cases h1 : ((ms.getD (curC h).m.toNat (0, 0, [])).2.2.length : Int) ≤ (curC h).pc
  · rw [if_pos h1]; exact g.code hn0 (.inl rfl)
  rw [if_neg h1]
  split
  · exact g.code hn0 (.inl rfl)
  rename_i h2
  split
  · exact g.code hn0 (.inl rfl)
  rename_i h3
  obtain ⟨j, d⟩ := g.doing hc h1 h2 (by simpa using h3)
  exact Good.do d

theorem Good.run {ms : Ms} : ∀ (n : Nat) (h : Hp), Good ms h → Good ms (runH ms n h)
  | 0, h, g => g
  | n + 1, h, g => by
    unfold runH
    by_cases hc : h.code = 0
    · rw [if_pos hc]; exact Good.run n _ (g.step hc)
    · rw [if_neg hc]; exact g

end Go.Proofs.Ytnffknlgaiehdaa
