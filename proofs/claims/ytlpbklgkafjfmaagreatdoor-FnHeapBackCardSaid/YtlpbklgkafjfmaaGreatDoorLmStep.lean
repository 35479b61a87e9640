/-
  HeapStep, the program and the model: HeapRun of one operation.
-/
import Derived.Test.YtlpbklgkafjfmaaGreatDoorLRun2
import Derived.Test.YtlpbklgkafjfmaaGreatDoorSWalkA
import Derived.Test.YtlpbklgkafjfmaaGreatDoorLmWith2
import Derived.Test.YtlpbklgkafjfmaaGreatDoorLmAfter
import Derived.Test.YtlpbklgkafjfmaaGreatDoorRF
import Derived.Test.YtlpbklgkafjfmaaGreatDoorDHMem

namespace Go.Proofs.YtlpbklgkafjfmaaGreatDoor
open Go.RowKit
theorem OwnHeap.lower {B B' : Nat} {w : World} {vc vs : Value} {h : Hp} {V : Nat → Value × Value} (k : OwnHeap B w vc vs h V) (hB : B' ≤ B) : OwnHeap B' w vc vs h V := ⟨k.c.lower hB, k.s.mono hB, k.apart⟩
set_option maxRecDepth 100000 in
set_option maxHeartbeats 4000000 in
theorem implHeapStep_any (vp vc vs : Value) (ms : Ms) (h : Hp) (w : World) (hp : MethsAt w vp ms) (hT : TabAt w) (hh : HeapAt w vc vs h) (hn : h.calls.length ≤ 1000) (hsd : h.said.length ≤ 1048576) :
    Calls Tryz.prog 8 #[.agg #[vp], .agg (hpCells vc vs h)] w fun e w' => (∃ vc' vs' V', e = .returned (.tuple #[.agg (hpCells vc' vs' (hRun ms h 1)), .bool (heapOk ms h)]) ∧ OwnHeap w.heap.size w' vc' vs' (hRun ms h 1) V') ∧ Below w.heap.size w w' := by
  obtain ⟨ac, kc, hvc⟩ := hh.c.shape
  obtain ⟨aD, kD, hvs⟩ := hh.s.shape
  obtain ⟨ap, cp, hvp, hlp, _⟩ := id hp
  subst hvc hvs hvp
  have e1 : (heapOk ms h && inR 1 0 400) = heapOk ms h := by rw [show inR 1 0 400 = true from rfl, Bool.and_true]
  have HRUN : Hid (∀ W, Below w.heap.size w W → Calls Tryz.prog 16 #[.agg #[.slice ap ms.length cp], .agg (hpCells (.slice ac h.calls.length kc) (.slice aD h.said.length kD) h), .int .i64 1] W fun e w' => (∃ vc' vs' V', e = .returned (.tuple #[.agg (hpCells vc' vs' (hRun ms h 1)), .bool (heapOk ms h)]) ∧ OwnHeap W.heap.size w' vc' vs' (hRun ms h 1) V') ∧ Below W.heap.size W w') := fun W hW => by
    have := implHeapRun_any _ _ _ ms h 1 W (hp.below hW) (hT.below hW) (hh.below hW) (by omega) (by omega)
    rwa [e1] at this
  generalize hRun ms h 1 = R at *
  generalize heapOk ms h = ok at *
  clear hp hh hlp e1 hT
  unfold hpCells at HRUN ⊢
  have hA : Below w.heap.size w (((w.alloc (.cells #[.slice ap ms.length cp] 25)).alloc (.cells #[.slice ac h.calls.length kc, .int .i64 h.now, .int .i64 h.born, .slice aD h.said.length kD, .int .i64 h.code] 29)).alloc (.cells #[.slice none 0 0, .int .i64 0, .int .i64 0, .slice none 0 0, .int .i64 0] 29)) := (((Below.refl _ _).alloc (Nat.le_refl _) _).alloc (by simp) _).alloc (by simp; omega) _
  have bz := (five_new ((w.alloc (.cells #[.slice ap ms.length cp] 25)).alloc (.cells #[.slice ac h.calls.length kc, .int .i64 h.now, .int .i64 h.born, .slice aD h.said.length kD, .int .i64 h.code] 29)) 29 (.slice none 0 0) (.int .i64 0) (.int .i64 0) (.slice none 0 0) (.int .i64 0))
  simp only [World.size_alloc] at bz
  have HR1 := HRUN.out _ hA
  clear HRUN
  go_enter Tryz.func8, Tryz.ntmps8
  go_wp2_with fail
  generalize (((w.alloc (.cells #[.slice ap ms.length cp] 25)).alloc (.cells #[.slice ac h.calls.length kc, .int .i64 h.now, .int .i64 h.born, .slice aD h.said.length kD, .int .i64 h.code] 29)).alloc (.cells #[.slice none 0 0, .int .i64 0, .int .i64 0, .slice none 0 0, .int .i64 0] 29)) = W0 at *
  refine HR1.mono ?_
  rintro e w1 ⟨⟨vc1, vs1, V1, rfl, hO⟩, hb1⟩
  obtain ⟨a1, k1, hv1⟩ := hO.at.c.shape
  obtain ⟨b1, l1, hs1⟩ := hO.at.s.shape
  subst hv1 hs1
  have hz := bz.lt
  have zA := hA.size
  have hlow : w.heap.size + 1 + 1 < W0.heap.size := hz
  have bz1 := row_below hb1 bz
  have hB1 := hA.trans (hb1.mono zA)
  obtain ⟨⟨t0, t1, t2, t3, t4⟩, j0, j1, j2, j3, j4⟩ := five_cells bz1
  have hz2 : w.heap.size ≤ w.heap.size + 1 + 1 := by omega
  have RF := (five_set4 (five_set3 (five_set2 (five_set1 (five_set0 bz1 (.slice a1 R.calls.length k1)) (.int .i64 R.now)) (.int .i64 R.born)) (.slice b1 R.said.length l1)) (.int .i64 R.code))
  have BF := (((((hB1.setCell (p := ⟨w.heap.size + 1 + 1, 0, none⟩) hz2 (.slice a1 R.calls.length k1)).setCell (p := ⟨w.heap.size + 1 + 1, 1, none⟩) hz2 (.int .i64 R.now)).setCell (p := ⟨w.heap.size + 1 + 1, 2, none⟩) hz2 (.int .i64 R.born)).setCell (p := ⟨w.heap.size + 1 + 1, 3, none⟩) hz2 (.slice b1 R.said.length l1)).setCell (p := ⟨w.heap.size + 1 + 1, 4, none⟩) hz2 (.int .i64 R.code))
  have OF := ((((((hO.setLow (p := ⟨w.heap.size + 1 + 1, 0, none⟩) hlow (.slice a1 R.calls.length k1)).setLow (p := ⟨w.heap.size + 1 + 1, 1, none⟩) hlow (.int .i64 R.now)).setLow (p := ⟨w.heap.size + 1 + 1, 2, none⟩) hlow (.int .i64 R.born)).setLow (p := ⟨w.heap.size + 1 + 1, 3, none⟩) hlow (.slice b1 R.said.length l1)).setLow (p := ⟨w.heap.size + 1 + 1, 4, none⟩) hlow (.int .i64 R.code))).lower zA
  clear hO bz bz1 hB1 hA
  go_wp2
  generalize (((((w1.setCell ⟨w.heap.size + 1 + 1, 0, none⟩ (.slice a1 R.calls.length k1)).setCell ⟨w.heap.size + 1 + 1, 1, none⟩ (.int .i64 R.now)).setCell ⟨w.heap.size + 1 + 1, 2, none⟩ (.int .i64 R.born)).setCell ⟨w.heap.size + 1 + 1, 3, none⟩ (.slice b1 R.said.length l1)).setCell ⟨w.heap.size + 1 + 1, 4, none⟩ (.int .i64 R.code)) = WF at *
  obtain ⟨⟨q0, q1, q2, q3, q4⟩, _⟩ := five_cells RF
  exact bodyPost_ret (v := .tuple #[.agg #[.slice a1 R.calls.length k1, .int .i64 R.now, .int .i64 R.born, .slice b1 R.said.length l1, .int .i64 R.code], .bool ok]) (by simp [results, Tryz.results8, go_sem, q0, q1, q2, q3, q4]) rfl ⟨⟨_, _, V1, rfl, OF⟩, BF⟩
end Go.Proofs.YtlpbklgkafjfmaaGreatDoor

/-
  lmWith in all its cases; what one operation does behind it, in plain words; lmNum, lmOf; a region whose ways end alike.
-/
namespace Go.Proofs.YtlpbklgkafjfmaaGreatDoor
open Go.RowKit
structure WithOk (ms : Ms) (H : Hp) (k x : Int) (st : List (Int × Int)) (qs : Ms) (g : Hp) (ok : Bool) : Prop where
  yes : ok = true → runsH ms H = true ∧ qs = withP ms H (k, x) ∧ g = withH H st ∧ heapOk qs g = true
  l : g.calls.length = H.calls.length
  s : g.said = H.said
def LW (W0 : World) (bc : Nat) (wL : World) (vp vc vs : Value) (qs : Ms) (g : Hp) : Prop := ∀ w'' : World, wL.heap.size ≤ w''.heap.size → Below W0.heap.size W0 w'' → (∀ r, bc ≤ r → r < wL.heap.size → w''.heap[r]? = wL.heap[r]?) → MethsAt w'' vp qs ∧ HeapAt w'' vc vs g
theorem lmWith_any (vp vc vs vk : Value) (ms : Ms) (h : Hp) (k x : Int) (st : List (Int × Int)) (w0 w : World) (hp0 : MethsAt w0 vp ms) (hh0 : HeapAt w0 vc vs h) (hw0 : Below w0.heap.size w0 w) (hk : OpsAt w vk st) (hn : h.calls.length ≤ 1000) (hok : progOk ms = true) (hst : st.length ≤ 1000) :
    Calls Tryz.prog 6 #[.agg #[vp], .agg (hpCells vc vs h), .agg #[.int .i64 k, .int .i64 x], vk] w fun e w' => ∃ vp' vc' qs g ok, e = .returned (.tuple #[.agg #[vp'], .agg (hpCells vc' vs g), .bool ok]) ∧ (LW w0 w.heap.size w' vp' vc' vs qs g ∧ WithOk ms h k x st qs g ok) ∧ Below w.heap.size w w' := by
  cases hr : runsH ms h
  · refine (lmWith_no vp vc vs vk ms h k x st w (hp0.below hw0) (hh0.below hw0) hk hn hr).mono ?_
    rintro e w' ⟨rfl, hb⟩
    exact ⟨vp, vc, ms, h, false, rfl, ⟨fun w'' _ e2 _ => ⟨hp0.below e2, hh0.below e2⟩, ⟨fun e => (by cases e), rfl, rfl⟩⟩, hb⟩
  · have hlen : ms.length ≤ 1000 ∧ ∀ i, (hi : i < ms.length) → ms[i].2.2.length ≤ 1000 := by
      have hp := hok
      unfold progOk at hp
      simp only [Bool.and_eq_true] at hp
      have h4 := inR_true.1 hp.1.1
      refine ⟨by omega, fun i hi => ?_⟩
      have ha := List.all_eq_true.1 hp.2 _ (List.getElem_mem hi)
      unfold methOk at ha
      simp only [Bool.and_eq_true, decide_eq_true_eq] at ha
      have := ha.1.2
      omega
    refine (lmWith_yes vp vc vs vk ms h k x st w0 w hp0 hh0 hw0 hk hn hlen.1 hlen.2 hst hr).mono ?_
    rintro e w' ⟨vp', vc', rfl, hm, hb⟩
    refine ⟨vp', vc', _, _, _, rfl, ⟨hm, ⟨fun e => ⟨hr, rfl, rfl, ?_⟩, by simp [withH, setH], rfl⟩⟩, hb⟩
    exact (Bool.and_eq_true _ _ |>.mp e).2
theorem LW.here {W0 : World} {bc : Nat} {wL : World} {vp vc vs : Value} {qs : Ms} {g : Hp} (h : LW W0 bc wL vp vc vs qs g) (hb : Below W0.heap.size W0 wL) : MethsAt wL vp qs ∧ HeapAt wL vc vs g := h wL (Nat.le_refl _) hb fun _ _ _ => rfl
theorem one_vals (w : World) (a0 b0 : Int) (e : TypeId) (c : Nat) : OpsAt (w.alloc (.cells #[.int .i64 a0, .int .i64 b0] e)) (.slice (some ⟨w.heap.size, 0, none⟩) 1 c) [(a0, b0)] := one_at w a0 b0 e c
theorem three_vals (w : World) (a0 b0 a1 b1 a2 b2 : Int) (e : TypeId) (c : Nat) : OpsAt (w.alloc (.cells #[.int .i64 a0, .int .i64 b0, .int .i64 a1, .int .i64 b1, .int .i64 a2, .int .i64 b2] e)) (.slice (some ⟨w.heap.size, 0, none⟩) 3 c) [(a0, b0), (a1, b1), (a2, b2)] :=
  ⟨_, c, rfl, by unfold maxLen; simp, fun i hi => by
    have : i = 0 ∨ i = 1 ∨ i = 2 := by simp at hi; omega
    rcases this with rfl | rfl | rfl
    · exact ⟨w.heap.size, 0, rfl, by simp [go_sem], by simp [go_sem]⟩
    · exact ⟨w.heap.size, 0, rfl, by simp [go_sem], by simp [go_sem]⟩
    · exact ⟨w.heap.size, 0, rfl, by simp [go_sem], by simp [go_sem]⟩⟩
theorem with_at {ms qs : Ms} {H g : Hp} {k x : Int} {st : List (Int × Int)} (h : WithOk ms H k x st qs g true) :
    Good qs g ∧ g.code = 0 ∧ hRun qs g 1 = stepH qs g ∧ (curC g).stack = st ∧ ∃ (j m pc : Nat) (hj : j < g.calls.length) (hm : m < qs.length) (hpl : pc < qs[m].2.2.length), g.now = (j : Int) ∧ curC g = g.calls[j] ∧ g.calls[j].stack = st ∧ g.calls[j].m = (m : Int) ∧ g.calls[j].pc = (pc : Int) ∧ qs[m].2.2[pc] = (k, x) := by
  obtain ⟨hr, rfl, rfl, ho⟩ := h.yes rfl
  have hg := good_iff.1 ho
  unfold runsH at hr
  simp only [Bool.and_eq_true, beq_iff_eq, decide_eq_true_eq] at hr
  obtain ⟨⟨h1, h2⟩, h3⟩ := hr
  obtain ⟨j, m, q, hj, hm, e1, e2, e3, e4, e5, e6⟩ := runs_at (good_iff.1 h1) h2
  have hj' : j < (withH H st).calls.length := by simp [withH, setH]; exact hj
  have hcj : (withH H st).calls[j] = { H.calls[j] with stack := st } := by
    simp only [withH, setH, e1, e2, Int.toNat_natCast, List.getElem_set_self]
  have hcur : curC (withH H st) = (withH H st).calls[j] := by
    unfold curC
    rw [show (withH H st).now = (j : Int) from e1, Int.toNat_natCast]
    simp [hj']
  have hml : m < (withP ms H (k, x)).length := by simp [withP]; exact hm
  have hq3 : q < ms[m].2.2.length := by rw [e6, e2, e4] at h3; omega
  have hqm : (withP ms H (k, x))[m] = (ms[m].1, ms[m].2.1, ms[m].2.2.set q (k, x)) := by
    simp only [withP, e2, e3, e4, Int.toNat_natCast, List.getElem_set_self]
    simp [hm]
  refine ⟨hg, h2, ?_, by rw [hcur, hcj], j, m, q, hj', hml, by rw [hqm]; simpa using hq3, e1, hcur, by rw [hcj], by rw [hcj]; exact e3, by rw [hcj]; exact e4, ?_⟩
  · unfold hRun
    rw [if_pos (by rw [ho]; rfl)]
    show (if (withH H st).code = 0 then runH _ 0 (stepH _ _) else _) = _
    rw [if_pos (show (withH H st).code = 0 from h2)]
    rfl
  · simp only [hqm, List.getElem_set_self]
theorem with_step {ms qs : Ms} {H g : Hp} {k x : Int} {st : List (Int × Int)} (h : WithOk ms H k x st qs g true) {t l : Int} (ht : takesOf qs k x = (t, l)) (h2 : ¬ ((st.length : Int) - t < 0 ∨ 6 < (st.length : Int) - t + l)) (h3 : kindsOk k (st.drop ((st.length : Int) - t).toNat) = true) :
    hRun qs g 1 = doH qs (afterH g (st.take ((st.length : Int) - t).toNat)) k x (st.drop ((st.length : Int) - t).toNat) := by
  obtain ⟨hg, hc, hr, hs, j, m, pc, hj, hm, hpl, hn, hcur, hst, hme, hpc, hop⟩ := with_at h
  have e := stepH_at hn hj hme hpc hm hpl hop ht
  rw [hst] at e
  rw [if_neg h2, if_neg (by rw [h3]; simp)] at e
  rw [hr, e]
  congr 1
  unfold afterH setH
  rw [hcur, hn, Int.toNat_natCast, hpc]
set_option maxRecDepth 100000 in
theorem lmNum_any (n : Int) (w : World) : Calls Tryz.prog 7 #[.int .i64 n] w fun e w' => e = .returned (.agg #[.int .i64 1, .int .i64 n]) ∧ Below w.heap.size w w' := by
  go_enter Tryz.func7, Tryz.ntmps7
  go_wp2
  exact bodyPost_ret (v := .agg #[.int .i64 1, .int .i64 n]) (by simp [results, Tryz.results7, go_sem]) rfl ⟨rfl, (Below.refl _ _).alloc (Nat.le_refl _) _⟩
set_option maxRecDepth 100000 in
theorem lmOf_any (n : Int) (w : World) : Calls Tryz.prog 12 #[.int .i64 n] w fun e w' => e = .returned (.agg #[.int .i64 2, .int .i64 n]) ∧ Below w.heap.size w w' := by
  go_enter Tryz.func12, Tryz.ntmps12
  go_wp2
  exact bodyPost_ret (v := .agg #[.int .i64 2, .int .i64 n]) (by simp [results, Tryz.results12, go_sem]) rfl ⟨rfl, (Below.refl _ _).alloc (Nat.le_refl _) _⟩
structure WG where
  aq : Option Addr
  cq : Nat
  ag : Option Addr
  kg : Nat
  qs : Ms
  g : Hp
  ok : Bool
def WG.val (x : WG) (vs : Value) : Value := .tuple #[.agg #[.slice x.aq x.qs.length x.cq], .agg #[.slice x.ag x.g.calls.length x.kg, .int .i64 x.g.now, .int .i64 x.g.born, vs, .int .i64 x.g.code], .bool x.ok]
def fWith {W : World} (i : Nat) (ms : Ms) (H : Hp) (k x : Int) (st : List (Int × Int)) (vs : Value) : OpF W W.heap.size :=
  fGh i (γ := WG) (fun y l => l = [y.val vs] ∧ WithOk ms H k x st y.qs y.g y.ok) (fun y w'' => MethsAt w'' (.slice y.aq y.qs.length y.cq) y.qs ∧ HeapAt w'' (.slice y.ag y.g.calls.length y.kg) vs y.g)
theorem with_call {vp vc vs vk : Value} {ms : Ms} {H : Hp} {k x : Int} {st : List (Int × Int)} {W w : World} {own : Nat → Nat} {i : Nat} (hp0 : MethsAt W vp ms) (hh0 : HeapAt W vc vs H) (hw0 : Below W.heap.size W w) (hk : OpsAt w vk st) (hn : H.calls.length ≤ 1000) (hok : progOk ms = true) (hst : st.length ≤ 1000) :
    Calls Tryz.prog 6 #[.agg #[vp], .agg (hpCells vc vs H), .agg #[.int .i64 k, .int .i64 x], vk] w fun e w' => ∃ v, e = .returned v ∧ Below w.heap.size w w' ∧ (fWith (W := W) i ms H k x st vs).fact [v] (ownBy own w i) w' := by
  refine (lmWith_any vp vc vs vk ms H k x st W w hp0 hh0 hw0 hk hn hok hst).mono ?_
  rintro e w' ⟨vp', vc', qs, g, ok, rfl, ⟨hL, hX⟩, hb⟩
  obtain ⟨hM0, hH0⟩ := hL.here (hw0.trans (hb.mono hw0.size))
  obtain ⟨aq, cq, hvq, _, _⟩ := id hM0
  obtain ⟨ag, kg, hvg⟩ := hH0.c.shape
  subst hvq hvg
  exact ⟨_, rfl, hb, ⟨aq, cq, ag, kg, qs, g, ok⟩, ⟨rfl, hX⟩, Made.new fun w'' h1 h2 h3 => hL w'' h1 h2 h3⟩
theorem row_five {w : World} {b : Nat} {T : TypeId} {x0 x1 x2 x3 x4 : Value} (h : w.rowIs b T 5 (fun j => [x0, x1, x2, x3, x4].getD j undef)) : w.rowIs b T 5 (five x0 x1 x2 x3 x4) := h.congr fun j hj => by
  have : j = 0 ∨ j = 1 ∨ j = 2 ∨ j = 3 ∨ j = 4 := by omega
  rcases this with rfl | rfl | rfl | rfl | rfl <;> rfl
structure AG where
  aA : Option Addr
  kA : Nat
  bA : Option Addr
  lA : Nat
  V : Nat → Value × Value
def AG.val (y : AG) (R : Hp) : Value := .agg #[.slice y.aA R.calls.length y.kA, .int .i64 R.now, .int .i64 R.born, .slice y.bA R.said.length y.lA, .int .i64 R.code]
def fAfter {W : World} (i : Nat) (R : Hp) : OpF W W.heap.size :=
  fOwn i (γ := AG) (fun y l => l = [y.val R]) (fun y r => HeapBlocks (.slice y.aA R.calls.length y.kA) (.slice y.bA R.said.length y.lA) R.calls.length y.V r) (fun y w'' => OwnHeap W.heap.size w'' (.slice y.aA R.calls.length y.kA) (.slice y.bA R.said.length y.lA) R y.V)
theorem after_call {P : Program} {f : FuncId} {args : Array Value} {R : Hp} {W w : World} {own : Nat → Nat} {i : Nat} (hw0 : Below W.heap.size W w)
    (hc : Calls P f args w fun e w' => (∃ vc' vs' V', e = .returned (.agg (hpCells vc' vs' R)) ∧ OwnHeap w.heap.size w' vc' vs' R V') ∧ Below w.heap.size w w') :
    Calls P f args w fun e w' => ∃ v, e = .returned v ∧ Below w.heap.size w w' ∧ (fAfter (W := W) i R).fact [v] (ownBy own w i) w' := by
  refine hc.mono ?_
  rintro e w' ⟨⟨vc', vs', V', rfl, hO⟩, hb⟩
  obtain ⟨aA, kA, hvA⟩ := hO.at.c.shape
  obtain ⟨bA, lA, hsA⟩ := hO.at.s.shape
  subst hvA hsA
  exact ⟨_, rfl, hb, ⟨aA, kA, bA, lA, V'⟩, rfl, fun r hr => ⟨if_neg (Nat.not_lt.2 (hO.lt hr).1), (hO.lt hr).2⟩, Made.new fun w'' h1 _ h3 => (hO.kept h1 fun g hg => h3 g (hO.lt hg).1 (hO.lt hg).2).lower hw0.size⟩
theorem setH_at {h : Hp} {j : Nat} (hn : h.now = (j : Int)) (_hj : j < h.calls.length) (c : Cl) : setH h c = { h with calls := h.calls.set j c } := by unfold setH; rw [hn, Int.toNat_natCast]
theorem curC_at {h : Hp} {j : Nat} (hn : h.now = (j : Int)) (hj : j < h.calls.length) : curC h = h.calls[j] := by unfold curC; rw [hn, Int.toNat_natCast]; simp [hj]
theorem afterH_fields (h : Hp) (st : List (Int × Int)) : (afterH h st).now = h.now ∧ (afterH h st).calls.length = h.calls.length ∧ (afterH h st).born = h.born ∧ (afterH h st).said = h.said ∧ (afterH h st).code = h.code := ⟨rfl, by simp [afterH, setH], rfl, rfl, rfl⟩
theorem after_at {g : Hp} {j : Nat} (hn : g.now = (j : Int)) (hj : j < g.calls.length) (st : List (Int × Int)) {K : Nat} (hK : K < g.calls.length) :
    (afterH g st).calls.getD K Cl.none = if K = j then { g.calls[j] with stack := st, pc := g.calls[j].pc + 1 } else g.calls[K] := by
  unfold afterH
  rw [setH_at hn hj, curC_at hn hj]
  by_cases e : K = j
  · subst e
    simp [hj]
  · simp [e, Ne.symm e, hK]
theorem putV_self (V : Nat → Value × Value) (j : Nat) : putV V j ((V j).1, (V j).2) = V := by
  funext i
  unfold putV
  by_cases e : i = j
  · subst e; simp
  · simp [e]
end Go.Proofs.YtlpbklgkafjfmaaGreatDoor

/-
  A call of an owned heap is left: its cells Dead, Sender and Stack are written, and who runs, in a box that is none of the heap's blocks. Nothing of the translation is used here.
-/
namespace Go.Proofs.YtlpbklgkafjfmaaGreatDoor
open Go.RowKit
theorem blocks_nil {vc vs : Value} {n : Nat} {V : Nat → Value × Value} {c q : Nat} (h : ¬ HeapBlocks vc vs n V q) : ¬ HeapBlocks vc vs n (putV V c ((V c).1, .slice none 0 0)) q := fun e => by
  rcases e with e | e | ⟨k, hk, e⟩
  · exact h (.inl e)
  · exact h (.inr (.inl e))
  · rw [lst_put] at e
    split at e
    · rename_i h1
      split at e
      · rename_i h2
        refine h (.inr (.inr ⟨k, hk, ?_⟩))
        unfold lst
        rw [if_pos h2, h1]
        exact e
      · simp [Value.ownBlock] at e
    · exact h (.inr (.inr ⟨k, hk, e⟩))
theorem own_leave {B : Nat} {w : World} {g off n cap bw : Nat} {vs : Value} {D : Hp} {V : Nat → Value × Value} (h : OwnHeap B w (.slice (some ⟨g, off, none⟩) n cap) vs D V) {c : Nat} (hn : D.now = (c : Int)) (hl : c < D.calls.length) (hbw : ¬ HeapBlocks (.slice (some ⟨g, off, none⟩) n cap) vs D.calls.length V bw) (sv : Value) :
    OwnHeap B ((((w.setCell ⟨bw, 1, none⟩ sv).setCell ⟨g, off + c * 6 + 5, none⟩ (.bool true)).setCell ⟨g, off + c * 6 + 4, none⟩ (.int .i64 (-1))).setCell ⟨g, off + c * 6 + 3, none⟩ (.slice none 0 0)) (.slice (some ⟨g, off, none⟩) n cap) vs (leaveH D) (putV V c ((V c).1, .slice none 0 0)) := by
  have h0 := h.kept (w' := w.setCell ⟨bw, 1, none⟩ sv) (by simp [World.setCell]) (fun q hq => Below.heap_setCell _ _ _ _ (fun e => hbw (by rw [show (⟨bw, 1, none⟩ : Addr).block = bw from rfl] at e; rw [← e]; exact hq)))
  have h1 := h0.put hl (put_cell h0.c hl 5 (.bool true) { D.calls[c] with dead := true } (.inr (.inr rfl)) rfl rfl rfl (by simp) (by simp) (by simp))
  rw [putV_self] at h1
  have l1 : c < (D.calls.set c { D.calls[c] with dead := true }).length := by rw [List.length_set]; exact hl
  have h2 := h1.put l1 (put_cell h1.c l1 4 (.int .i64 (-1)) { (D.calls.set c { D.calls[c] with dead := true })[c] with sender := -1 } (.inr (.inl rfl)) rfl rfl rfl (by simp) (by simp) (by simp))
  rw [putV_self] at h2
  have l2 : c < ((D.calls.set c { D.calls[c] with dead := true }).set c { (D.calls.set c { D.calls[c] with dead := true })[c] with sender := -1 }).length := by rw [List.length_set]; exact l1
  have h3 := h2.put l2 (put_stack h2.c l2 (.slice none 0 0) [] (Nat.le_refl _) (fun _ _ _ => rfl) (PairRow.nil _ _) (fun q e => by simp [Value.ownBlock] at e))
  have e : leaveH D = { D with calls := D.calls.set c (dieC D.calls[c]), now := D.calls[c].sender } := by
    unfold leaveH
    rw [curC_at hn hl, setH_at hn hl]
  have e2 : (((D.calls.set c { D.calls[c] with dead := true }).set c { (D.calls.set c { D.calls[c] with dead := true })[c] with sender := -1 }).set c { ((D.calls.set c { D.calls[c] with dead := true }).set c { (D.calls.set c { D.calls[c] with dead := true })[c] with sender := -1 })[c] with stack := [] }) = D.calls.set c (dieC D.calls[c]) := by
    simp [dieC]
  rw [e]
  refine ⟨?_, h3.s, ?_⟩
  · rw [← e2]; exact h3.c
  · intro q hq
    have := h3.apart q hq
    rw [← e2]
    exact this
theorem leave_stack {D : Hp} {c : Nat} (hn : D.now = (c : Int)) (hl : c < D.calls.length) {m : Nat} (h : ∀ i, (hi : i < D.calls.length) → D.calls[i].stack.length ≤ m) : ∀ i, (hi : i < (leaveH D).calls.length) → (leaveH D).calls[i].stack.length ≤ m := by
  have e : (leaveH D).calls = D.calls.set c (dieC D.calls[c]) := by
    unfold leaveH
    rw [curC_at hn hl, setH_at hn hl]
  intro i hi
  have hi' : i < D.calls.length := by rw [e, List.length_set] at hi; exact hi
  have q : (leaveH D).calls[i] = (D.calls.set c (dieC D.calls[c]))[i]'(by rw [List.length_set]; exact hi') := by simp only [e]
  rw [q, List.getElem_set]
  split
  · exact Nat.zero_le _
  · exact h i hi'
end Go.Proofs.YtlpbklgkafjfmaaGreatDoor
