/-
  The program's MachView and MachTwins. (Written by mkmv.py.)
-/
import Derived.Test.YtldiccheboipeaaMTold
import Derived.Test.YtldiccheboipeaaVImpl5
namespace Go.Proofs.Ytldiccheboipeaa
open Go.RowKit


set_option maxRecDepth 100000 in
set_option maxHeartbeats 4000000 in
theorem implMachView_any (vp vo vt vs : Value) (m : Mc) (w : World) (h : MachAt w vp vo vt vs m) (hT : Tells m) (hD : Told m) (hn : m.pages.length ≤ 1048576) (hN : framesN m.pages + m.twins.length ≤ 30) (hsh : (thingsM m).short) :
    Calls Try.prog 14 #[.agg (mcCells vp vo vt vs m).toArray] w fun e w' => (∃ v V, e = .returned v ∧ OwnCalls w.heap.size w' v (viewL (thingsM m)) V) ∧ Below w.heap.size w w' := by
  have HM : Hid (MachAt w vp vo vt vs m) := h
  have hcn : (thingsM m).calls.length ≤ 30 := by
    show (frThings m m.pages.length ++ twThings m m.twins.length).length ≤ _
    rw [List.length_append, frThings_length (Nat.le_refl _), twThings_length]
    exact hN
  obtain ⟨ap, cp, hvp, hlp, hcp⟩ := id h.p
  obtain ⟨ao, co, hvo, hlo, hco⟩ := id h.o
  obtain ⟨at', ct, hvt, hlt', hct⟩ := id h.t
  obtain ⟨as', cs, hvs⟩ := h.s.shape
  subst hvp hvo hvt hvs
  unfold mcCells
  go_enter Try.func14, Try.ntmps14
  go_upto_region 1 with fail
  refine wp_gen (fun W => Below w.heap.size w W ∧ Bx W w.heap.size 33 [.int .i64 m.cells, .slice ap m.pages.length cp, .slice ao m.order.length co, .int .i64 m.now, .slice at' m.twins.length ct, .int .i64 m.born, .slice as' m.said.length cs, .int .i64 m.code]) ⟨(Below.refl _ _).alloc (Nat.le_refl _) _, Bx.new w _ _⟩ ?_
  rintro W ⟨hb, hm⟩
  obtain ⟨⟨m0, m1, m2, m3, m4, m5, m6, m7⟩, _⟩ := bx8 hm
  have zb := hb.size
  clear hcp hco hct
  have HP := toldIsThere_yes _ _ _ _ m W (HM.out.below hb) hT
  unfold mcCells at HP
  go_wp2_with fail
  refine HP.mono ?_
  rintro e W2 ⟨rfl, t2⟩
  have hb2 := hb.trans (t2.mono zb)
  have hm2 := hm.below t2
  have z2 := hb2.size
  clear HP t2 hm m0 m1 m2 m3 m4 m5 m6 m7
  obtain ⟨⟨m0, m1, m2, m3, m4, m5, m6, m7⟩, _⟩ := bx8 hm2
  have HQ := thingsOf_any _ _ _ _ m W2 (HM.out.below hb2) hD hn (by omega)
  unfold mcCells at HQ
  go_wp2_with fail
  refine HQ.mono ?_
  rintro e W3 ⟨vc, rfl, hc, t3⟩
  have hb3 := hb2.trans (t3.mono z2)
  have z3 := hb3.size
  have HV : Hid (Calls Try.prog 15 #[.agg #[vc, .int .i64 (plNow m), .int .i64 0, .slice none 0 0, .int .i64 0]] W3 fun e w' => (∃ v V, e = .returned v ∧ OwnCalls W3.heap.size w' v (viewL (thingsM m)) V) ∧ Below W3.heap.size W3 w') :=
    implHeapView_any vc (.slice none 0 0) (thingsM m) W3 ⟨hc, ⟨none, 0, rfl, Nat.zero_le _, fun _ hi => absurd hi (Nat.not_lt_zero _)⟩⟩ hsh hcn
  clear HQ t3 hm2 m0 m1 m2 m3 m4 m5 m6 m7
  go_wp2_with fail
  refine HV.out.mono ?_
  rintro e W4 ⟨⟨v, V, rfl, hv⟩, t4⟩
  have hb4 := hb3.trans (t4.mono z3)
  have hv2 := hv.mono z3
  have hvs := hv2
  obtain ⟨x1, x2, x3⟩ := hvs.at.shape
  subst x3
  have HO : Hid (OwnCalls w.heap.size W4 (.slice x1 (viewL (thingsM m)).length x2) (viewL (thingsM m)) V) := hv2
  clear hv hvs hv2
  go_wp2
  go_ret
  exact ⟨⟨_, V, rfl, HO.out⟩, hb4⟩

/-- how many of the first k twins are on a page -/
def onTo (m : Mc) (k : Nat) : Nat := ((m.twins.take k).filter fun t => inR t.page 0 ((m.pages.length : Int) - 1)).length
theorem onTo_succ {m : Mc} {k : Nat} (h : k < m.twins.length) : onTo m (k + 1) = onTo m k + if inR m.twins[k].page 0 ((m.pages.length : Int) - 1) = true then 1 else 0 := by
  unfold onTo
  rw [List.take_add_one, List.getElem?_eq_getElem h, List.filter_append, List.length_append]
  by_cases e : inR m.twins[k].page 0 ((m.pages.length : Int) - 1) = true
  · simp [e]
  · simp [e]
theorem onTo_le (m : Mc) (k : Nat) : onTo m k ≤ k := Nat.le_trans (List.length_filter_le _ _) (by rw [List.length_take]; exact Nat.min_le_left _ _)


set_option maxRecDepth 100000 in
set_option maxHeartbeats 4000000 in
theorem implMachTwins_any (vp vo vt vs : Value) (m : Mc) (w : World) (h : MachAt w vp vo vt vs m) (hn : m.twins.length ≤ 1048576) :
    Calls Try.prog 17 #[.agg (mcCells vp vo vt vs m).toArray] w fun e w' => e = .returned (.int .i64 (onTo m m.twins.length : Int)) ∧ Below w.heap.size w w' := by
  obtain ⟨ap, cp, hvp, hlp, hcp⟩ := id h.p
  obtain ⟨ao, co, hvo, hlo, hco⟩ := id h.o
  obtain ⟨at', ct, hvt, hlt', hct⟩ := id h.t
  obtain ⟨as', cs, hvs⟩ := h.s.shape
  subst hvp hvo hvt hvs
  unfold mcCells
  go_enter Try.func17, Try.ntmps17
  go_upto_region 1 with fail
  refine wp_gen (fun W => Below w.heap.size w W ∧ Bx W w.heap.size 33 [.int .i64 m.cells, .slice ap m.pages.length cp, .slice ao m.order.length co, .int .i64 m.now, .slice at' m.twins.length ct, .int .i64 m.born, .slice as' m.said.length cs, .int .i64 m.code]) ⟨(Below.refl _ _).alloc (Nat.le_refl _) _, Bx.new w _ _⟩ ?_
  rintro W ⟨hb, hm⟩
  obtain ⟨⟨m0, m1, m2, m3, m4, m5, m6, m7⟩, _⟩ := bx8 hm
  have zb := hb.size
  clear hcp hco
  go_wp2_with fail
  go_loopg [3, 5, 9] m.twins.length (fun d c _ v wr => ∃ k : Nat, k ≤ m.twins.length ∧ d = m.twins.length - k ∧ v = .int .i64 (k : Int) ∧ c = .int .i64 (onTo m k : Int) ∧ Below w.heap.size w wr ∧ Below W.heap.size W wr)
  case atStart => exact ⟨0, Nat.zero_le _, rfl, rfl, rfl, hb, Below.refl _ _⟩
  case round =>
    obtain ⟨k, hk, rfl, rfl, rfl, hbr, hbW⟩ := hrel
    have zr := hbr.size
    have zW := hbW.size
    have hmr := hm.below hbW
    clear m0 m1 m2 m3 m4 m5 m6 m7
    obtain ⟨⟨m0, m1, m2, m3, m4, m5, m6, m7⟩, _⟩ := bx8 hmr
    by_cases hlt : k < m.twins.length
    · obtain ⟨bt, ot, w1, w2, rfl, htw⟩ := hct k hlt
      obtain ⟨d0, d1, d2, d3, d4, d5, d6, d7, dt, ds⟩ := htw.below hbr
      obtain ⟨a1, k1, e1⟩ := dt.shape
      obtain ⟨a2, k2, e2⟩ := ds.shape
      subst e1 e2
      have hs := onTo_succ hlt
      have hl := onTo_le m k
      obtain ⟨T, hTe⟩ : ∃ T, m.twins[k] = T := ⟨_, rfl⟩
      rw [hTe] at d0 d1 d2 d3 d4 d5 d6 d7 hs
      have hkz : (k : Int) < (m.twins.length : Int) := by omega
      clear hct htw dt ds hTe
      go_upto_region 5 with fail
      refine wp_gen (fun W' => Below wr.heap.size wr W' ∧ Bx W' wr.heap.size 90 [.int .i64 T.page, .int .i64 T.place, .int .i64 T.left.m, .int .i64 T.left.pc, .slice a1 T.left.temps.length k1, .slice a2 T.left.stack.length k2, .int .i64 T.left.sender, .bool T.left.dead]) ⟨(Below.refl _ _).alloc (Nat.le_refl _) _, Bx.new _ _ _⟩ ?_
      rintro W2 ⟨t2, y2⟩
      have hb2 := hbr.trans (t2.mono zr)
      have hb3 := hbW.trans (t2.mono zW)
      have hm2 := hmr.below t2
      clear t2 hmr d0 d1 d2 d3 d4 d5 d6 d7 m0 m1 m2 m3 m4 m5 m6 m7
      obtain ⟨⟨m0, m1, m2, m3, m4, m5, m6, m7⟩, _⟩ := bx8 hm2
      have y0 := y2.cell 0 rfl
      obtain ⟨f, hf⟩ : ∃ f, inR T.page 0 ((m.pages.length : Int) - 1) = f := ⟨_, rfl⟩
      have HP := isPlace_any T.page m.pages.length W2
      rw [hf] at HP hs
      obtain ⟨C, hC⟩ : ∃ C, onTo m k = C := ⟨_, rfl⟩
      rw [hC] at hs hl ⊢
      have HS : Hid (onTo m (k + 1) = C + if f = true then 1 else 0) := hs
      clear hs hC hf
      go_wp2_with fail
      refine HP.mono ?_
      rintro e W3 ⟨rfl, hw⟩
      obtain rfl := hw.symm
      clear hw HP
      cases f
      · go_wp2
        go_roundg (m.twins.length - (k + 1))
        case measure => omega
        case rel => exact ⟨k + 1, by omega, rfl, by go_num, by rw [HS.out]; simp, hb2, hb3⟩
      · go_wp2
        go_roundg (m.twins.length - (k + 1))
        case measure => omega
        case rel => exact ⟨k + 1, by omega, rfl, by go_num, by rw [HS.out]; go_num, hb2, hb3⟩
    · obtain rfl : k = m.twins.length := by omega
      go_wp2
      go_ret
      exact ⟨rfl, hbr⟩


end Go.Proofs.Ytldiccheboipeaa
