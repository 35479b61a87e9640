/-
  Pages in a row of cells: bases and frames, the first page alone with frames.
-/
import Derived.Test.YtldiccheboipeaaMNew
import Derived.Test.YtldiccheboipeaaMNewS
import Derived.Test.YtldiccheboipeaaMTold
import Derived.Test.YtldiccheboipeaaVView
import Derived.Test.YtldiccheboipeaaMOk6
import Derived.Test.YtldiccheboipeaaVSpec2

namespace Go.Proofs.Ytldiccheboipeaa
open Go.RowKit
def rowF (f : Nat → Int) (vf : Value) (n : Nat) : List Value := (List.range n).flatMap fun i => [.int .i64 (f i), if i = 0 then vf else .slice none 0 0]
theorem rowF_succ (f : Nat → Int) (vf : Value) (n : Nat) : rowF f vf (n + 1) = rowF f vf n ++ [.int .i64 (f n), if n = 0 then vf else .slice none 0 0] := by simp [rowF, List.range_succ]
theorem rowF_length (f : Nat → Int) (vf : Value) : ∀ n, (rowF f vf n).length = n * 2
  | 0 => rfl
  | n + 1 => by rw [rowF_succ, List.length_append, rowF_length f vf n]; simp; omega
theorem rowF_at (f : Nat → Int) (vf : Value) : ∀ (n i : Nat), i < n → (rowF f vf n)[i * 2]? = some (.int .i64 (f i)) ∧ (rowF f vf n)[i * 2 + 1]? = some (if i = 0 then vf else .slice none 0 0)
  | 0, i, h => absurd h (Nat.not_lt_zero _)
  | n + 1, i, h => by
    rw [rowF_succ]
    by_cases e : i = n
    · subst e
      have hl := rowF_length f vf i
      refine ⟨?_, ?_⟩
      · rw [List.getElem?_append_right (by omega), hl]; simp
      · rw [List.getElem?_append_right (by omega), hl]; simp
    · have ih := rowF_at f vf n i (by omega)
      have hl := rowF_length f vf n
      rw [List.getElem?_append_left (by omega), List.getElem?_append_left (by omega)]
      exact ih
theorem two_ext {a b : List Value} {n : Nat} (ha : a.length = n * 2) (hb : b.length = n * 2) (h : ∀ i, i < n → a[i * 2]? = b[i * 2]? ∧ a[i * 2 + 1]? = b[i * 2 + 1]?) : a = b := by
  refine List.ext_getElem? fun j => ?_
  by_cases hj : j < n * 2
  · have e : j = (j / 2) * 2 ∨ j = (j / 2) * 2 + 1 := by omega
    rcases e with e | e
    · rw [e]; exact (h (j / 2) (by omega)).1
    · rw [e]; exact (h (j / 2) (by omega)).2
  · rw [List.getElem?_eq_none (by omega), List.getElem?_eq_none (by omega)]
theorem rowE_length (vf : Value) : ∀ n, (rowE vf n).length = n * 2
  | 0 => rfl
  | n + 1 => by rw [rowE_succ, List.length_append, rowE_length vf n]; simp; omega
theorem rowF_new (vf : Value) (n : Nat) (h : 1 ≤ n) : .int .i64 (-1) :: vf :: rowE (.slice none 0 0) (n - 1) = rowF (fun _ => -1) vf n := by
  refine two_ext (n := n) (by simp [rowE_length]; omega) (rowF_length _ _ _) fun j hj => ?_
  obtain ⟨b1, b2⟩ := rowF_at (fun _ => -1) vf n j hj
  cases j with
  | zero => exact ⟨b1.symm, b2.symm⟩
  | succ j =>
    have a := rowE_at (.slice none 0 0) (n - 1) j (by omega)
    rw [b1, b2, show (j + 1) * 2 = j * 2 + 1 + 1 by omega]
    exact ⟨a.1, a.2⟩
end Go.Proofs.Ytldiccheboipeaa

/-
  What MachNew answers, of the model and of the program: the machine that a program begins with, or nothing.
-/
namespace Go.Proofs.Ytldiccheboipeaa
open Go.RowKit
def zeroMc : Mc := ⟨0, [], [], 0, [], 0, [], 0⟩
theorem zero_at (w : World) : MachAt w (.slice none 0 0) (.slice none 0 0) (.slice none 0 0) (.slice none 0 0) zeroMc :=
  ⟨⟨none, 0, rfl, Nat.zero_le _, fun _ h => absurd h (Nat.not_lt_zero _)⟩, ⟨none, 0, rfl, Nat.zero_le _, fun _ h => absurd h (Nat.not_lt_zero _)⟩, TwinsAt.nil w, ops_nil w none 0⟩
theorem NewM.at {B : Nat} {w : World} {n t gp op cp gf : Nat} {vo vt : Value} {c : Int} (h : NewM B w n t (.slice (some ⟨gp, op, none⟩) n cp) vo gf vt (.slice none 0 0)) (hn1 : 1 ≤ n) (hn : n ≤ 4) : MachAt w (.slice (some ⟨gp, op, none⟩) n cp) vo (.slice none 0 0) (.slice none 0 0) (newMc n t c) := by
  have hpl : (newPages n t).length = n := by simp [newPages]
  refine ⟨⟨_, cp, by rw [show (newMc n t c).pages.length = n from hpl], by rw [show (newMc n t c).pages.length = n from hpl]; unfold maxLen; omega, fun i hi => ?_⟩, h.o.at, TwinsAt.nil w, ops_nil w none 0⟩
  have hin : i < n := by rw [← hpl]; exact hi
  have ev : (newMc n t c).pages[i] = ⟨-1, if i = 0 then [⟨0, 0, -1, List.replicate t (0, 0), []⟩] else []⟩ := by simp [newMc, newPages]
  rw [ev]
  have hp := h.p
  rw [rowF_new _ _ hn1] at hp
  obtain ⟨e0, e1⟩ := rowF_at (fun _ => -1) (.slice (some ⟨gf, 0, none⟩) 1 1) n i hin
  have c0 := (hp.cell e0).1
  have c1 := (hp.cell e1).1
  rw [← Nat.add_assoc] at c1
  refine ⟨gp, op, _, rfl, c0, c1, ?_⟩
  by_cases h0 : i = 0
  · simp only [if_pos h0]
    refine ⟨_, 1, rfl, by unfold maxLen; simp, fun j hj => ?_⟩
    obtain rfl : j = 0 := by simpa using hj
    exact ⟨gf, 0, vt, .slice none 0 0, rfl, h.f.cell 0 rfl, h.f.cell 1 rfl, h.f.cell 2 rfl, h.f.cell 3 rfl, h.f.cell 4 rfl, h.t.at, ops_nil w none 0⟩
  · simp only [if_neg h0]
    exact FramesAt.nil w
def newAns (ms : List (Int × Int × List (Int × Int))) (r c : Int) : Mc := if (progOk ms && roomsB r c) = true then newMc r.toNat (temps0 ms) c else zeroMc
theorem specMachNew_ans (vp : Value) (ms : List (Int × Int × List (Int × Int))) (r c : Int) (w : World) (h : MethsAt w vp ms) :
    Calls Try.prog 8 #[.agg #[vp], .int .i64 r, .int .i64 c] w fun e w' => ∃ v1 v2 v3 v4, e = .returned (.tuple #[.agg (mcCells v1 v2 v3 v4 (newAns ms r c)).toArray, .bool (progOk ms && roomsB r c)]) ∧ From w.heap.size w' (fun z => MachAt z v1 v2 v3 v4 (newAns ms r c)) ∧ Below w.heap.size w w' := by
  refine (specMachNew_any vp ms r c w h).mono ?_
  rintro e w' ⟨hb, ⟨h0, rfl⟩ | ⟨h1, v, vo, vt, vs, rfl, hN⟩⟩
  · have e1 : newAns ms r c = zeroMc := by unfold newAns; rw [h0]; rfl
    exact ⟨_, _, _, _, by rw [e1, h0]; rfl, by rw [e1]; exact fun z _ _ => zero_at z, hb⟩
  · have e1 : newAns ms r c = newMc r.toNat (temps0 ms) c := by unfold newAns; rw [if_pos h1]
    exact ⟨_, _, _, _, by rw [e1, h1]; rfl, by rw [e1]; exact hN, hb⟩
theorem implMachNew_here (vp : Value) (ms : List (Int × Int × List (Int × Int))) (r c : Int) (w : World) (h : MethsAt w vp ms) :
    Calls Try.prog 9 #[.agg #[vp], .int .i64 r, .int .i64 c] w fun e w' => ∃ v1 v2 v3 v4, e = .returned (.tuple #[.agg (mcCells v1 v2 v3 v4 (newAns ms r c)).toArray, .bool (progOk ms && roomsB r c)]) ∧ MachAt w' v1 v2 v3 v4 (newAns ms r c) ∧ Below w.heap.size w w' := by
  refine (implMachNew_any vp ms r c w h).mono ?_
  rintro e w' ⟨hb, ⟨h0, rfl⟩ | ⟨h1, v, vo, gf, vt, vs, rfl, hN⟩⟩
  · have e1 : newAns ms r c = zeroMc := by unfold newAns; rw [h0]; rfl
    exact ⟨_, _, _, _, by rw [e1, h0]; rfl, by rw [e1]; exact zero_at _, hb⟩
  · obtain ⟨_, hr⟩ := Bool.and_eq_true_iff.1 h1
    obtain ⟨hr1, hr4, _, _⟩ := roomsB_true hr
    have e1 : newAns ms r c = newMc r.toNat (temps0 ms) c := by unfold newAns; rw [if_pos h1]
    obtain ⟨gp, op, cp, hv, _, _⟩ := hN.p.form (by omega)
    have hsn := hN.sn
    subst hv hsn
    exact ⟨_, _, _, _, by rw [e1, h1]; rfl, by rw [e1]; exact hN.at (by omega) (by omega), hb⟩
end Go.Proofs.Ytldiccheboipeaa

/-
  The program's MachView and MachTwins. (Written by mkmv.py.)
-/
namespace Go.Proofs.Ytldiccheboipeaa
open Go.RowKit
set_option maxRecDepth 100000 in
set_option maxHeartbeats 4000000 in
theorem implMachView_any (vp vo vt vs : Value) (m : Mc) (w : World) (h : MachAt w vp vo vt vs m) (hT : Tells m) (hD : Told m) (hn : m.pages.length ≤ 1048576) (hN : framesN m.pages + m.twins.length ≤ 30) (hsh : (thingsM m).short) :
    Calls Try.prog 14 #[.agg (mcCells vp vo vt vs m).toArray] w fun e w' => (∃ v V, e = .returned v ∧ OwnCalls w.heap.size w' v (viewL (thingsM m)) V) ∧ Below w.heap.size w w' := by
  have HM : Hid (MachAt w vp vo vt vs m) := h
  have hcn : (thingsM m).calls.length ≤ 30 := by
    show (frThings m m.pages.length ++ twThings m m.twins.length).length ≤ _
    rw [List.length_append, frThings_length (Nat.le_refl _), twThings_length]
    exact hN
  obtain ⟨ap, cp, hvp, hlp, hcp⟩ := id h.p
  obtain ⟨ao, co, hvo, hlo, hco⟩ := id h.o
  obtain ⟨at', ct, hvt, hlt', hct⟩ := id h.t
  obtain ⟨as', cs, hvs⟩ := h.s.shape
  subst hvp hvo hvt hvs
  unfold mcCells
  go_enter Try.func14, Try.ntmps14
  go_upto_region 1 with fail
  refine wp_gen (fun W => Below w.heap.size w W ∧ Bx W w.heap.size 33 [.int .i64 m.cells, .slice ap m.pages.length cp, .slice ao m.order.length co, .int .i64 m.now, .slice at' m.twins.length ct, .int .i64 m.born, .slice as' m.said.length cs, .int .i64 m.code]) ⟨(Below.refl _ _).alloc (Nat.le_refl _) _, Bx.new w _ _⟩ ?_
  rintro W ⟨hb, hm⟩
  obtain ⟨⟨m0, m1, m2, m3, m4, m5, m6, m7⟩, _⟩ := bx8 hm
  have zb := hb.size
  clear hcp hco hct
  have HP := toldIsThere_yes _ _ _ _ m W (HM.out.below hb) hT
  unfold mcCells at HP
  go_wp2_with fail
  refine HP.mono ?_
  rintro e W2 ⟨rfl, t2⟩
  have hb2 := hb.trans (t2.mono zb)
  have hm2 := hm.below t2
  have z2 := hb2.size
  clear HP t2 hm m0 m1 m2 m3 m4 m5 m6 m7
  obtain ⟨⟨m0, m1, m2, m3, m4, m5, m6, m7⟩, _⟩ := bx8 hm2
  have HQ := thingsOf_any _ _ _ _ m W2 (HM.out.below hb2) hD hn (by omega)
  unfold mcCells at HQ
  go_wp2_with fail
  refine HQ.mono ?_
  rintro e W3 ⟨vc, rfl, hc, t3⟩
  have hb3 := hb2.trans (t3.mono z2)
  have z3 := hb3.size
  have HV : Hid (Calls Try.prog 15 #[.agg #[vc, .int .i64 (plNow m), .int .i64 0, .slice none 0 0, .int .i64 0]] W3 fun e w' => (∃ v V, e = .returned v ∧ OwnCalls W3.heap.size w' v (viewL (thingsM m)) V) ∧ Below W3.heap.size W3 w') :=
    implHeapView_any vc (.slice none 0 0) (thingsM m) W3 ⟨hc, ⟨none, 0, rfl, Nat.zero_le _, fun _ hi => absurd hi (Nat.not_lt_zero _)⟩⟩ hsh hcn
  clear HQ t3 hm2 m0 m1 m2 m3 m4 m5 m6 m7
  go_wp2_with fail
  refine HV.out.mono ?_
  rintro e W4 ⟨⟨v, V, rfl, hv⟩, t4⟩
  have hb4 := hb3.trans (t4.mono z3)
  have hv2 := hv.mono z3
  have hvs := hv2
  obtain ⟨x1, x2, x3⟩ := hvs.at.shape
  subst x3
  have HO : Hid (OwnCalls w.heap.size W4 (.slice x1 (viewL (thingsM m)).length x2) (viewL (thingsM m)) V) := hv2
  clear hv hvs hv2
  go_wp2
  go_ret
  exact ⟨⟨_, V, rfl, HO.out⟩, hb4⟩
def onTo (m : Mc) (k : Nat) : Nat := ((m.twins.take k).filter fun t => inR t.page 0 ((m.pages.length : Int) - 1)).length
theorem onTo_succ {m : Mc} {k : Nat} (h : k < m.twins.length) : onTo m (k + 1) = onTo m k + if inR m.twins[k].page 0 ((m.pages.length : Int) - 1) = true then 1 else 0 := by
  unfold onTo
  rw [List.take_add_one, List.getElem?_eq_getElem h, List.filter_append, List.length_append]
  by_cases e : inR m.twins[k].page 0 ((m.pages.length : Int) - 1) = true
  · simp [e]
  · simp [e]
theorem onTo_le (m : Mc) (k : Nat) : onTo m k ≤ k := Nat.le_trans (List.length_filter_le _ _) (by rw [List.length_take]; exact Nat.min_le_left _ _)
set_option maxRecDepth 100000 in
set_option maxHeartbeats 4000000 in
theorem implMachTwins_any (vp vo vt vs : Value) (m : Mc) (w : World) (h : MachAt w vp vo vt vs m) (hn : m.twins.length ≤ 1048576) :
    Calls Try.prog 17 #[.agg (mcCells vp vo vt vs m).toArray] w fun e w' => e = .returned (.int .i64 (onTo m m.twins.length : Int)) ∧ Below w.heap.size w w' := by
  obtain ⟨ap, cp, hvp, hlp, hcp⟩ := id h.p
  obtain ⟨ao, co, hvo, hlo, hco⟩ := id h.o
  obtain ⟨at', ct, hvt, hlt', hct⟩ := id h.t
  obtain ⟨as', cs, hvs⟩ := h.s.shape
  subst hvp hvo hvt hvs
  unfold mcCells
  go_enter Try.func17, Try.ntmps17
  go_upto_region 1 with fail
  refine wp_gen (fun W => Below w.heap.size w W ∧ Bx W w.heap.size 33 [.int .i64 m.cells, .slice ap m.pages.length cp, .slice ao m.order.length co, .int .i64 m.now, .slice at' m.twins.length ct, .int .i64 m.born, .slice as' m.said.length cs, .int .i64 m.code]) ⟨(Below.refl _ _).alloc (Nat.le_refl _) _, Bx.new w _ _⟩ ?_
  rintro W ⟨hb, hm⟩
  obtain ⟨⟨m0, m1, m2, m3, m4, m5, m6, m7⟩, _⟩ := bx8 hm
  have zb := hb.size
  clear hcp hco
  go_wp2_with fail
  go_loopg [3, 5, 9] m.twins.length (fun d c _ v wr => ∃ k : Nat, k ≤ m.twins.length ∧ d = m.twins.length - k ∧ v = .int .i64 (k : Int) ∧ c = .int .i64 (onTo m k : Int) ∧ Below w.heap.size w wr ∧ Below W.heap.size W wr)
  case atStart => exact ⟨0, Nat.zero_le _, rfl, rfl, rfl, hb, Below.refl _ _⟩
  case round =>
    obtain ⟨k, hk, rfl, rfl, rfl, hbr, hbW⟩ := hrel
    have zr := hbr.size
    have zW := hbW.size
    have hmr := hm.below hbW
    clear m0 m1 m2 m3 m4 m5 m6 m7
    obtain ⟨⟨m0, m1, m2, m3, m4, m5, m6, m7⟩, _⟩ := bx8 hmr
    by_cases hlt : k < m.twins.length
    · obtain ⟨bt, ot, w1, w2, rfl, htw⟩ := hct k hlt
      obtain ⟨d0, d1, d2, d3, d4, d5, d6, d7, dt, ds⟩ := htw.below hbr
      obtain ⟨a1, k1, e1⟩ := dt.shape
      obtain ⟨a2, k2, e2⟩ := ds.shape
      subst e1 e2
      have hs := onTo_succ hlt
      have hl := onTo_le m k
      obtain ⟨T, hTe⟩ : ∃ T, m.twins[k] = T := ⟨_, rfl⟩
      rw [hTe] at d0 d1 d2 d3 d4 d5 d6 d7 hs
      have hkz : (k : Int) < (m.twins.length : Int) := by omega
      clear hct htw dt ds hTe
      go_upto_region 5 with fail
      refine wp_gen (fun W' => Below wr.heap.size wr W' ∧ Bx W' wr.heap.size 90 [.int .i64 T.page, .int .i64 T.place, .int .i64 T.left.m, .int .i64 T.left.pc, .slice a1 T.left.temps.length k1, .slice a2 T.left.stack.length k2, .int .i64 T.left.sender, .bool T.left.dead]) ⟨(Below.refl _ _).alloc (Nat.le_refl _) _, Bx.new _ _ _⟩ ?_
      rintro W2 ⟨t2, y2⟩
      have hb2 := hbr.trans (t2.mono zr)
      have hb3 := hbW.trans (t2.mono zW)
      have hm2 := hmr.below t2
      clear t2 hmr d0 d1 d2 d3 d4 d5 d6 d7 m0 m1 m2 m3 m4 m5 m6 m7
      obtain ⟨⟨m0, m1, m2, m3, m4, m5, m6, m7⟩, _⟩ := bx8 hm2
      have y0 := y2.cell 0 rfl
      obtain ⟨f, hf⟩ : ∃ f, inR T.page 0 ((m.pages.length : Int) - 1) = f := ⟨_, rfl⟩
      have HP := isPlace_any T.page m.pages.length W2
      rw [hf] at HP hs
      obtain ⟨C, hC⟩ : ∃ C, onTo m k = C := ⟨_, rfl⟩
      rw [hC] at hs hl ⊢
      have HS : Hid (onTo m (k + 1) = C + if f = true then 1 else 0) := hs
      clear hs hC hf
      go_wp2_with fail
      refine HP.mono ?_
      rintro e W3 ⟨rfl, hw⟩
      obtain rfl := hw.symm
      clear hw HP
      cases f
      · go_wp2
        go_roundg (m.twins.length - (k + 1))
        case measure => omega
        case rel => exact ⟨k + 1, by omega, rfl, by go_num, by rw [HS.out]; simp, hb2, hb3⟩
      · go_wp2
        go_roundg (m.twins.length - (k + 1))
        case measure => omega
        case rel => exact ⟨k + 1, by omega, rfl, by go_num, by rw [HS.out]; go_num, hb2, hb3⟩
    · obtain rfl : k = m.twins.length := by omega
      go_wp2
      go_ret
      exact ⟨rfl, hbr⟩
end Go.Proofs.Ytldiccheboipeaa

/-
  Plain facts of the machine that a program begins with: it is ok, all that it tells of is there, and its calls as things of their own are the heap that the program begins with.
-/
namespace Go.Proofs.Ytldiccheboipeaa
open Go.RowKit
theorem ordTo_mem {n k : Nat} (hk : k < n) : (k : Int) ∈ ordTo n n := by
  unfold ordTo
  rw [List.mem_map]
  by_cases h : k = 0
  · exact ⟨n - 1, List.mem_range.2 (by omega), by rw [show n - 1 + 1 = n by omega, Nat.mod_self]; subst h; rfl⟩
  · exact ⟨k - 1, List.mem_range.2 (by omega), by rw [show k - 1 + 1 = k by omega, Nat.mod_eq_of_lt hk]⟩
theorem newPages_length (n t : Nat) : (newPages n t).length = n := by simp [newPages]
theorem newPages_at {n t i : Nat} (h : i < (newPages n t).length) : (newPages n t)[i] = ⟨-1, if i = 0 then [⟨0, 0, -1, List.replicate t (0, 0), []⟩] else []⟩ := by simp [newPages]
theorem newFrames_to (n t : Nat) : ∀ k, k ≤ n → framesTo (newPages n t) k = if k = 0 then 0 else 1
  | 0, _ => framesTo_zero _
  | k + 1, h => by
    rw [framesTo_succ (by rw [newPages_length]; omega), newFrames_to n t k (by omega), newPages_at]
    by_cases e : k = 0
    · subst e; rfl
    · simp [e]
theorem newMc_pg0 {n t : Nat} {c : Int} (hn : 1 ≤ n) : pgAt (newMc n t c) 0 = ⟨-1, [⟨0, 0, -1, List.replicate t (0, 0), []⟩]⟩ := by
  have := pgAt_at (m := newMc n t c) (k := 0) (by show 0 < (newPages n t).length; rw [newPages_length]; omega)
  rw [show ((0 : Nat) : Int) = 0 from rfl] at this
  rw [this]
  exact newPages_at (by rw [newPages_length]; omega)
theorem newMc_pgk {n t k : Nat} {c : Int} (hk : k < n) (h0 : k ≠ 0) : pgAt (newMc n t c) (k : Int) = ⟨-1, []⟩ := by
  rw [pgAt_at (show k < (newMc n t c).pages.length by show k < (newPages n t).length; rw [newPages_length]; omega)]
  show (newPages n t)[k]'_ = _
  rw [newPages_at]
  simp [h0]
theorem newMc_pg0things {n t : Nat} {c : Int} (hn : 1 ≤ n) : pgThings (newMc n t c) 0 1 = [⟨0, 0, List.replicate t (0, 0), [], -1, false⟩] := by
  have hp0 := newMc_pg0 (t := t) (c := c) hn
  unfold pgThings
  have hf0 : frAt (newMc n t c) 0 0 = ⟨0, 0, -1, List.replicate t (0, 0), []⟩ := by unfold frAt; rw [hp0]; rfl
  have hs0 : sndF (newMc n t c) 0 0 = -1 := by
    unfold sndF
    rw [show ((0 : Nat) : Int) = 0 from rfl, hp0]
    rfl
  simp only [List.range_one, List.map_cons, List.map_nil]
  rw [show ((0 : Nat) : Int) = 0 from rfl, hf0]
  unfold thingFr
  rw [hs0]
  simp [renW]
theorem newMc_frs {n t : Nat} {c : Int} : ∀ k, k ≤ n → frThings (newMc n t c) k = if k = 0 then [] else [⟨0, 0, List.replicate t (0, 0), [], -1, false⟩]
  | 0, _ => rfl
  | k + 1, h => by
    rw [frThings_succ, newMc_frs k (by omega)]
    by_cases e : k = 0
    · subst e
      rw [show ((0 : Nat) : Int) = 0 from rfl, newMc_pg0 (by omega)]
      show [] ++ pgThings (newMc n t c) 0 1 = _
      rw [newMc_pg0things (by omega)]
      rfl
    · rw [newMc_pgk (by omega) e]
      simp [e, pgThings]
theorem newMc_things {n t : Nat} {c : Int} (hn : 1 ≤ n) : thingsM (newMc n t c) = ⟨[⟨0, 0, List.replicate t (0, 0), [], -1, false⟩], 0, 0, [], 0⟩ := by
  unfold thingsM
  have hln : (newMc n t c).pages.length = n := newPages_length n t
  rw [hln, newMc_frs n (Nat.le_refl _), if_neg (by omega)]
  have hnow : plNow (newMc n t c) = 0 := by
    unfold plNow
    show (if inR 0 0 (((newMc n t c).pages.length : Int) - 1) = true ∧ (pgAt (newMc n t c) 0).frames.length ≠ 0 then plFr (newMc n t c) 0 (((pgAt (newMc n t c) 0).frames.length : Int) - 1) else -1) = 0
    rw [hln, newMc_pg0 hn, if_pos ⟨inR_true.2 ⟨Int.le_refl _, by omega⟩, by simp⟩]
    rfl
  rw [hnow]
  rfl
theorem valsTell_zero (n k : Nat) : ValsTell n (List.replicate k (0, 0)) := fun _ _ h => by simp at h
theorem valsTell_nil (n : Nat) : ValsTell n [] := fun _ hq => absurd hq (Nat.not_lt_zero _)
theorem newPages_frame {n t i k : Nat} (hi : i < (newPages n t).length) (hk : k < (newPages n t)[i].frames.length) : i = 0 ∧ k = 0 ∧ (newPages n t)[i].frames[k] = ⟨0, 0, -1, List.replicate t (0, 0), []⟩ := by
  have e := newPages_at hi
  generalize (newPages n t)[i] = P at *
  subst e
  by_cases h0 : i = 0
  · subst h0
    have : k = 0 := by simp at hk; omega
    subst this
    simp
  · simp [h0] at hk
theorem newMc_tells (n t : Nat) (c : Int) : Tells (newMc n t c) :=
  ⟨fun i k hi hk => by
    obtain ⟨_, _, e⟩ := newPages_frame (n := n) (t := t) hi hk
    show (((newPages n t)[i].frames[k].twin == -1 || _) = true) ∧ ValsTell _ (newPages n t)[i].frames[k].temps ∧ ValsTell _ (newPages n t)[i].frames[k].stack
    rw [e]
    exact ⟨rfl, valsTell_zero _ _, valsTell_nil _⟩,
  fun i hi => by
    have e := newPages_at (n := n) (t := t) hi
    show ((newPages n t)[i].base == -1 || _) = true
    rw [e]
    rfl,
  fun j hj => absurd hj (Nat.not_lt_zero _)⟩
theorem newMc_head {ms : List (Int × Int × List (Int × Int))} {n t : Nat} {c : Int} (h : progOk ms = true) (hr : roomsB (n : Int) c = true) : headM ms (newMc n t c) = true := by
  have hn := roomsB_true hr
  have hln : (newMc n t c).pages.length = n := newPages_length n t
  have ho : orderB (newMc n t c) = true := by
    unfold orderB
    rw [hln]
    simp only [Bool.and_eq_true, List.all_eq_true, List.mem_range, decide_eq_true_iff]
    exact ⟨ordTo_length n n, fun k hk => ordTo_mem hk⟩
  have hnw : nowB (newMc n t c) = true := by
    unfold nowB
    show ((0 : Int) == -1 || ((0 : Int) == (ordTo n n).getD ((ordTo n n).length - 1) 0 && decide (0 < (pgAt (newMc n t c) 0).frames.length))) = true
    rw [newMc_pg0 (by omega), ordTo_length]
    have : (ordTo n n).getD (n - 1) 0 = 0 := by
      unfold ordTo
      have h1 : n - 1 < n := by omega
      simp [List.getD_eq_getElem?_getD, h1]
      rw [show ((n - 1 : Nat) : Int) + 1 = (n : Int) by omega]
      exact Int.emod_self
    rw [this]
    simp
  have hcl : callsN (newMc n t c) = 1 := by
    unfold callsN
    show framesTo (newPages n t) (newPages n t).length + _ = _
    rw [newPages_length, newFrames_to n t n (Nat.le_refl _), if_neg (by omega)]
    rfl
  unfold headM
  rw [h, hln, show (newMc n t c).cells = c from rfl, hr, ho, hnw, hcl]
  have h1 : inR 1 1 30 = true := by decide
  have h2 : valsOk (ms.length : Int) [] = true := rfl
  show (true && (true && (true && (true && (inR 1 1 30 && (decide (((1 : Nat) : Int) ≤ 1) && (valsOk ms.length [] && (inR 0 0 3 && (((0 : Int) == 1) == ((0 : Int) == -1)))))))))) = true
  rw [h1, h2]
  decide
theorem newMc_page {ms : List (Int × Int × List (Int × Int))} {n : Nat} {c : Int} (h : progOk ms = true) (hr : roomsB (n : Int) c = true) (k : Nat) (hk : k < (newMc n (temps0 ms) c).pages.length) : pageB ms (newMc n (temps0 ms) c) k (newMc n (temps0 ms) c).pages[k] = true := by
  obtain ⟨hl, h0, h4, ht, _⟩ := first_ok h
  have hg : ms.getD 0 (0, 0, []) = ms[0] := by simp [hl]
  have hn := roomsB_true hr
  have e : (newMc n (temps0 ms) c).pages[k] = ⟨-1, if k = 0 then [⟨0, 0, -1, List.replicate (temps0 ms) (0, 0), []⟩] else []⟩ := newPages_at (n := n) (t := temps0 ms) hk
  rw [e]
  have hb : ∀ fs, baseB (newMc n (temps0 ms) c) ⟨-1, fs⟩ = true := fun fs => rfl
  by_cases hk0 : k = 0
  · subst hk0
    unfold pageB
    rw [if_pos rfl, hb]
    have hc : clOk ms 0 ⟨0, 0, List.replicate (temps0 ms) (0, 0), [], -1, false⟩ = true := by
      have a2 : inR (-1) (-1) (-1) = true := by decide
      have hg2 : ms[0]? = some ms[0] := List.getElem?_eq_getElem hl
      have hv := vals_zero 0 (temps0 ms)
      have hz : valsOk 0 [] = true := rfl
      have hm : inR 0 0 ((ms.length : Int) - 1) = true := inR_true.2 ⟨by omega, by omega⟩
      have hpc : inR 0 0 (ms[0].2.2.length : Int) = true := inR_true.2 ⟨by omega, by omega⟩
      simp [clOk, hg2, ht, hm, hpc, hv, hz, a2]
    have hf : frameB ms (newMc n (temps0 ms) c) 0 0 ⟨0, 0, -1, List.replicate (temps0 ms) (0, 0), []⟩ = true := by
      unfold frameB frCl
      show (clOk ms (0 : Nat) ⟨0, 0, List.replicate (temps0 ms) (0, 0), [], -1, false⟩ && _) = true
      rw [show clOk ms ((0 : Nat) : Nat) ⟨0, 0, List.replicate (temps0 ms) (0, 0), [], -1, false⟩ = true from hc]
      rfl
    have hcs : (cellsTo [(⟨0, 0, -1, List.replicate (temps0 ms) (0, 0), []⟩ : Fr)] 1 : Int) ≤ c := by
      simp [cellsTo]
      omega
    simp only [List.length_cons, List.length_nil, Nat.zero_add, List.range_one, List.all_cons, List.all_nil, List.getD_cons_zero, hf, Bool.and_true, Bool.true_and]
    show decide ((cellsTo [(⟨0, 0, -1, List.replicate (temps0 ms) (0, 0), []⟩ : Fr)] 1 : Int) ≤ c) = true
    exact decide_eq_true hcs
  · unfold pageB
    rw [if_neg hk0, hb]
    simp only [List.length_nil, List.range_zero, List.all_nil, Bool.and_true, Bool.true_and]
    show decide ((cellsTo [] 0 : Int) ≤ c) = true
    exact decide_eq_true (by show (0 : Int) ≤ c; omega)
theorem newMc_ok {ms : List (Int × Int × List (Int × Int))} {n : Nat} {c : Int} (h : progOk ms = true) (hr : roomsB (n : Int) c = true) : machB ms (newMc n (temps0 ms) c) = true := by
  rw [machB_end (newMc_head h hr) (fun k hk => newMc_page h hr k hk) fun k hk => absurd hk (Nat.not_lt_zero _)]
  rw [newMc_things (by have := roomsB_true hr; omega)]
  have h1 : deepOf [(⟨0, 0, List.replicate (temps0 ms) (0, 0), [], -1, false⟩ : Cl)] 0 = 1 := by simp [deepOf, deepC]
  have h2 : liveN [(⟨0, 0, List.replicate (temps0 ms) (0, 0), [], -1, false⟩ : Cl)] = 1 := by simp [liveN]
  have h3 : freeP [(⟨0, 0, List.replicate (temps0 ms) (0, 0), [], -1, false⟩ : Cl)] 0 := fun i hi hne => by
    have : i = 0 := by simp at hi; omega
    subst this
    exact absurd rfl hne
  unfold waitP
  rw [h1, h2]
  simp [h3]
theorem newMc_told {ms : List (Int × Int × List (Int × Int))} {n : Nat} {c : Int} (h : progOk ms = true) (hr : roomsB (n : Int) c = true) : Told (newMc n (temps0 ms) c) :=
  told_of h (fun k hk => newMc_page h hr k hk) fun _ hk => absurd hk (Nat.not_lt_zero _)
theorem newMc_view {ms : List (Int × Int × List (Int × Int))} {n : Nat} {c : Int} (h : progOk ms = true) (hn : 1 ≤ n) : viewL (thingsM (newMc n (temps0 ms) c)) = viewL (newHp ms) := by
  rw [newMc_things hn, newHp_yes h]
  rfl
theorem newMc_few (n t : Nat) (c : Int) : ∀ i, (hi : i < (newMc n t c).pages.length) → (newMc n t c).pages[i].frames.length ≤ 1 ∧ ∀ j, (hj : j < (newMc n t c).pages[i].frames.length) → (newMc n t c).pages[i].frames[j].temps.length ≤ t ∧ (newMc n t c).pages[i].frames[j].stack.length = 0 := by
  intro i hi
  have e : (newMc n t c).pages[i] = ⟨-1, if i = 0 then [⟨0, 0, -1, List.replicate t (0, 0), []⟩] else []⟩ := newPages_at (n := n) (t := t) hi
  generalize (newMc n t c).pages[i] = P at e ⊢
  subst e
  by_cases h0 : i = 0
  · subst h0
    refine ⟨by simp, fun j hj => ?_⟩
    have : j = 0 := by simp at hj; omega
    subst this
    exact ⟨by simp, rfl⟩
  · simp [h0]
end Go.Proofs.Ytldiccheboipeaa
