/-
  The program's heap at work: a value is said.
-/
import Derived.Test.YtlpbklgkafjfmaaGreatDoorLWalk3
import Derived.Test.YtlpbklgkafjfmaaGreatDoorHImpl3
import Derived.Test.YtlpbklgkafjfmaaGreatDoorDHMem
import Derived.Test.YtlpbklgkafjfmaaGreatDoorStepS
import Derived.Test.YtlpbklgkafjfmaaGreatDoorImplOk2
import Derived.Test.YtlpbklgkafjfmaaGreatDoorVImpl
import Derived.Test.YtlpbklgkafjfmaaGreatDoorQB
import Derived.BigRegion

namespace Go.Proofs.YtlpbklgkafjfmaaGreatDoor
open Go.RowKit
variable {B : Nat} {w w' : World} {bl br : Nat} {vp vcs vsd : Value} {C D : Nat → Nat} {T : Nat → Value × Value} {h h' : Hp}
theorem Tryz.go_looked (bl : Nat) (w : World) : (method 267 70 (.pointer (some ⟨bl, 0, none⟩)) "loop.example/gemel/impl.looked").run Tryz.prog w = .ok (130, .pointer (some ⟨bl, 0, none⟩)) w := by kernel_rfl
theorem Tryz.go_here (bl : Nat) (w : World) : (method 267 70 (.pointer (some ⟨bl, 0, none⟩)) "loop.example/gemel/impl.here").run Tryz.prog w = .ok (128, .pointer (some ⟨bl, 0, none⟩)) w := by kernel_rfl
theorem Tryz.go_sender (bl : Nat) (w : World) : (method 267 70 (.pointer (some ⟨bl, 0, none⟩)) "loop.example/gemel/impl.sender").run Tryz.prog w = .ok (132, .pointer (some ⟨bl, 0, none⟩)) w := by kernel_rfl
theorem Tryz.go_enter (bl : Nat) (w : World) : (method 267 70 (.pointer (some ⟨bl, 0, none⟩)) "loop.example/gemel/impl.enter").run Tryz.prog w = .ok (127, .pointer (some ⟨bl, 0, none⟩)) w := by kernel_rfl
theorem Tryz.go_leave (bl : Nat) (w : World) : (method 267 70 (.pointer (some ⟨bl, 0, none⟩)) "loop.example/gemel/impl.leave").run Tryz.prog w = .ok (129, .pointer (some ⟨bl, 0, none⟩)) w := by kernel_rfl
theorem Tryz.go_backTo (bl : Nat) (w : World) : (method 267 70 (.pointer (some ⟨bl, 0, none⟩)) "loop.example/gemel/impl.backTo").run Tryz.prog w = .ok (126, .pointer (some ⟨bl, 0, none⟩)) w := by kernel_rfl
theorem say_tail (k : LV B w bl br vp vcs vsd C D T h) (hB : B ≤ w.heap.size) (W1 : World) (hA : Below w.heap.size w W1) (a m : Int) {sa : Option Addr} {sc : Nat} (hS : vsd = .slice sa h.said.length sc) :
    PairRow B (W1.alloc (.cells #[.int .i64 a, .int .i64 m] 37)).drew (.slice sa h.said.length sc) h.said ∧ (W1.cell? ⟨br, 3, none⟩ = some (.slice sa h.said.length sc)) ∧
    ∀ v' w', PairRow B w' v' (h.said ++ [(a, m)]) → (W1.alloc (.cells #[.int .i64 a, .int .i64 m] 37)).drew.grownBy w' (Value.slice sa h.said.length sc).ownBlock → (v'.ownBlock = (Value.slice sa h.said.length sc).ownBlock ∨ v'.ownBlock = some (W1.alloc (.cells #[.int .i64 a, .int .i64 m] 37)).drew.heap.size) →
      (w'.cell? ⟨br, 3, none⟩ = some (.slice sa h.said.length sc) ∧ w'.frozen? ⟨br, 3, none⟩ = false) ∧ ∃ vsd', LV B (w'.setCell ⟨br, 3, none⟩ v') bl br vp vcs vsd' C D T { h with said := h.said ++ [(a, m)] } ∧ LGo B (LOwn bl br vcs vsd C D T h.calls.length) (LOwn bl br vcs vsd' C D T h.calls.length) w (w'.setCell ⟨br, 3, none⟩ v') := by
  have NA : Below W1.heap.size W1 (W1.alloc (.cells #[.int .i64 a, .int .i64 m] 37)).drew := ((Below.refl _ _).alloc (Nat.le_refl _) _).drew
  have zN : (W1.alloc (.cells #[.int .i64 a, .int .i64 m] 37)).drew.heap.size = W1.heap.size + 1 := by simp
  have hz1 := hA.size
  have hbr := k.lo .run trivial br rfl
  obtain ⟨⟨_, _, _, b3, _⟩, _, _, _, bf3, _⟩ := five_cells k.rn
  have hrs : vsd.ownBlock ≠ some br := fun e => by have := k.ap .said .run trivial trivial br e rfl; cases this
  have hrow := k.sd
  rw [hS] at b3
  refine ⟨?_, cell_below hA b3, fun v' w' hr hg hv => ?_⟩
  · rw [← hS]; exact (hrow.below hA).below NA
  have hz := hg.size
  have hbl : ∀ g, g < w.heap.size → vsd.ownBlock ≠ some g → w'.heap[g]? = w.heap[g]? := fun g h1 h2 => ((hg.block g (by omega) (fun e => h2 (by rw [hS]; exact e.symm))).trans (NA.block g (by omega))).trans (hA.block g h1)
  have hDb := hbl br hbr.2 hrs
  have hvn : ∀ q, v'.ownBlock = some q → vsd.ownBlock = some q ∨ w.heap.size ≤ q := fun q e => by
    rcases hv with x | x
    · exact .inl (by rw [hS, ← x]; exact e)
    · rw [x] at e; injection e with e; exact .inr (by omega)
  have hBw : Below B w w' := ((hA.mono hB).trans (NA.mono (by omega))).grown hg (by omega) (fun q e => (hrow.lt q (by rw [hS]; exact e)).1)
  exact ⟨⟨(World.cell?_of_block (a := ⟨br, 3, none⟩) hDb).trans b3, (World.frozen?_of_block (a := ⟨br, 3, none⟩) hDb).trans bf3⟩, v', k.say v' _ (by omega) hbl hr hvn, k.say_go v' hBw hbl hvn⟩
set_option maxRecDepth 100000 in
set_option maxHeartbeats 4000000 in
theorem runSay_any (k : LV B w bl br vp vcs vsd C D T h) (hB : B ≤ w.heap.size) (a b : Int) (hv : a = 2 → 0 ≤ b ∧ b < (h.calls.length : Int)) (hsl : h.said.length ≤ 2900000) :
    Calls Tryz.prog 109 #[.pointer (some ⟨br, 0, none⟩), .agg #[.int .i64 a, .int .i64 b]] w fun e w' => e = .returned (.tuple #[]) ∧ ∃ vsd', LV B w' bl br vp vcs vsd' C D T (sayH h (a, b)) ∧ LGo B (LOwn bl br vcs vsd C D T h.calls.length) (LOwn bl br vcs vsd' C D T h.calls.length) w w' := by
  have hA : Below w.heap.size w (w.alloc (.cells #[.int .i64 a, .int .i64 b] 37)) := (Below.refl _ _).alloc (Nat.le_refl _) _
  have rx := two_new w 37 (.int .i64 a) (.int .i64 b)
  have zA : (w.alloc (.cells #[.int .i64 a, .int .i64 b] 37)).heap.size = w.heap.size + 1 := by simp
  obtain ⟨sa, sc, hS, _⟩ := k.sd.slice
  have hbr := k.lo .run trivial br rfl
  by_cases ha : a = 2
  · subst ha
    obtain ⟨h0, h1⟩ := hv rfl
    obtain ⟨i, rfl⟩ := Int.eq_ofNat_of_zero_le h0
    have hi : i < h.calls.length := by omega
    have hsay : sayH h (2, (i : Int)) = { h with said := h.said ++ [(2, h.calls[i].m)] } := by
      unfold sayH sayV
      rw [if_pos rfl, Int.toNat_natCast, getD_at hi]
    rw [hsay]
    have hDi := k.lo (.body i) hi (D i) rfl
    have k1 := k.below hA
    have hm := Tryz.go_looked bl
    have hW : Below w.heap.size w (((w.alloc (.cells #[.int .i64 2, .int .i64 i] 37)).setCell ⟨w.heap.size, 1, none⟩ (.int .i64 h.calls[i].m)).drew) := (hA.setCell (p := ⟨w.heap.size, 1, none⟩) (Nat.le_refl _) _).drew
    have rW : (((w.alloc (.cells #[.int .i64 2, .int .i64 i] 37)).setCell ⟨w.heap.size, 1, none⟩ (.int .i64 h.calls[i].m)).drew).rowIs w.heap.size 37 2 (two (.int .i64 2) (.int .i64 h.calls[i].m)) := (rx.set 1 (.int .i64 h.calls[i].m)).congr fun q hq => by match q, hq with | 0, _ => rfl | 1, _ => rfl
    obtain ⟨hown, c3, hend⟩ := say_tail k hB _ hW 2 h.calls[i].m hS
    have HE : Hid _ := hend
    have c0 := (five_cells (k1.bd i hi)).1.1
    clear hend
    obtain ⟨⟨x0, x1⟩, xf0, xf1⟩ := two_cells rx
    obtain ⟨⟨y0, y1, y2, y3, y4⟩, _⟩ := five_cells k1.rn
    obtain ⟨⟨t0, t1⟩, _⟩ := two_cells rW
    generalize h.calls[i].m = mm at *
    go_enter Tryz.func109, Tryz.ntmps109
    go_upto_region 1 with fail
    generalize w.alloc (.cells #[.int .i64 2, .int .i64 i] 37) = W1 at *
    have k1d := k1.below ((Below.refl _ _).drew)
    have HR : Hid (Calls Tryz.prog 130 #[.pointer (some ⟨bl, 0, none⟩), .int .i64 i] W1.drew fun e w' => e = .returned (.pointer (some ⟨D i, 0, none⟩)) ∧ w' = W1.drew) := looked_any k1d hi
    have hbrW : br < W1.heap.size := by omega
    have hwW : w.heap.size < W1.heap.size := by omega
    have hzW : (W1.setCell ⟨w.heap.size, 1, none⟩ (.int .i64 mm)).drew.heap.size = w.heap.size + 1 := by simp [World.setCell]; exact zA
    clear k k1 k1d rx rW hW
    go_wp2_with fail
    go_region_law (go_simp; go_at_call 130; refine HR.out.mono ?_; rintro e w' ⟨rfl, hw⟩; obtain rfl := hw.symm)
    all_goals
      generalize (W1.setCell ⟨w.heap.size, 1, none⟩ (.int .i64 mm)).drew = W2 at *
      have one1 : OpsAt (W2.alloc (.cells #[.int .i64 2, .int .i64 mm] 37)).drew (.slice (some ⟨w.heap.size + 1, 0, none⟩) 1 1) [(2, mm)] := by rw [← hzW]; exact one_drewL W2 2 mm _ _
      have hz1 : B ≤ (W2.alloc (.cells #[.int .i64 2, .int .i64 mm] 37)).drew.heap.size := by simp; omega
      have hbr2 : br < W2.heap.size := by omega
      have hw2 : w.heap.size < W2.heap.size := by omega
      clear x0 x1 y0 y1 y2 y3 y4 c0 xf0 xf1
      go_wp2_with fail
      go_region_law (refine step_vals _ (by rfl) _ _ (by rfl) B _ _ h.said [(2, mm)] (by rfl) (by rfl) hown one1 (by simp; omega) (by first | exact hz1 | (simp; omega)) ?_; intro v' w' hrow hg hbk; obtain ⟨a', c', hv', _⟩ := hrow.slice; rw [List.length_append] at hv'; subst hv'; obtain ⟨⟨z4, f4⟩, hLV⟩ := HE.out _ w' hrow hg hbk)
      all_goals exact bodyPost_end (results_none rfl _ _ _) rfl ⟨rfl, hLV⟩
  · have hae : (a == 2) = false := beq_eq_false_iff_ne.2 ha
    have hsay : sayH h (a, b) = { h with said := h.said ++ [(a, b)] } := by unfold sayH sayV; rw [if_neg ha]
    rw [hsay]
    obtain ⟨hown, c3, hend⟩ := say_tail k hB _ hA a b hS
    have HE : Hid _ := hend
    clear hend
    obtain ⟨⟨x0, x1⟩, _⟩ := two_cells rx
    go_enter Tryz.func109, Tryz.ntmps109
    go_upto_region 1 with fail
    generalize w.alloc (.cells #[.int .i64 a, .int .i64 b] 37) = W1 at *
    have one1 : OpsAt (W1.alloc (.cells #[.int .i64 a, .int .i64 b] 37)).drew (.slice (some ⟨w.heap.size + 1, 0, none⟩) 1 1) [(a, b)] := by rw [← zA]; exact one_drewL W1 a b _ _
    have hz1 : B ≤ (W1.alloc (.cells #[.int .i64 a, .int .i64 b] 37)).drew.heap.size := by simp; omega
    have hbrW : br < W1.heap.size := by omega
    have hwW : w.heap.size < W1.heap.size := by omega
    clear k rx
    go_wp2_with fail
    go_region_law (refine step_vals _ (by rfl) _ _ (by rfl) B _ _ h.said [(a, b)] (by rfl) (by rfl) hown one1 (by simp; omega) (by first | exact hz1 | (simp; omega)) ?_; intro v' w' hrow hg hbk; obtain ⟨a', c', hv', _⟩ := hrow.slice; rw [List.length_append] at hv'; subst hv'; obtain ⟨⟨z4, f4⟩, hLV⟩ := HE.out _ w' hrow hg hbk)
    all_goals exact bodyPost_end (results_none rfl _ _ _) rfl ⟨rfl, hLV⟩
end Go.Proofs.YtlpbklgkafjfmaaGreatDoor

/-
  The program's heap at work: a call is born.
-/
namespace Go.Proofs.YtlpbklgkafjfmaaGreatDoor
open Go.RowKit
variable {B : Nat} {w w' : World} {bl br : Nat} {vp vcs vsd : Value} {C D : Nat → Nat} {T : Nat → Value × Value} {h h' : Hp}
theorem Tryz.infoLC : (Tryz.prog.info? 81).map (fun i => (i.zero, i.size, i.bytes)) = some (some (.pointer none), 1, 8) := by kernel_rfl
theorem src_ptr {w : World} {c g : Nat} (hc : w.cell? ⟨g, 0, none⟩ = some (.pointer (some ⟨c, 0, none⟩))) : Src Tryz.prog 1 80 (.slice (some ⟨g, 0, none⟩) 1 1) 1 [.pointer (some ⟨c, 0, none⟩)] w := by
  refine Src.ofSlice w Tryz.underlying80 ⟨g, 0, none⟩ _ 1 _ rfl (fun j u hu => ?_) (fun u hu => ?_)
  · cases j with
    | zero => simp at hu; subst hu; rw [Addr.add_lit]; exact hc
    | succ j => simp at hu
  · simp at hu; subst hu; rfl
theorem run_append_ptrs {ty : TypeId} {B : Nat} {w : World} {v xv : Value} {n : Nat} {xs : List Value} {y : Value} (hown : CRow B 1 w v n xs) (hM : Src Tryz.prog 1 80 xv 1 [y] w) (hL : n + 1 ≤ 3000000) (hB : B ≤ w.heap.size) :
    ∃ v' w', (Builtin.append_ #[80, 80] ty #[v, xv]).run Tryz.prog w = .ok v' w' ∧ CRow B 1 w' v' (n + 1) (xs ++ [y]) ∧ w.grownBy w' v.ownBlock ∧ (v'.ownBlock = v.ownBlock ∨ v'.ownBlock = some w.heap.size) := by
  obtain ⟨i0, hi, hz0, hz1, hz2⟩ := info_parts Tryz.infoLC
  have h1 : CRow B i0.size w v n xs := by rw [hz1]; exact hown
  have h2 : Src Tryz.prog i0.size 80 xv 1 [y] w := by rw [hz1]; exact hM
  obtain ⟨v', w', hr, hc, hg, hb⟩ := run_append_rows (P := Tryz.prog) (ty := ty) Tryz.underlying80 hi hz0 (by rw [hz1]; rfl) (by rw [hz2]; omega) h1 xv 1 [y] h2 hL hB
  rw [hz1] at hc
  exact ⟨v', w', hr, hc, hg, hb⟩
theorem step_ptrs {ops : Array Oper} {o : Oper} {act : Act} {K : Act → World → Prop} {Q : Exit → Act → World → Prop} {E : Prop} (w : World) (hgd : o.guard = none) (s x : Operand)
    (ho : o.op = .call { callee := .builtin .append, args := #[s, x], argTypes := #[80, 80] }) (B : Nat) (v xv : Value) (n : Nat) (xs : List Value) (y : Value) (hs : act.eval s = v) (hx : act.eval x = xv) (hown : CRow B 1 w v n xs) (hM : Src Tryz.prog 1 80 xv 1 [y] w)
    (hL : n + 1 ≤ 3000000) (hB : B ≤ w.heap.size)
    (h : ∀ v' w', CRow B 1 w' v' (n + 1) (xs ++ [y]) → w.grownBy w' v.ownBlock → (v'.ownBlock = v.ownBlock ∨ v'.ownBlock = some w.heap.size) → K (act.put o.dst v') w') :
    if Region.wanted o (yielded ops act.tmps) = true then Oper.wp Tryz.prog o act w K Q else E := by
  obtain ⟨v', w', hr, h2, h3, h4⟩ := run_append_ptrs (ty := o.type) hown hM hL hB
  rw [if_pos (by simp [Region.wanted, hgd])]
  unfold Oper.wp execOp
  simp only [ho, resolve, invoke, builtin, Sem.run_bind, Sem.run_pure, Result.andThen_ok, List.map_toArray, List.map_cons, List.map_nil, hs, hx, hr]
  exact h v' w' h2 h3 h4
theorem CRow.form1 {B n : Nat} {w : World} {v : Value} {xs : List Value} (h : CRow B 1 w v n xs) : ∃ a cap, v = .slice a n cap := by
  obtain ⟨_, h | ⟨g, off, cap, hv, _⟩⟩ := h
  · exact ⟨none, 0, by rw [h.1, h.2]⟩
  · exact ⟨_, cap, hv⟩
theorem enter_go {w0 : World} (_k : LV B w0 bl br vp vcs vsd C D T h) {c d : Nat} {vcs' : Value} (hbl : ∀ g, g < w0.heap.size → g ≠ bl → vcs.ownBlock ≠ some g → w'.heap[g]? = w0.heap[g]?) (hb : Below B w0 w') (hc : w0.heap.size ≤ c) (hd : w0.heap.size ≤ d) {vt : Value}
    (nv : ∀ q, vcs'.ownBlock = some q → vcs.ownBlock = some q ∨ (w0.heap.size ≤ q ∧ q ≠ c ∧ q ≠ d)) (nt : ∀ q, vt.ownBlock = some q → w0.heap.size ≤ q) :
    LGo B (LOwn bl br vcs vsd C D T h.calls.length) (LOwn bl br vcs' vsd (updN C h.calls.length c) (updN D h.calls.length d) (putV T h.calls.length (vt, .slice none 0 0)) (h.calls.length + 1)) w0 w' := by
  refine ⟨hb, fun g hg hn => hbl g hg (fun e => hn ⟨.heap, trivial, by rw [e]; rfl⟩) (fun e => hn ⟨.row, trivial, e⟩), fun g ⟨x, hx, e⟩ => ?_⟩
  cases x with
  | heap => exact .inl ⟨.heap, trivial, e⟩
  | run => exact .inl ⟨.run, trivial, e⟩
  | said => exact .inl ⟨.said, trivial, e⟩
  | row =>
    rcases nv g e with q | q
    · exact .inl ⟨.row, trivial, q⟩
    · exact .inr q.1
  | call i =>
    simp only [Blk.at] at e
    by_cases q : i = h.calls.length
    · subst q; rw [updN_same] at e; injection e with e; exact .inr (by omega)
    · rw [updN_other _ q] at e; exact .inl ⟨.call i, by have : i < h.calls.length + 1 := hx; show i < h.calls.length; omega, e⟩
  | body i =>
    simp only [Blk.at] at e
    by_cases q : i = h.calls.length
    · subst q; rw [updN_same] at e; injection e with e; exact .inr (by omega)
    · rw [updN_other _ q] at e; exact .inl ⟨.body i, by have : i < h.calls.length + 1 := hx; show i < h.calls.length; omega, e⟩
  | temps i =>
    simp only [Blk.at] at e
    by_cases q : i = h.calls.length
    · subst q; rw [putV_same] at e; exact .inr (nt g e)
    · rw [putV_other _ _ q] at e; exact .inl ⟨.temps i, by have : i < h.calls.length + 1 := hx; show i < h.calls.length; omega, e⟩
  | stack i =>
    simp only [Blk.at] at e
    by_cases q : i = h.calls.length
    · subst q; rw [putV_same] at e; simp [Value.ownBlock] at e
    · rw [putV_other _ _ q] at e; exact .inl ⟨.stack i, by have : i < h.calls.length + 1 := hx; show i < h.calls.length; omega, e⟩
set_option maxRecDepth 100000 in
set_option maxHeartbeats 4000000 in
theorem enter_any {w0 : World} (k : LV B w0 bl br vp vcs vsd C D T h) (hb0 : Below w0.heap.size w0 w) (hB : B ≤ w0.heap.size) {d : Nat} (hd : w0.heap.size ≤ d) {vt : Value} {cl : Cl} (hst : cl.stack = []) (hsn : cl.sender = h.now) (hnow : h.now < (h.calls.length : Int)) (hsd : ∀ i, (hi : i < h.calls.length) → h.calls[i].sender < (h.calls.length : Int))
    (rd : w.rowIs d 113 5 (five (.int .i64 cl.m) (.int .i64 cl.pc) vt (.slice none 0 0) (.bool cl.dead))) (ht : PairRow B w vt cl.temps) (nt : ∀ q, vt.ownBlock = some q → w0.heap.size ≤ q ∧ q ≠ d) (hl : h.calls.length ≤ 1000) :
    Calls Tryz.prog 127 #[.pointer (some ⟨bl, 0, none⟩), .pointer (some ⟨d, 0, none⟩)] w fun e w' => e = .returned (.tuple #[]) ∧ ∃ vcs' C' D' T', LV B w' bl br vp vcs' vsd C' D' T' { h with calls := h.calls ++ [cl], now := (h.calls.length : Int) } ∧ LGo B (LOwn bl br vcs vsd C D T h.calls.length) (LOwn bl br vcs' vsd C' D' T' (h.calls.length + 1)) w0 w' := by
  have kw := k.below hb0
  obtain ⟨av, cv, hvc⟩ := k.row.form1
  subst hvc
  obtain ⟨q, hq⟩ : ∃ q, ptrN C h.now = .pointer q := by
    unfold ptrN
    split
    · exact ⟨_, rfl⟩
    · exact ⟨_, rfl⟩
  have hbl := k.lo .heap trivial bl rfl
  have hz0 := hb0.size
  have hdl := rd.lt
  have hblw : bl < w.heap.size := by omega
  have hrl : ∀ g, (Value.slice av h.calls.length cv).ownBlock = some g → g < w0.heap.size ∧ g ≠ bl := fun g e => ⟨(k.lo .row trivial g e).2, fun e2 => by have := k.ap .row .heap trivial trivial g e (by rw [e2]; rfl); cases this⟩
  -- the world behind the first statement
  have zs : (w.setCell ⟨bl, 1, none⟩ (.pointer (some ⟨w.heap.size, 0, none⟩))).heap.size = w.heap.size := by simp [World.setCell]
  have NS : Below (w.setCell ⟨bl, 1, none⟩ (.pointer (some ⟨w.heap.size, 0, none⟩))).heap.size (w.setCell ⟨bl, 1, none⟩ (.pointer (some ⟨w.heap.size, 0, none⟩))) (((w.setCell ⟨bl, 1, none⟩ (.pointer (some ⟨w.heap.size, 0, none⟩))).alloc (.cells #[.pointer (some ⟨d, 0, none⟩), .int .i64 h.calls.length, .pointer q] 98)).drew) := ((Below.refl _ _).alloc (Nat.le_refl _) _).drew
  have rc1 : (((w.setCell ⟨bl, 1, none⟩ (.pointer (some ⟨w.heap.size, 0, none⟩))).alloc (.cells #[.pointer (some ⟨d, 0, none⟩), .int .i64 h.calls.length, .pointer q] 98)).drew).rowIs w.heap.size 98 3 (trio (.pointer (some ⟨d, 0, none⟩)) (.int .i64 h.calls.length) (.pointer q)) := by
    have r := trio_new (w.setCell ⟨bl, 1, none⟩ (.pointer (some ⟨w.heap.size, 0, none⟩))) 98 (.pointer (some ⟨d, 0, none⟩)) (.int .i64 h.calls.length) (.pointer q)
    rw [zs] at r
    exact r
  have hp1 : (((w.setCell ⟨bl, 1, none⟩ (.pointer (some ⟨w.heap.size, 0, none⟩))).alloc (.cells #[.pointer (some ⟨d, 0, none⟩), .int .i64 h.calls.length, .pointer q] 98)).drew).rowIs bl 83 2 (two (.slice av h.calls.length cv) (.pointer (some ⟨w.heap.size, 0, none⟩))) := row_below NS ((kw.hp.set 1 (.pointer (some ⟨w.heap.size, 0, none⟩))).congr fun i hi => by match i, hi with | 0, _ => rfl | 1, _ => rfl)
  have hz1 : (((w.setCell ⟨bl, 1, none⟩ (.pointer (some ⟨w.heap.size, 0, none⟩))).alloc (.cells #[.pointer (some ⟨d, 0, none⟩), .int .i64 h.calls.length, .pointer q] 98)).drew).heap.size = w.heap.size + 1 := by simp [World.setCell]
  have hblk : ∀ g, g < w.heap.size → g ≠ bl → (((w.setCell ⟨bl, 1, none⟩ (.pointer (some ⟨w.heap.size, 0, none⟩))).alloc (.cells #[.pointer (some ⟨d, 0, none⟩), .int .i64 h.calls.length, .pointer q] 98)).drew).heap[g]? = w.heap[g]? := fun g h1 h2 => (NS.block g (by rw [zs]; exact h1)).trans (Below.heap_setCell _ _ _ _ (fun e => h2 e))
  have row1 : CRow B 1 (((w.setCell ⟨bl, 1, none⟩ (.pointer (some ⟨w.heap.size, 0, none⟩))).alloc (.cells #[.pointer (some ⟨d, 0, none⟩), .int .i64 h.calls.length, .pointer q] 98)).drew) (.slice av h.calls.length cv) h.calls.length (ptrs C h.calls.length) := kw.row.kept (by rw [hz1]; omega) fun g e => hblk g (by have := (hrl g e).1; omega) (hrl g e).2
  have hbW : Below B w (((w.setCell ⟨bl, 1, none⟩ (.pointer (some ⟨w.heap.size, 0, none⟩))).alloc (.cells #[.pointer (some ⟨d, 0, none⟩), .int .i64 h.calls.length, .pointer q] 98)).drew) := (((Below.refl B w).setCell (p := ⟨bl, 1, none⟩) hbl.1 _).alloc (by rw [zs]; omega) _).drew
  obtain ⟨⟨x0, x1⟩, xf0, xf1⟩ := two_cells kw.hp
  obtain ⟨⟨p0, p1⟩, pf0, pf1⟩ := two_cells hp1
  rw [hq] at x1
  have HFIN : Hid (∀ (W1 : World), W1 = ((w.setCell ⟨bl, 1, none⟩ (.pointer (some ⟨w.heap.size, 0, none⟩))).alloc (.cells #[.pointer (some ⟨d, 0, none⟩), .int .i64 h.calls.length, .pointer q] 98)).drew → ∀ v' w', CRow B 1 w' v' (h.calls.length + 1) (ptrs C h.calls.length ++ [.pointer (some ⟨w.heap.size, 0, none⟩)]) → (W1.alloc (.cells #[.pointer (some ⟨w.heap.size, 0, none⟩)] 81)).drew.grownBy w' (Value.slice av h.calls.length cv).ownBlock → (v'.ownBlock = (Value.slice av h.calls.length cv).ownBlock ∨ v'.ownBlock = some (W1.alloc (.cells #[.pointer (some ⟨w.heap.size, 0, none⟩)] 81)).drew.heap.size) → (w'.cell? ⟨bl, 0, none⟩ = some (.slice av h.calls.length cv) ∧ w'.frozen? ⟨bl, 0, none⟩ = false) ∧ ∃ vcs' C' D' T', LV B (w'.setCell ⟨bl, 0, none⟩ v') bl br vp vcs' vsd C' D' T' { h with calls := h.calls ++ [cl], now := (h.calls.length : Int) } ∧ LGo B (LOwn bl br (.slice av h.calls.length cv) vsd C D T h.calls.length) (LOwn bl br vcs' vsd C' D' T' (h.calls.length + 1)) w0 (w'.setCell ⟨bl, 0, none⟩ v')) := by
    intro W1 hW1 v' w' hr hg hv
    rw [← hW1] at rc1 hp1 hz1 hblk hbW
    have NA : Below W1.heap.size W1 (W1.alloc (.cells #[.pointer (some ⟨w.heap.size, 0, none⟩)] 81)).drew := ((Below.refl _ _).alloc (Nat.le_refl _) _).drew
    have zN : (W1.alloc (.cells #[.pointer (some ⟨w.heap.size, 0, none⟩)] 81)).drew.heap.size = w.heap.size + 2 := by simp; omega
    have hzg := hg.size
    have hbw : ∀ g, g < W1.heap.size → (Value.slice av h.calls.length cv).ownBlock ≠ some g → w'.heap[g]? = W1.heap[g]? := fun g h1 h2 => (hg.block g (by omega) (fun e => h2 e.symm)).trans (NA.block g h1)
    have hnr : ∀ g, w0.heap.size ≤ g → (Value.slice av h.calls.length cv).ownBlock ≠ some g := fun g h1 e => by have := (hrl g e).1; omega
    have hbr : (Value.slice av h.calls.length cv).ownBlock ≠ some bl := fun e => (hrl bl e).2 rfl
    have hpw := hp1.of_block (hbw bl (by omega) hbr)
    obtain ⟨⟨c0, _⟩, cf0, _⟩ := two_cells hpw
    have hvb : v'.ownBlock ≠ some bl := fun e => by
      rcases hv with x | x
      · exact hbr (by rw [← x]; exact e)
      · rw [x] at e; injection e with e; omega
    have nv : ∀ g, v'.ownBlock = some g → (Value.slice av h.calls.length cv).ownBlock = some g ∨ (w0.heap.size ≤ g ∧ g ≠ w.heap.size ∧ g ≠ d) := fun g e => by
      rcases hv with x | x
      · exact .inl (by rw [← x]; exact e)
      · rw [x] at e; injection e with e; exact .inr ⟨by omega, by omega, by omega⟩
    have ntt : ∀ g, vt.ownBlock = some g → w0.heap.size ≤ g ∧ g ≠ w.heap.size ∧ g ≠ d ∧ v'.ownBlock ≠ some g := fun g e => by
      have h1 := nt g e
      have h2 := (ht.lt g e).2
      refine ⟨h1.1, by omega, h1.2, fun e2 => ?_⟩
      rcases hv with x | x
      · exact hnr g h1.1 (by rw [← x]; exact e2)
      · rw [x] at e2; injection e2 with e2; omega
    have hF : ∀ g, g < w.heap.size → g ≠ bl → (Value.slice av h.calls.length cv).ownBlock ≠ some g → (w'.setCell ⟨bl, 0, none⟩ v').heap[g]? = w.heap[g]? := fun g h1 h2 h3 => ((Below.heap_setCell _ _ _ _ (fun e => h2 e)).trans (hbw g (by omega) h3)).trans (hblk g h1 h2)
    have hF0 : ∀ g, g < w0.heap.size → g ≠ bl → (Value.slice av h.calls.length cv).ownBlock ≠ some g → (w'.setCell ⟨bl, 0, none⟩ v').heap[g]? = w0.heap[g]? := fun g h1 h2 h3 => (hF g (by omega) h2 h3).trans (hb0.block g h1)
    have hsz : w0.heap.size ≤ (w'.setCell ⟨bl, 0, none⟩ v').heap.size := by simp [World.setCell]; omega
    have hhp : (w'.setCell ⟨bl, 0, none⟩ v').rowIs bl 83 2 (two v' (.pointer (some ⟨w.heap.size, 0, none⟩))) := two_set0 hpw v'
    have hrw : CRow B 1 (w'.setCell ⟨bl, 0, none⟩ v') v' (h.calls.length + 1) (ptrs C h.calls.length ++ [.pointer (some ⟨w.heap.size, 0, none⟩)]) := hr.kept (by simp [World.setCell]) fun g e => Below.heap_setCell _ _ _ _ (fun e2 => hvb (by have e3 : g = bl := e2; rw [← e3]; exact e))
    have hcl : (w'.setCell ⟨bl, 0, none⟩ v').rowIs w.heap.size 98 3 (trio (.pointer (some ⟨d, 0, none⟩)) (.int .i64 h.calls.length) (ptrN C h.now)) := by
      rw [hq]
      exact rc1.of_block ((Below.heap_setCell _ _ _ _ (by show w.heap.size ≠ bl; omega)).trans (hbw _ (by omega) (hnr _ (by omega))))
    have hbd := rd.of_block (hF d hdl (by omega) (hnr d hd))
    have htF : PairRow B (w'.setCell ⟨bl, 0, none⟩ v') vt cl.temps := ht.kept (by simp [World.setCell]; omega) fun g e => hF g (ht.lt g e).2 (by have := (nt g e).1; omega) (hnr g (nt g e).1)
    have hbF : Below B w0 (w'.setCell ⟨bl, 0, none⟩ v') := ((((hb0.mono hB).trans hbW).trans (NA.mono (by omega))).grown hg (by omega) (fun g e => (k.lo .row trivial g e).1)).setCell (p := ⟨bl, 0, none⟩) hbl.1 v'
    exact ⟨⟨c0, cf0⟩, v', _, _, _, k.enter hst hsn hnow hsd hB (by omega) hd (by omega) hsz hF0 hhp hrw hcl hbd htF nv ntt, enter_go k hF0 hbF (by omega) hd nv (fun g e => (nt g e).1)⟩
  have hBz : B ≤ w.heap.size := by omega
  clear kw k rc1 hp1 NS rd ht hblk hbW hb0 hsd
  go_enter Tryz.func127, Tryz.ntmps127
  go_wp2_with fail
  go_region
  all_goals
    have HF := HFIN.out _ rfl
    have HFH : Hid _ := HF
    clear HF HFIN
    generalize ((w.setCell ⟨bl, 1, none⟩ (.pointer (some ⟨w.heap.size, 0, none⟩))).alloc (.cells #[.pointer (some ⟨d, 0, none⟩), .int .i64 h.calls.length, .pointer q] 98)).drew = W1 at *
    have s1 : Src Tryz.prog 1 80 (.slice (some ⟨w.heap.size + 1, 0, none⟩) 1 1) 1 [.pointer (some ⟨w.heap.size, 0, none⟩)] (W1.alloc (.cells #[.pointer (some ⟨w.heap.size, 0, none⟩)] 81)).drew := src_ptr (by rw [← hz1]; simp [go_sem])
    have row2 : CRow B 1 (W1.alloc (.cells #[.pointer (some ⟨w.heap.size, 0, none⟩)] 81)).drew (.slice av h.calls.length cv) h.calls.length (ptrs C h.calls.length) := row1.below (((Below.refl _ _).alloc (Nat.le_refl _) _).drew)
    have hBA : B ≤ (W1.alloc (.cells #[.pointer (some ⟨w.heap.size, 0, none⟩)] 81)).drew.heap.size := by simp; omega
    have hblW : bl < W1.heap.size := by omega
    clear row1 x0 x1 xf0 xf1
    go_wp2_with fail
    go_region_law (refine step_ptrs _ (by rfl) _ _ (by rfl) B _ _ h.calls.length (ptrs C h.calls.length) (.pointer (some ⟨w.heap.size, 0, none⟩)) (by rfl) (by rfl) row2 s1 (by omega) (by first | exact hBA | (simp; omega)) ?_; intro v' w' hrow hg hbk; obtain ⟨a', c', hv'⟩ := hrow.form1; subst hv'; obtain ⟨⟨z4, f4⟩, hLV⟩ := HFH.out _ w' hrow hg hbk)
    all_goals exact bodyPost_end (results_none rfl _ _ _) rfl ⟨rfl, hLV⟩
end Go.Proofs.YtlpbklgkafjfmaaGreatDoor

/-
  lmWith, walked: a program in which the operation that is next is another one, and a heap in which the call that runs has other values.
-/
namespace Go.Proofs.YtlpbklgkafjfmaaGreatDoor
open Go.RowKit
def withP (ms : Ms) (h : Hp) (op : Int × Int) : Ms := ms.set (curC h).m.toNat ((ms.getD (curC h).m.toNat (0, 0, [])).1, (ms.getD (curC h).m.toNat (0, 0, [])).2.1, (ms.getD (curC h).m.toNat (0, 0, [])).2.2.set (curC h).pc.toNat op)
def withH (h : Hp) (st : List (Int × Int)) : Hp := setH h { curC h with stack := st }
def runsH (ms : Ms) (h : Hp) : Bool := heapOk ms h && (h.code == 0) && decide ((curC h).pc < ((ms.getD (curC h).m.toNat (0, 0, [])).2.2.length : Int))
theorem runs_at {ms : Ms} {h : Hp} (hg : Good ms h) (hc : h.code = 0) : ∃ (j m q : Nat) (hj : j < h.calls.length) (hm : m < ms.length), h.now = (j : Int) ∧ curC h = h.calls[j] ∧ h.calls[j].m = (m : Int) ∧ h.calls[j].pc = (q : Int) ∧ q ≤ ms[m].2.2.length ∧ ms.getD (curC h).m.toNat (0, 0, []) = ms[m] := by
  have hn := hg.head.now
  have hf := hg.head.fin
  have h0 : 0 ≤ h.now := by
    by_cases e : h.now < 0
    · have := hf.2 e; omega
    · omega
  obtain ⟨j, hj⟩ := Int.eq_ofNat_of_zero_le h0
  have hjl : j < h.calls.length := by omega
  have hcl := hg.cl j hjl
  obtain ⟨m, hm⟩ := Int.eq_ofNat_of_zero_le hcl.m.1
  obtain ⟨q, hq⟩ := Int.eq_ofNat_of_zero_le hcl.pc.1
  have hml : m < ms.length := by have := hcl.m.2; omega
  have hcur : curC h = h.calls[j] := by unfold curC; rw [hj]; simp [hjl]
  have hget : ms.getD (curC h).m.toNat (0, 0, []) = ms[m] := by rw [hcur, hm]; simp [hml]
  refine ⟨j, m, q, hjl, hml, hj, hcur, hm, hq, ?_, hget⟩
  have := hcl.pc.2
  rw [← hcur, hget, hcur, hq] at this
  omega
theorem ret_boxes {w wx : World} {B bp bh : Nat} {u u0 u1 u2 u3 u4 : Value} (rp : wx.rowIs bp 25 1 (fun _ => u)) (rh : wx.rowIs bh 29 5 (five u0 u1 u2 u3 u4)) (hne : bp ≠ bh) (hw : Below B w wx) (h1 : B ≤ bp) (h2 : B ≤ bh) (vp vc vs : Value) (x1 x2 x4 : Int) :
    ∃ WF : World, WF = ((((((wx.setCell ⟨bp, 0, none⟩ vp).setCell ⟨bh, 0, none⟩ vc).setCell ⟨bh, 1, none⟩ (.int .i64 x1)).setCell ⟨bh, 2, none⟩ (.int .i64 x2)).setCell ⟨bh, 3, none⟩ vs).setCell ⟨bh, 4, none⟩ (.int .i64 x4)) ∧
      WF.cell? ⟨bp, 0, none⟩ = some vp ∧ WF.rowIs bh 29 5 (five vc (.int .i64 x1) (.int .i64 x2) vs (.int .i64 x4)) ∧ Below B w WF ∧ WF.heap.size = wx.heap.size ∧ ∀ q, q ≠ bp → q ≠ bh → WF.heap[q]? = wx.heap[q]? := by
  have k1 := grown_set wx bp 0 vp
  have k2 := grown_trans (grown_trans (grown_trans (grown_trans (grown_set (wx.setCell ⟨bp, 0, none⟩ vp) bh 0 vc) (grown_set _ bh 1 (.int .i64 x1))) (grown_set _ bh 2 (.int .i64 x2))) (grown_set _ bh 3 vs)) (grown_set _ bh 4 (.int .i64 x4))
  refine ⟨_, rfl, k2.cell (World.cell?_setCell_same wx ⟨bp, 0, none⟩ vp (rp.cell (i := 0) (by decide))) (by intro e; injection e with e; exact hne e), five_set4 (five_set3 (five_set2 (five_set1 (five_set0 (row_kept rh k1 (by intro e; injection e with e; exact hne e.symm)) vc) (.int .i64 x1)) (.int .i64 x2)) vs) (.int .i64 x4), (((((hw.setCell (p := ⟨bp, 0, none⟩) h1 vp).setCell (p := ⟨bh, 0, none⟩) h2 vc).setCell (p := ⟨bh, 1, none⟩) h2 (.int .i64 x1)).setCell (p := ⟨bh, 2, none⟩) h2 (.int .i64 x2)).setCell (p := ⟨bh, 3, none⟩) h2 vs).setCell (p := ⟨bh, 4, none⟩) h2 (.int .i64 x4), by simp [World.setCell], fun q e1 e2 => ?_⟩
  rw [Below.heap_setCell _ _ _ _ e2, Below.heap_setCell _ _ _ _ e2, Below.heap_setCell _ _ _ _ e2, Below.heap_setCell _ _ _ _ e2, Below.heap_setCell _ _ _ _ e2, Below.heap_setCell _ _ _ _ e1]
set_option maxRecDepth 100000 in
set_option maxHeartbeats 4000000 in
theorem lmWith_no (vp vc vs vk : Value) (ms : Ms) (h : Hp) (k x : Int) (st : List (Int × Int)) (w : World) (hp : MethsAt w vp ms) (hh : HeapAt w vc vs h) (hk : OpsAt w vk st) (hn : h.calls.length ≤ 1000) (hr : runsH ms h = false) :
    Calls Tryz.prog 6 #[.agg #[vp], .agg (hpCells vc vs h), .agg #[.int .i64 k, .int .i64 x], vk] w fun e w' => e = .returned (.tuple #[.agg #[vp], .agg (hpCells vc vs h), .bool false]) ∧ Below w.heap.size w w' := by
  obtain ⟨ac, kc, hvc⟩ := hh.c.shape
  obtain ⟨aD, kD, hvs⟩ := hh.s.shape
  obtain ⟨ap, cp, hvp, hlp, hpc⟩ := id hp
  obtain ⟨ak, ck, hvk⟩ := hk.shape
  subst hvc hvs hvp hvk
  unfold hpCells
  have hA : Below w.heap.size w (((((w.alloc (.cells #[.slice ap ms.length cp] 25)).alloc (.cells #[.slice ac h.calls.length kc, .int .i64 h.now, .int .i64 h.born, .slice aD h.said.length kD, .int .i64 h.code] 29)).alloc (.cells #[.int .i64 k, .int .i64 x] 35)).alloc (.cells #[.slice none 0 0] 25)).alloc (.cells #[.slice none 0 0, .int .i64 0, .int .i64 0, .slice none 0 0, .int .i64 0] 29)) := (((((Below.refl _ _).alloc (Nat.le_refl _) _).alloc (by simp) _).alloc (by simp; omega) _).alloc (by simp; omega) _).alloc (by simp; omega) _
  have rp := ((((pbox_new w (.slice ap ms.length cp)).alloc (.cells #[.slice ac h.calls.length kc, .int .i64 h.now, .int .i64 h.born, .slice aD h.said.length kD, .int .i64 h.code] 29)).alloc (.cells #[.int .i64 k, .int .i64 x] 35)).alloc (.cells #[.slice none 0 0] 25)).alloc (.cells #[.slice none 0 0, .int .i64 0, .int .i64 0, .slice none 0 0, .int .i64 0] 29)
  have rh := (((five_new (w.alloc (.cells #[.slice ap ms.length cp] 25)) 29 (.slice ac h.calls.length kc) (.int .i64 h.now) (.int .i64 h.born) (.slice aD h.said.length kD) (.int .i64 h.code)).alloc (.cells #[.int .i64 k, .int .i64 x] 35)).alloc (.cells #[.slice none 0 0] 25)).alloc (.cells #[.slice none 0 0, .int .i64 0, .int .i64 0, .slice none 0 0, .int .i64 0] 29)
  have ro := ((dtwo_new ((w.alloc (.cells #[.slice ap ms.length cp] 25)).alloc (.cells #[.slice ac h.calls.length kc, .int .i64 h.now, .int .i64 h.born, .slice aD h.said.length kD, .int .i64 h.code] 29)) 35 (.int .i64 k) (.int .i64 x)).alloc (.cells #[.slice none 0 0] 25)).alloc (.cells #[.slice none 0 0, .int .i64 0, .int .i64 0, .slice none 0 0, .int .i64 0] 29)
  have rP := (pbox_new (((w.alloc (.cells #[.slice ap ms.length cp] 25)).alloc (.cells #[.slice ac h.calls.length kc, .int .i64 h.now, .int .i64 h.born, .slice aD h.said.length kD, .int .i64 h.code] 29)).alloc (.cells #[.int .i64 k, .int .i64 x] 35)) (.slice none 0 0)).alloc (.cells #[.slice none 0 0, .int .i64 0, .int .i64 0, .slice none 0 0, .int .i64 0] 29)
  have rH := five_new ((((w.alloc (.cells #[.slice ap ms.length cp] 25)).alloc (.cells #[.slice ac h.calls.length kc, .int .i64 h.now, .int .i64 h.born, .slice aD h.said.length kD, .int .i64 h.code] 29)).alloc (.cells #[.int .i64 k, .int .i64 x] 35)).alloc (.cells #[.slice none 0 0] 25)) 29 (.slice none 0 0) (.int .i64 0) (.int .i64 0) (.slice none 0 0) (.int .i64 0)
  simp only [World.size_alloc] at rh ro rP rH
  go_enter Tryz.func6, Tryz.ntmps6
  go_upto_region 1 with fail
  generalize (((((w.alloc (.cells #[.slice ap ms.length cp] 25)).alloc (.cells #[.slice ac h.calls.length kc, .int .i64 h.now, .int .i64 h.born, .slice aD h.said.length kD, .int .i64 h.code] 29)).alloc (.cells #[.int .i64 k, .int .i64 x] 35)).alloc (.cells #[.slice none 0 0] 25)).alloc (.cells #[.slice none 0 0, .int .i64 0, .int .i64 0, .slice none 0 0, .int .i64 0] 29)) = W0 at *
  have zA := hA.size
  have HOK : Hid (∀ W, Below W0.heap.size W0 W → Calls Tryz.prog 9 #[.agg #[.slice ap ms.length cp], .agg #[.slice ac h.calls.length kc, .int .i64 h.now, .int .i64 h.born, .slice aD h.said.length kD, .int .i64 h.code]] W fun e w' => e = .returned (.bool (heapOk ms h)) ∧ Below W.heap.size W w') := fun W hW => specHeapOk_any _ _ _ ms h W ((hp.below hA).below hW) ((hh.below hA).below hW) (by omega)
  have v0 := rp.cell (i := 0) (by decide)
  obtain ⟨⟨x0, x1, x2, x3, x4⟩, _⟩ := five_cells rh
  have HP0 : Hid (MethsAt w (.slice ap ms.length cp) ms ∧ HeapAt w (.slice ac h.calls.length kc) (.slice aD h.said.length kD) h) := ⟨hp, hh⟩
  have HR0 : Hid (runsH ms h = false) := hr
  clear hpc hp hh hk hr
  have HS0 : Hid (∀ w', Below W0.heap.size W0 w' → (w'.cell? ⟨w.heap.size, 0, none⟩ = some (.slice ap ms.length cp) ∧ w'.cell? ⟨w.heap.size + 1, 0, none⟩ = some (.slice ac h.calls.length kc) ∧ w'.cell? ⟨w.heap.size + 1, 1, none⟩ = some (.int .i64 h.now) ∧ w'.cell? ⟨w.heap.size + 1, 2, none⟩ = some (.int .i64 h.born) ∧ w'.cell? ⟨w.heap.size + 1, 3, none⟩ = some (.slice aD h.said.length kD) ∧ w'.cell? ⟨w.heap.size + 1, 4, none⟩ = some (.int .i64 h.code))) := fun w' hB => ⟨cell_below hB v0, cell_below hB x0, cell_below hB x1, cell_below hB x2, cell_below hB x3, cell_below hB x4⟩
  by_cases hok : heapOk ms h = false
  · rw [hok] at HOK
    have HC := quiet_of_below HOK.out
    have L0 := Gr.cell v0
    have L1 := Gr.cell x0
    have L2 := Gr.cell x1
    have L3 := Gr.cell x2
    have L4 := Gr.cell x3
    have L5 := Gr.cell x4
    refine WQ.region (by kernel_rfl) (by kernel_rfl) ?_
    iterate 32 (refine WQ.step (fun K hK => ?_); go_simp; first
      | (with_reducible refine hK _ ?_; clear hK K)
      | (with_reducible refine quiet_eq ?_; refine hK _ ?_; clear hK K)
      | (simp (contextual := true) only [L0, L1, L2, L3, L4, L5, Result.andThen_ok, true_and]; with_reducible refine quiet_eq ?_; refine hK _ ?_; clear hK K)
      | (with_reducible refine quiet_call HC ?_; refine hK _ ?_; clear hK K))
    refine WQ.nil ?_
    intro w1 hb1'
    have hb1 := hb1'.to
    clear hb1' HC L0 L1 L2 L3 L4 L5
    have hB1 := hA.trans (hb1.mono zA)
    have z1 := hb1.size
    have rP1 := row_below hb1 rP
    have rH1 := row_below hb1 rH
    obtain ⟨u0, u1, u2, u3, u4, u5⟩ := (HS0.out _ hb1)
    obtain ⟨WF, hWF, f1, f2, f3, _, _⟩ := ret_boxes rP1 rH1 (by omega) hB1 (by omega) (by omega) (.slice ap ms.length cp) (.slice ac h.calls.length kc) (.slice aD h.said.length kD) h.now h.born h.code
    obtain ⟨⟨q0, q1, q2, q3, q4⟩, _⟩ := five_cells f2
    have p0 := rP1.cell (i := 0) (by decide)
    have pf := rP1.frozen 0
    obtain ⟨⟨t0, t1, t2, t3, t4⟩, j0, j1, j2, j3, j4⟩ := five_cells rH1
    go_wp2
    go_region
    rw [← hWF]
    go_wp2
    exact bodyPost_ret (v := .tuple #[.agg #[.slice ap ms.length cp], .agg #[.slice ac h.calls.length kc, .int .i64 h.now, .int .i64 h.born, .slice aD h.said.length kD, .int .i64 h.code], .bool false]) (by simp [results, Tryz.results6, go_sem, f1, q0, q1, q2, q3, q4]) rfl ⟨rfl, f3.drew⟩
  have hok : heapOk ms h = true := by simpa using hok
  rw [hok] at HOK
  by_cases hc : h.code = 0
  · have hg := good_iff.1 hok
    obtain ⟨j, m, q, hj, hm, e1, e2, e3, e4, e5, e6⟩ := runs_at hg hc
    have hr := HR0.out
    have hpq : ms[m].2.2.length ≤ q := by
      unfold runsH at hr
      rw [hok, beq_iff_eq.2 hc, e6, e2, e4] at hr
      simpa using hr
    obtain ⟨hp, hh⟩ := HP0.out
    obtain ⟨_, _, hv', _, hpc⟩ := id hp
    cases hv'
    obtain ⟨b, o, vt, vs', hac, hcl⟩ := hh.c.cl hj
    obtain ⟨b2, o2, vo, hap, d0, d1, d2, d3⟩ := hpc m hm
    obtain ⟨ao, co, hvo⟩ := d3.shape
    subst hac hap hvo
    have y0 := cell_below hA hcl.c0
    have y1 := cell_below hA hcl.c1
    have m2 := cell_below hA d2
    rw [e3] at y0
    rw [e4] at y1
    rw [e1] at x1
    rw [hc] at x4
    have hlz : (j : Int) < (h.calls.length : Int) := by omega
    have hmz : (m : Int) < (ms.length : Int) := by omega
    have hqz : (ms[m].2.2.length : Int) ≤ (q : Int) := by omega
    generalize ms[m].2.2.length = ln at *
    rw [e1, hc] at HOK
    have E1 : Hid (h.now = (j : Int) ∧ h.code = 0) := ⟨e1, hc⟩
    clear hg hcl d0 d1 d2 d3 hpc e1 e2 e3 e4 e5 e6 hc hpq hr hp hh
    have HC := quiet_of_below HOK.out
    have L0 := Gr.cell v0
    have L1 := Gr.cell x0
    have L2 := Gr.cell x1
    have L3 := Gr.cell x2
    have L4 := Gr.cell x3
    have L5 := Gr.cell x4
    have L6 := Gr.cell y0
    have L7 := Gr.cell y1
    have L8 := Gr.cell m2
    clear v0 x0 x1 x2 x3 x4 y0 y1 m2
    refine WQ.region (by kernel_rfl) (by kernel_rfl) ?_
    iterate 32 (refine WQ.step (fun K hK => ?_); go_simp; first
      | (with_reducible refine hK _ ?_; clear hK K)
      | (with_reducible refine quiet_eq ?_; refine hK _ ?_; clear hK K)
      | (simp (contextual := true) only [L0, L1, L2, L3, L4, L5, L6, L7, L8, Result.andThen_ok, true_and]; with_reducible refine quiet_eq ?_; refine hK _ ?_; clear hK K)
      | (with_reducible refine quiet_call HC ?_; refine hK _ ?_; clear hK K))
    refine WQ.nil ?_
    intro w1 hb1'
    have hb1 := hb1'.to
    clear hb1' HC L0 L1 L2 L3 L4 L5 L6 L7 L8
    have hB1 := hA.trans (hb1.mono zA)
    have z1 := hb1.size
    have rP1 := row_below hb1 rP
    have rH1 := row_below hb1 rH
    obtain ⟨u0, u1, u2, u3, u4, u5⟩ := (HS0.out _ hb1)
    obtain ⟨WF, hWF, f1, f2, f3, _, _⟩ := ret_boxes rP1 rH1 (by omega) hB1 (by omega) (by omega) (.slice (some ⟨b2, o2, none⟩) ms.length cp) (.slice (some ⟨b, o, none⟩) h.calls.length kc) (.slice aD h.said.length kD) (j : Int) h.born 0
    obtain ⟨⟨q0, q1, q2, q3, q4⟩, _⟩ := five_cells f2
    have p0 := rP1.cell (i := 0) (by decide)
    have pf := rP1.frozen 0
    obtain ⟨⟨t0, t1, t2, t3, t4⟩, j0, j1, j2, j3, j4⟩ := five_cells rH1
    rw [E1.out.1] at u2
    rw [E1.out.2] at u5
    go_wp2
    go_region
    rw [← hWF]
    go_wp2
    exact bodyPost_ret (v := .tuple #[.agg #[.slice (some ⟨b2, o2, none⟩) ms.length cp], .agg #[.slice (some ⟨b, o, none⟩) h.calls.length kc, .int .i64 (j : Int), .int .i64 h.born, .slice aD h.said.length kD, .int .i64 0], .bool false]) (by simp [results, Tryz.results6, go_sem, f1, q0, q1, q2, q3, q4]) rfl ⟨by rw [E1.out.1, E1.out.2], f3.drew⟩
  · have hc' : (h.code == 0) = false := beq_eq_false_iff_ne.2 hc
    have HC := quiet_of_below HOK.out
    have L0 := Gr.cell v0
    have L1 := Gr.cell x0
    have L2 := Gr.cell x1
    have L3 := Gr.cell x2
    have L4 := Gr.cell x3
    have L5 := Gr.cell x4
    refine WQ.region (by kernel_rfl) (by kernel_rfl) ?_
    iterate 32 (refine WQ.step (fun K hK => ?_); go_simp; first
      | (with_reducible refine hK _ ?_; clear hK K)
      | (with_reducible refine quiet_eq ?_; refine hK _ ?_; clear hK K)
      | (simp (contextual := true) only [L0, L1, L2, L3, L4, L5, Result.andThen_ok, true_and]; with_reducible refine quiet_eq ?_; refine hK _ ?_; clear hK K)
      | (with_reducible refine quiet_call HC ?_; refine hK _ ?_; clear hK K))
    refine WQ.nil ?_
    intro w1 hb1'
    have hb1 := hb1'.to
    clear hb1' HC L0 L1 L2 L3 L4 L5
    have hB1 := hA.trans (hb1.mono zA)
    have z1 := hb1.size
    have rP1 := row_below hb1 rP
    have rH1 := row_below hb1 rH
    obtain ⟨u0, u1, u2, u3, u4, u5⟩ := (HS0.out _ hb1)
    obtain ⟨WF, hWF, f1, f2, f3, _, _⟩ := ret_boxes rP1 rH1 (by omega) hB1 (by omega) (by omega) (.slice ap ms.length cp) (.slice ac h.calls.length kc) (.slice aD h.said.length kD) h.now h.born h.code
    obtain ⟨⟨q0, q1, q2, q3, q4⟩, _⟩ := five_cells f2
    have p0 := rP1.cell (i := 0) (by decide)
    have pf := rP1.frozen 0
    obtain ⟨⟨t0, t1, t2, t3, t4⟩, j0, j1, j2, j3, j4⟩ := five_cells rH1
    go_wp2
    go_region
    rw [← hWF]
    go_wp2
    exact bodyPost_ret (v := .tuple #[.agg #[.slice ap ms.length cp], .agg #[.slice ac h.calls.length kc, .int .i64 h.now, .int .i64 h.born, .slice aD h.said.length kD, .int .i64 h.code], .bool false]) (by simp [results, Tryz.results6, go_sem, f1, q0, q1, q2, q3, q4]) rfl ⟨rfl, f3.drew⟩
end Go.Proofs.YtlpbklgkafjfmaaGreatDoor
