/-
  The program's readLine answers the plain functions; it writes to nothing that was there.
-/
import Derived.Test.YtlbkgnmalhidmaaDoorReadImpl1
import Derived.Test.YtlbkgnmalhidmaaDoorInts
namespace Go.Proofs.YtlbkgnmalhidmaaDoor
open Go.RowKit

theorem results_tmp4 {fn : Func} {t u v x : Tmp} (h : fn.results = #[.tmp t, .tmp u, .tmp v, .tmp x]) (tmps : Array Value) (P : Program) (w : World) :
    (results fn tmps).run P w = .ok (.tuple #[tmps.getD t undef, tmps.getD u undef, tmps.getD v undef, tmps.getD x undef]) w := by
  simp [results, h]

theorem Tryd.infoInt : (Tryd.prog.info? 3).map (fun i => (i.zero, i.size, i.bytes)) = some (some (.int .i64 0), 1, 8) := by kernel_rfl

/-- what readLine tells -/
def LineSaid (w w' : World) (rs : List Int) (v : Value) (S : ByteArray) (vn vr : Value) (b : Bool) : Prop :=
  (b = true → ∃ nums l, lineNums (rs.length + 1) (rs.dropWhile letter) [] = some (nums, 10 :: l) ∧ S = runesBytes (rs.takeWhile letter) ∧ IntRow w.heap.size w' vn nums ∧ nums.length ≤ 700 ∧ (∀ w0, RunesAt w0 v rs → RunesAt w0 vr l) ∧ l.length < rs.length) ∧
  (b = false → ∀ nums l, lineNums (rs.length + 1) (rs.dropWhile letter) [] ≠ some (nums, 10 :: l))

theorem dropWhile_le (p : Int → Bool) : ∀ rs : List Int, (rs.dropWhile p).length ≤ rs.length
  | [] => by simp
  | r :: rs => by
    have := dropWhile_le p rs
    unfold List.dropWhile
    split <;> simp <;> omega

set_option maxRecDepth 100000 in
set_option maxHeartbeats 2000000 in
theorem readLine_any (v : Value) (rs : List Int) (w : World) (h : RunesAt w v rs) :
    Calls Tryd.prog 33 #[v] w fun e w' => Below w.heap.size w w' ∧ ∃ S vn vr b, e = .returned (.tuple #[.string S, vn, vr, .bool b]) ∧ LineSaid w w' rs v S vn vr b := by
  obtain ⟨i0, hi, hz0, hz1, hz2⟩ := info_parts Tryd.infoInt
  have HO : Hid (RunesAt w v rs) := h
  have hlen : rs.length ≤ 700 := by obtain ⟨_, _, _, _, h, _⟩ := h; exact h
  clear h
  go_enter Tryd.func33, Tryd.ntmps33
  go_wp2_with fail
  refine (readWord_any v rs w HO.out).mono ?_
  rintro e w1 ⟨u, rfl, hu, n1, rfl⟩
  have HU : Hid (∀ w0, RunesAt w0 v rs → RunesAt w0 u (rs.dropWhile letter)) := hu
  have hdl := dropWhile_le letter rs
  clear hu
  generalize hSS : runesBytes (rs.takeWhile letter) = S
  have HSS : Hid (S = runesBytes (rs.takeWhile letter)) := hSS.symm
  clear hSS
  go_wp2
  go_loopg [7, 8] (rs.dropWhile letter).length (fun g d7 d8 wr => ∃ (rest nums : List Int) (f : Nat) (vr vn : Value), d7 = vr ∧ d8 = vn ∧ g = rest.length ∧ rest.length < f ∧ lineNums (rs.length + 1) (rs.dropWhile letter) [] = lineNums f rest nums ∧ (∀ w0, RunesAt w0 v rs → RunesAt w0 vr rest) ∧ IntRow w.heap.size wr vn nums ∧ nums.length + rest.length ≤ rs.length ∧ Below w.heap.size w wr)
  case atStart => exact ⟨rs.dropWhile letter, [], rs.length + 1, _, _, rfl, rfl, rfl, by omega, rfl, HU.out, IntRow.nil _ _, by simp; omega, rd_drewN (Below.refl _ _) _⟩
  case round =>
    obtain ⟨rest, nums, f, vr, vn, hd7, hd8, rfl, hf, hnum, hru, hrow, hsum, hb⟩ := hrel
    obtain rfl := hd7.symm
    obtain rfl := hd8.symm
    clear hd7 hd8
    have HNum : Hid (lineNums (rs.length + 1) (rs.dropWhile letter) [] = lineNums f rest nums) := hnum
    have HRu : Hid (∀ w0, RunesAt w0 v rs → RunesAt w0 vr rest) := hru
    have hsz := hb.size
    obtain ⟨f, rfl⟩ : ∃ f', f = f' + 1 := ⟨f - 1, by omega⟩
    clear hnum hru
    obtain ⟨a, cap, rfl, hcl, hcm, hc⟩ := HRu.out wr (HO.out.below hb)
    by_cases hz : rest.length = 0
    · have HE : Hid (lineNums (rs.length + 1) (rs.dropWhile letter) [] = some (nums, [])) := by
        show _ = _
        rw [HNum.out, List.length_eq_zero_iff.1 hz, lineNums_stop (fun r l h => by cases h)]
      have hzi : (rest.length : Int) = 0 := by omega
      clear hc
      go_wp2
      (try simp only [Exit.inBlock, Exit.then])
      refine bodyPost_ret (results_tmp4 rfl _ _ _) rfl ?_
      exact ⟨hb, _, _, _, _, rfl, (fun h => by cases h), fun _ nums' l h => by rw [HE.out] at h; simp at h⟩
    obtain ⟨b, o, rfl, c0⟩ := hc 0 (by omega)
    have c0 : wr.cell? ⟨b, o, none⟩ = some (.int .i32 rest[0]) := by simpa using c0
    have hpos : (0 : Int) < (rest.length : Int) := by omega
    have HR : Hid (rest = rest[0] :: rest.drop 1) := by
      show rest = _
      have := drop_at (l := rest) (k := 0) (by omega)
      simpa using this
    have h1 : ∀ w, (Instr.slice 50 (.slice (some ⟨b, o, none⟩) rest.length cap) (some (.int .i64 1)) none none).run Tryd.prog w = .ok (sliced (some ⟨b, o, none⟩) 1 rest.length cap 1) w := fun w => run_from w (some ⟨b, o, none⟩) rest.length cap 1 (by omega)
    have hcut : ∀ w0, RunesAt w0 (.slice (some ⟨b, o, none⟩) rest.length cap) rest → RunesAt w0 (sliced (some ⟨b, o, none⟩) 1 rest.length cap 1) (rest.drop 1) := fun w0 h => h.cut (by omega)
    have HC : Hid (∀ w0, RunesAt w0 v rs → RunesAt w0 (sliced (some ⟨b, o, none⟩) 1 rest.length cap 1) (rest.drop 1)) := fun w0 h => hcut w0 (HRu.out w0 h)
    generalize sliced (some ⟨b, o, none⟩) 1 rest.length cap 1 = V1 at *
    have hdl1 : (rest.drop 1).length = rest.length - 1 := by simp
    clear hc hcut
    by_cases h32 : rest[0] = 32
    · have HN : Hid (lineNums (rs.length + 1) (rs.dropWhile letter) [] = lineNums (f + 1) (32 :: rest.drop 1) nums) := by
        show _ = _
        rw [HNum.out, ← h32, ← HR.out]
      generalize rest[0] = r0 at *
      subst h32
      clear HNum HR
      have HRD : Hid (RunesAt wr V1 (rest.drop 1)) := HC.out wr (HO.out.below hb)
      generalize rest.drop 1 = rd at *
      go_wp2_with fail
      refine (readNumber_any V1 rd wr HRD.out).mono ?_
      rintro e w2 ⟨⟨n2, rfl⟩, n, u2, bb, l, rfl, hyes, hno⟩
      cases bb
      · have HE : Hid (lineNums (rs.length + 1) (rs.dropWhile letter) [] = none) := by
          show _ = _
          rcases hno rfl with h | h
          · rw [HN.out, lineNums_none h]
          · rw [HN.out, lineNums_same h]
        clear hyes hno
        go_wp2
        (try simp only [Exit.inBlock, Exit.then])
        refine bodyPost_ret (results_tmp4 rfl _ _ _) rfl ?_
        exact ⟨rd_drewN hb _, _, _, _, _, rfl, (fun h => by cases h), fun _ nums' l h => by rw [HE.out] at h; cases h⟩
      · obtain ⟨e1, e2, e3, e4, e5⟩ := hyes rfl
        have HE : Hid (lineNums (rs.length + 1) (rs.dropWhile letter) [] = lineNums f l (nums ++ [n])) := by
          show _ = _
          rw [HN.out, lineNums_next e1 e2]
        have HL : Hid (∀ w0, RunesAt w0 v rs → RunesAt w0 u2 l) := fun w0 h => e5 w0 (HC.out w0 h)
        have hrow2 : IntRow w.heap.size (wr.drewN n2) vn nums := hrow.drewN n2
        have hb2 : Below w.heap.size w (wr.drewN n2) := rd_drewN hb n2
        have hsz2 := hb2.size
        clear hyes hno HN e1 e5 HRD HC h1 c0 hrow hb
        generalize wr.drewN n2 = w3 at *
        obtain ⟨av, cv, hv, _⟩ := hrow2.slice
        obtain rfl := hv
        go_wp2_with (at_builtin; refine append_int Tryd.underlying59 hi hz0 hz1 hz2 _ (by rfl) _ _ (by rfl) _ nums (by rfl) hrow2 n w3.heap.size _ rfl (by rfl) (by omega) (by omega) ?_; intro g off cp w4 h4 hg4 hat4 hlt4)
        have hb4 : Below w.heap.size w w4 := hb2.grown hg4 hsz2 (fun k e => (hrow2.lt k e).1)
        go_wp2
        go_roundg l.length
        case measure => omega
        case rel => exact ⟨l, nums ++ [n], f, _, _, rfl, rfl, rfl, by omega, HE.out, HL.out, h4, by simp; omega, hb4⟩
    · have HN : Hid (lineNums (rs.length + 1) (rs.dropWhile letter) [] = some (nums, rest[0] :: rest.drop 1)) := by
        show _ = _
        rw [HNum.out, lineNums_stop (fun r l h => ?_), ← HR.out]
        have e : rest[0] = r := by simp [h]
        rw [← e]; exact h32
      have hrl : (rest.drop 1).length < rs.length := by omega
      clear HNum HR
      generalize rest[0] = r0 at *
      generalize rest.drop 1 = rd at *
      have h32' : (r0 == 32) = false := beq_eq_false_iff_ne.2 h32
      have hnz : ((rest.length : Int) == 0) = false := beq_eq_false_iff_ne.2 (by omega)
      have hnl : nums.length ≤ 700 := by omega
      by_cases h10 : r0 = 10
      · subst h10
        have HS : Hid (S = runesBytes (rs.takeWhile letter)) := HSS
        go_wp2_with fail
        go_quiet (fail)
        go_wp2
        (try simp only [Exit.inBlock, Exit.then])
        refine bodyPost_ret (results_tmp4 rfl _ _ _) rfl ?_
        exact ⟨rd_drewN hb _, _, _, _, _, rfl, (fun _ => ⟨nums, rd, HN.out, HS.out, hrow.drewN _, hnl, HC.out, hrl⟩), fun h => by cases h⟩
      · have h10' : (r0 != 10) = true := bne_iff_ne.2 h10
        go_wp2
        (try simp only [Exit.inBlock, Exit.then])
        refine bodyPost_ret (results_tmp4 rfl _ _ _) rfl ?_
        exact ⟨hb, _, _, _, _, rfl, (fun h => by cases h), fun _ nums' l h => by rw [HN.out] at h; simp at h; exact h10 h.2.1⟩

end Go.Proofs.YtlbkgnmalhidmaaDoor
