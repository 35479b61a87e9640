/-
  The program's DeepAt, walked: its answer is the right table, or that there is none; it writes to nothing that was there.
-/
import Derived.Test.YtehffhhiikahbaaDoorDeepD
import Derived.Test.YtehffhhiikahbaaDoorDeepE
import Derived.Test.YtehffhhiikahbaaDoorImplOk3
import Derived.Deep.RegionHeld3
namespace Go.Proofs.YtehffhhiikahbaaDoor
open Go.RowKit

theorem todo_cons (ah q : List Int) (k : Int) : todo ah (k :: q) = todo ah q + 1 := by simp [todo]; omega

theorem todo_start (n : Nat) (h : 0 < n) : todo ((List.replicate n (-1 : Int)).set 0 0) [0] = n := by
  have := count_set (List.replicate n (-1 : Int)) 0 (by simpa using h) 0 (by simp) (by decide)
  rw [List.count_replicate_self] at this
  simp only [todo, List.length_singleton]
  omega

theorem come_first (n : Nat) (h : 0 < n) : comeP (List.replicate n (-1 : Int)) [] 0 0 = (true, (List.replicate n (-1 : Int)).set 0 0, [0]) := by
  have := come_new (ah := List.replicate n (-1 : Int)) (q := []) (n := 0) (v := 0) (by simpa using h) (by simp)
  simpa using this

theorem come_first_no : comeP [] [] 0 0 = (false, [], []) := by decide

/-- of the answer: the table is a row of its own -/
def DeepAns (ms : List (Int × Int × List (Int × Int))) (m : Int) (B : Nat) (w : World) (v : Value) (r : Bool) : Prop := ∃ f, DeepRes ms m r f ∧ IntRow B w v f

/-- how DeepAt ends -/
def DeepEnd (ms : List (Int × Int × List (Int × Int))) (m : Int) (B : Nat) (e : Ending) (w : World) : Prop := ∃ v r, e = .returned (.tuple #[v, .bool r]) ∧ DeepAns ms m B w v r

theorem deepEnd {ms : List (Int × Int × List (Int × Int))} {m : Int} {B : Nat} {w : World} {v : Value} {r : Bool} {f : List Int} (h : DeepRes ms m r f) (hr : IntRow B w v f) : DeepEnd ms m B (.returned (.tuple #[v, .bool r])) w := ⟨v, r, rfl, f, h, hr⟩

theorem go_ahlen (ms : List (Int × Int × List (Int × Int))) (op : Int × Int) (ah q : List Int) (pl : Nat) : (goP ms op ah q pl).2.1.length = ah.length := by
  unfold goP
  repeat' split
  all_goals simp [come_len]

theorem cell_b {B : Nat} {w w' : World} (hb : Below B w w') {p : Addr} {v : Value} (h : w.cell? p = some v) (hp : p.block < B) : w'.cell? p = some v := by
  rw [hb.cell hp]; exact h

/-- the queue is set -/
theorem Walk.setq {B bw : Nat} {w : World} {va vq vq' : Value} {ah q q' : List Int} (h : Walk B bw w va vq ah q) (hr : IntRow B w vq' q') (ho : vq'.ownBlock = vq.ownBlock) : Walk B bw (w.setCell ⟨bw, 1, none⟩ vq') va vq' ah q' :=
  ⟨by rw [World.cell?_setCell_other _ _ _ _ (fun e => by have := congrArg Addr.off e; simp at this)]; exact h.a, World.cell?_setCell_same _ _ _ h.c, by rw [World.frozen?_setCell]; exact h.f,
    h.ra.set_other _ h.na, hr.set_other _ (by rw [ho]; exact h.nq), fun g e => by rw [ho]; exact h.apart g e, h.na, by rw [ho]; exact h.nq, h.hB⟩

theorem IntRow.gone {B : Nat} {w : World} {g off n cap : Nat} {x : Int} {xs : List Int} (h : IntRow B w (.slice (some ⟨g, off, none⟩) n cap) (x :: xs)) : IntRow B w (.slice (some ⟨g, off, none⟩) 0 0) [] := by
  rcases h with ⟨h, _⟩ | ⟨g', off', cap', hv, hB, hg, _⟩
  · cases h
  · cases hv
    exact .inr ⟨g, off, 0, rfl, hB, hg, Nat.zero_le _, Nat.zero_le _, fun i hi => absurd hi (Nat.not_lt_zero _), fun i hi => absurd hi (Nat.not_lt_zero _)⟩

set_option maxRecDepth 100000 in
set_option maxHeartbeats 2000000 in
theorem implDeepAt_any (v : Value) (ms : List (Int × Int × List (Int × Int))) (m : Int) (w : World) (h : MethsAt w v ms) (ht : TabAt w) :
    Calls Tryd.prog 13 #[.agg #[v], .int .i64 m] w fun e w' => Below w.heap.size w w' ∧ DeepEnd ms m w.heap.size e w' := by
  obtain ⟨a, cap, rfl, hl, hc⟩ := id h
  have hA : Below w.heap.size w (w.alloc (.cells #[.slice a ms.length cap] 25)) := (Below.refl _ _).alloc (Nat.le_refl _) _
  have bp : (w.alloc (.cells #[.slice a ms.length cap] 25)).cell? ⟨w.heap.size, 0, none⟩ = some (.slice a ms.length cap) := by simp [go_sem]
  go_enter Tryd.func13, Tryd.ntmps13
  go_wp2_with fail
  generalize w.alloc (.cells #[.slice a ms.length cap] 25) = W0 at *
  refine (implProgOk_any _ ms _ (h.below hA)).mono ?_
  rintro e w1 ⟨rfl, hb1⟩
  have B1 : Below w.heap.size w w1 := hA.trans (hb1.mono hA.size)
  have bp1 := cell_below hb1 bp
  have z1 := B1.size
  clear hA bp hb1
  unfold maxLen at hl
  cases hp : progOk ms
  · go_wp2
    go_ret2
    exact ⟨B1, deepEnd (.inr ⟨rfl, rfl, fun g hg => by have := hg.1; rw [hp] at this; cases this⟩) (IntRow.nil _ _)⟩
  cases hr : inR m 0 ((ms.length : Int) - 1)
  · go_wp2_with (go_at_call 27; refine (isPlace_any _ _ _).mono ?_; rintro e w' ⟨rfl, hw⟩; obtain rfl := hw.symm)
    go_ret2
    exact ⟨B1, deepEnd (.inr ⟨rfl, rfl, fun g hg => by have := hg.2.1; rw [hr] at this; cases this⟩) (IntRow.nil _ _)⟩
  have hr' := inR_true.1 hr
  obtain ⟨mn, rfl⟩ := Int.eq_ofNat_of_zero_le hr'.1
  have hmn : mn < ms.length := by omega
  have hmz : (mn : Int) < (ms.length : Int) := by omega
  obtain ⟨b, o, vo, rfl, c0, c1, c2, c3⟩ := hc mn hmn
  obtain ⟨ao, co, rfl, hlo, hco⟩ := id c3
  have hl14 := len_ok hp hmn
  have d2 := cell_below B1 c2
  have O1 := c3.below B1
  have M1 := h.below B1
  have T1 := ht.below B1
  have hops := opsOf_nat (ms := ms) hmn
  have HY : ∀ ah, Hid (Inv ms ms[mn].2.2 (fun _ => False) ah [] → DeepRes ms mn true ah) := fun ah hI => DeepRes.yes hp hr (by rw [hops]; exact hI)
  have HN : Hid ((∀ g, ¬ Closed ms ms[mn].2.2 g) → DeepRes ms mn false []) := fun hI => DeepRes.no (by rw [hops]; exact hI)
  have HT : Hid (∀ k a, 0 ≤ (takesOf ms k a).1 ∧ (takesOf ms k a).1 ≤ 2) := takes_ok hp
  clear hc c0 c1 c2 c3 hco h ht hops
  generalize hopsE : ms[mn].2.2 = ops at *
  go_wp2_with (first | (go_at_call 27; refine (isPlace_any _ _ _).mono ?_; rintro e w' ⟨rfl, hw⟩; obtain rfl := hw.symm))
  have cR : (w1.alloc (.cells #[.int .i64 (-1)] 3)).cell? ⟨w1.heap.size, 0, none⟩ = some (.int .i64 (-1)) := by simp [go_sem]
  have hBR : Below w1.heap.size w1 (w1.alloc (.cells #[.int .i64 (-1)] 3)) := (Below.refl _ _).alloc (Nat.le_refl _) _
  refine (repeat_any _ w1.heap.size ops.length hl14 cR).mono ?_
  rintro e w2 ⟨hb2, vr, rfl, hrow2⟩
  have hrow2 := hrow2.mono hBR.size
  have B2 : Below w1.heap.size w1 w2 := hBR.trans (hb2.mono hBR.size)
  have z2 := B2.size
  clear cR hBR hb2
  obtain ⟨a2, cap2, rfl, _⟩ := hrow2.slice
  rw [List.length_replicate] at hrow2 ⊢
  go_wp2_with fail
  have W3 : Walk w1.heap.size w2.heap.size (w2.alloc (.cells #[.slice a2 ops.length cap2, .slice none 0 0] 59)) (.slice a2 ops.length cap2) (.slice none 0 0) (List.replicate ops.length (-1)) [] :=
    ⟨by simp [go_sem], by simp [go_sem], by simp [go_sem], hrow2.below ((Below.refl _ _).alloc (Nat.le_refl _) _), IntRow.nil _ _, fun g _ => by simp [Value.ownBlock], fun e => by have := hrow2.lt _ e; omega, by simp [Value.ownBlock], z2⟩
  have B3 := B2.alloc z2 (.cells #[.slice a2 ops.length cap2, .slice none 0 0] 59)
  generalize w2.alloc (.cells #[.slice a2 ops.length cap2, .slice none 0 0] 59) = w3 at *
  generalize w2.heap.size = bw at *
  have z3 := B3.size
  clear hrow2 B2
  refine (come_any _ bw _ _ _ _ 0 0 _ W3 (by simpa using hl14) (by simp)).mono ?_
  rintro e w4 ⟨rfl, hb4, vq4, W4⟩
  have B4 : Below w1.heap.size w1 w4 := B3.trans hb4
  clear B3 hb4 W3 z3
  by_cases hn0 : ops.length = 0
  · obtain rfl : ops = [] := List.eq_nil_of_length_eq_zero hn0
    rw [show List.replicate ([] : List (Int × Int)).length (-1 : Int) = [] from rfl, come_first_no]
    have HNN := HN.out (fun g hg => absurd hg.pos (by simp))
    clear W4
    go_wp2
    go_ret2
    exact ⟨B1.trans (B4.mono z1), deepEnd HNN (IntRow.nil _ _)⟩
  have hpos : 0 < ops.length := by omega
  rw [come_first _ hpos] at W4 ⊢
  have HI : Hid (Inv ms ops (fun _ => False) ((List.replicate ops.length (-1)).set 0 0) [0]) := Inv.start ms ops hpos
  have HM : Hid (todo ((List.replicate ops.length (-1 : Int)).set 0 0) [0] = ops.length) := todo_start _ hpos
  dsimp only at W4 ⊢
  generalize (List.replicate ops.length (-1 : Int)).set 0 0 = ah0 at *
  go_wp2
  go_loopg [] ops.length (fun g wr => ∃ ah q vq, Inv ms ops (fun _ => False) ah q ∧ Walk w1.heap.size bw wr (.slice a2 ops.length cap2) vq ah q ∧ g = todo ah q ∧ todo ah q ≤ 14 ∧ Below w1.heap.size w1 wr)
  case atStart => exact ⟨_, _, vq4, HI.out, W4, HM.out.symm, by rw [HM.out]; exact hl14, B4⟩
  case round =>
    clear HI HM W4 B4 vq4 ah0 w4
    obtain ⟨ah, q, vq, hI, hW, rfl, h14, hB⟩ := hrel
    have z1r := hB.size
    have ha := hW.a
    have hcq := hW.c
    have hfq := hW.f
    cases q with
    | nil =>
      obtain ⟨aq, cq, rfl, _⟩ := hW.rq.slice
      have HD := (HY ah).out hI
      go_wp2
      go_ret2
      exact ⟨B1.trans (hB.mono z1), deepEnd HD (hW.ra.mono z1)⟩
    | cons k q =>
      obtain ⟨pl, rfl, hpl, h0⟩ := hI.queue k (List.mem_cons_self ..)
      obtain ⟨gq, oq, cq, rfl, hgq, _⟩ := hW.rq.form (by simp)
      have hx : wr.cell? ⟨gq, oq, none⟩ = some (.int .i64 (pl : Int)) := (hW.rq.cell (i := 0) (by simp)).1
      rw [List.length_cons] at hcq
      have hql : q.length ≤ 14 := by have := h14; simp only [todo, List.length_cons] at this; omega
      have hplz : (pl : Int) < (ops.length : Int) := by omega
      obtain ⟨R, hR⟩ : ∃ R, goP ms (opAt ops pl) ah q pl = R := ⟨_, rfl⟩
      have hst := go_step hI
      rw [hR] at hst
      have HG : Hid ((R.1 = false → ∀ g, ¬ Closed ms ops g) ∧ (R.1 = true → Inv ms ops (fun _ => False) R.2.1 R.2.2 ∧ todo R.2.1 R.2.2 = todo ah q)) := hst
      have HR : Hid (goP ms (ops[pl].1, ops[pl].2) ah q pl = R) := by show _ = _; rw [← hR, opAt_nat ops pl hpl]
      have HL : Hid (ah.length ≤ 14 ∧ pl < ah.length ∧ -1 ≤ gt ah pl ∧ gt ah pl ≤ 6) := ⟨by rw [hI.len]; exact hl14, by rw [hI.len]; exact hpl, hI.bnd pl hpl⟩
      obtain ⟨_, _, _, _, hop⟩ := id O1
      obtain ⟨bo, oo, hao, p0, p1⟩ := hop pl hpl
      clear hop
      subst hao
      have hlw : w.heap.size < w1.heap.size := World.block_lt_of_cell? _ _ bp1
      have hbo : bo < w1.heap.size := World.block_lt_of_cell? _ _ p0
      clear hI hst hR
      by_cases hcap : cq = 1
      · subst hcap
        have hq0 : q = [] := by
          rcases hW.rq with ⟨e, _⟩ | ⟨_, _, _, e, _, _, hl, _⟩
          · cases e
          · cases e
            simp at hl
            exact hl
        subst hq0
        go_wp2_with fail
        have B5 : Below w1.heap.size w1 (wr.setCell ⟨bw, 1, none⟩ (.slice (some ⟨gq, oq, none⟩) 0 0)) := below_set hB bw 1 _ hW.hB
        have W5 : Walk w1.heap.size bw (wr.setCell ⟨bw, 1, none⟩ (.slice (some ⟨gq, oq, none⟩) 0 0)) (.slice a2 ops.length cap2) (.slice (some ⟨gq, oq, none⟩) 0 0) ah [] := hW.setq hW.rq.gone rfl
        generalize wr.setCell ⟨bw, 1, none⟩ (.slice (some ⟨gq, oq, none⟩) 0 0) = w5 at *
        clear hW hB ha hcq hfq hx z1r
        have q0 := cell_below B5 p0
        have q1 := cell_below B5 p1
        have bp5 := cell_below B5 bp1
        have z5 : w1.heap.size ≤ w5.drew.heap.size := B5.size
        have M5 : MethsAt w5.drew _ ms := (M1.below B5).below (Below.refl _ _).drew
        have T5 : TabAt w5.drew := (T1.below B5).below (Below.refl _ _).drew
        have W5d := W5.below (Below.refl _ _).drew
        go_region_held3 (fun w' => w'.cell? ⟨w.heap.size, 0, none⟩ = some (.slice (some ⟨b, o, none⟩) ms.length cap) ∧ w'.cell? ⟨bo, oo + pl * 2, none⟩ = some (.int .i64 ops[pl].1) ∧ w'.cell? ⟨bo, oo + pl * 2 + 1, none⟩ = some (.int .i64 ops[pl].2))
          (first | go_keep | (refine ⟨cell_b hb6 ?_ hlw, cell_b hb6 ?_ hbo, cell_b hb6 ?_ hbo⟩ <;> assumption))
          ((go_at_call 34; refine (goOn_any _ bw _ _ _ ms ah [] _ _ pl _ W5d M5 T5 z5 HL.out.1 (by omega) HL.out.2.1 (HT.out _ _).1 (HT.out _ _).2 (leaves_nonneg _ _ _).1 (leaves_nonneg _ _ _).2 HL.out.2.2.1 HL.out.2.2.2 R HR).mono ?_; rintro e w6 ⟨rfl, hb6, vq6, W6⟩))
        have B6 : Below w1.heap.size w1 w6 := B5.drew.trans hb6
        clear hb6 W5 W5d M5 T5 B5 q0 q1 bp5 z5 HR HL
        obtain ⟨r, ah6, q6⟩ := R
        dsimp only at W6 HG ⊢
        cases r
        · have HNN := HN.out (HG.out.1 rfl)
          go_wp2
          go_ret2
          exact ⟨B1.trans (B6.mono z1), deepEnd HNN (IntRow.nil _ _)⟩
        · have HGi : Hid (Inv ms ops (fun _ => False) ah6 q6) := (HG.out.2 rfl).1
          have HGt : Hid (todo ah6 q6 + 1 = todo ah ((pl : Int) :: [])) := by show _ = _; rw [(HG.out.2 rfl).2, todo_cons]
          clear HG
          go_wp2
          go_roundg (todo ah6 q6)
          case measure => have := HGt.out; omega
          case rel => exact ⟨ah6, q6, vq6, HGi.out, W6, rfl, by have := HGt.out; omega, B6⟩
      · go_wp2_with fail
        have B5 : Below w1.heap.size w1 (wr.setCell ⟨bw, 1, none⟩ (.slice (some ⟨gq, oq + 1, none⟩) q.length (cq - 1))) := below_set hB bw 1 _ hW.hB
        have W5 : Walk w1.heap.size bw (wr.setCell ⟨bw, 1, none⟩ (.slice (some ⟨gq, oq + 1, none⟩) q.length (cq - 1))) (.slice a2 ops.length cap2) (.slice (some ⟨gq, oq + 1, none⟩) q.length (cq - 1)) ah q := hW.setq hW.rq.tail rfl
        generalize wr.setCell ⟨bw, 1, none⟩ (.slice (some ⟨gq, oq + 1, none⟩) q.length (cq - 1)) = w5 at *
        clear hW hB ha hcq hfq hx z1r
        have q0 := cell_below B5 p0
        have q1 := cell_below B5 p1
        have bp5 := cell_below B5 bp1
        have z5 : w1.heap.size ≤ w5.drew.heap.size := B5.size
        have M5 : MethsAt w5.drew _ ms := (M1.below B5).below (Below.refl _ _).drew
        have T5 : TabAt w5.drew := (T1.below B5).below (Below.refl _ _).drew
        have W5d := W5.below (Below.refl _ _).drew
        go_region_held3 (fun w' => w'.cell? ⟨w.heap.size, 0, none⟩ = some (.slice (some ⟨b, o, none⟩) ms.length cap) ∧ w'.cell? ⟨bo, oo + pl * 2, none⟩ = some (.int .i64 ops[pl].1) ∧ w'.cell? ⟨bo, oo + pl * 2 + 1, none⟩ = some (.int .i64 ops[pl].2))
          (first | go_keep | (refine ⟨cell_b hb6 ?_ hlw, cell_b hb6 ?_ hbo, cell_b hb6 ?_ hbo⟩ <;> assumption))
          ((go_at_call 34; refine (goOn_any _ bw _ _ _ ms ah q _ _ pl _ W5d M5 T5 z5 HL.out.1 (by omega) HL.out.2.1 (HT.out _ _).1 (HT.out _ _).2 (leaves_nonneg _ _ _).1 (leaves_nonneg _ _ _).2 HL.out.2.2.1 HL.out.2.2.2 R HR).mono ?_; rintro e w6 ⟨rfl, hb6, vq6, W6⟩))
        have B6 : Below w1.heap.size w1 w6 := B5.drew.trans hb6
        clear hb6 W5 W5d M5 T5 B5 q0 q1 bp5 z5 HR HL
        obtain ⟨r, ah6, q6⟩ := R
        dsimp only at W6 HG ⊢
        cases r
        · have HNN := HN.out (HG.out.1 rfl)
          go_wp2
          go_ret2
          exact ⟨B1.trans (B6.mono z1), deepEnd HNN (IntRow.nil _ _)⟩
        · have HGi : Hid (Inv ms ops (fun _ => False) ah6 q6) := (HG.out.2 rfl).1
          have HGt : Hid (todo ah6 q6 + 1 = todo ah ((pl : Int) :: q)) := by show _ = _; rw [(HG.out.2 rfl).2, todo_cons]
          clear HG
          go_wp2
          go_roundg (todo ah6 q6)
          case measure => have := HGt.out; omega
          case rel => exact ⟨ah6, q6, vq6, HGi.out, W6, rfl, by have := HGt.out; omega, B6⟩

end Go.Proofs.YtehffhhiikahbaaDoor
