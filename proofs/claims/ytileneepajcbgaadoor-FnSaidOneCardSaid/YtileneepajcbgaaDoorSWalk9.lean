/-
  The model's heap at work, walked: do, operation by operation.
-/
import Derived.Test.YtileneepajcbgaaDoorSWalk7
import Derived.Test.YtileneepajcbgaaDoorSWalk3

namespace Go.Proofs.YtileneepajcbgaaDoor
open Go.RowKit
set_option maxRecDepth 100000 in
set_option maxHeartbeats 8000000 in
theorem do_drop {A : Nat → Prop} {B : Nat} {w : World} {bo : Nat} {vp vs : Value} {g off cap : Nat} {ms : List (Int × Int × List (Int × Int))} {h : Hp} {V : Nat → Value × Value} (k : SM A B w bo vp (.slice (some ⟨g, off, none⟩) h.calls.length cap) vs ms h V) (hB : B ≤ w.heap.size) {j : Nat} (a : Int) (va : Value) (args : List (Int × Int)) (ha : OpsAt w va args) (d : Doing ms h j 4 a args) :
    Calls Tryd.prog 46 #[.pointer (some ⟨bo, 0, none⟩), .agg #[.int .i64 4, .int .i64 a], va] w fun e w' => e = .returned (.tuple #[]) ∧ (∃ vc' vs' V', SM A B w' bo vp vc' vs' ms (doH ms h 4 a args) V') ∧ Cm A B w w' := by
  have hn := d.now
  have hj := d.lt
  have hst := (d.g.cl j hj).s
  obtain ⟨aa, ca, hva⟩ := ha.shape
  subst hva
  have hA : Below w.heap.size w (w.alloc (.cells #[.int .i64 4, .int .i64 a] 85)) := (Below.refl _ _).alloc (Nat.le_refl _) _
  have rx := duo_new w 85 (.int .i64 4) (.int .i64 a)
  have k1 := k.made hA (by simp)
  have cm1 := k.cm hA hB
  have hM := fun W => l11Made_no 4 a (.slice aa args.length ca) W (by decide) (by decide) (by decide)
  go_enter Tryd.func46, Tryd.ntmps46
  go_upto_region 1 with fail
  generalize w.alloc (.cells #[.int .i64 4, .int .i64 a] 85) = W1 at *
  have z1 := hA.size
  obtain ⟨⟨t0, t1⟩, _⟩ := duo_cells rx
  go_upto_region 5 with (first
    | (go_at_call 43; refine (now_drew k1 hn hj).mono ?_; rintro e w' ⟨rfl, hw⟩; obtain rfl := hw)
    | (go_at_call 52; refine (hM _).mono ?_; rintro e w3 ⟨rfl, hb3⟩))
  have N4 := (Below.refl w3.heap.size w3).alloc (Nat.le_refl _) (.cells #[.int .i64 0, .int .i64 0] 42)
  have b14 : Below W1.heap.size W1 (w3.alloc (.cells #[.int .i64 0, .int .i64 0] 42)) := ((Below.refl W1.heap.size W1).drew.trans hb3).trans (N4.mono hb3.size)
  have k4 := k1.below b14
  have r1 := row_below b14 rx
  have bw4 : Below w.heap.size w (w3.alloc (.cells #[.int .i64 0, .int .i64 0] 42)) := hA.trans (b14.mono z1)
  have ha4 := ha.below bw4
  have cmA : Cm A B w (w3.alloc (.cells #[.int .i64 0, .int .i64 0] 42)) := cm1.trans ((k1.cm b14 (by omega)).less (fun q hq => .inl hq))
  have hB4 : B ≤ (w3.alloc (.cells #[.int .i64 0, .int .i64 0] 42)).heap.size := by have := cmA.b.size; omega
  clear k1 k cm1 N4 b14 hb3 hM t0 t1 rx ha bw4
  generalize w3.alloc (.cells #[.int .i64 0, .int .i64 0] 42) = W4 at *
  generalize w3.heap.size = bv at *
  obtain ⟨⟨t0, t1⟩, _⟩ := duo_cells r1
  have hgl4 := (k4.own.c.lt (g := g) (.inl rfl)).2
  have hbo4 : bo < W4.heap.size := k4.box.lt
  have how4 : w.heap.size < W4.heap.size := r1.lt
  go_wp2
  refine bodyPost_end (results_none rfl _ _ _) rfl ⟨rfl, ⟨.slice (some ⟨g, off, none⟩) h.calls.length cap, vs, V, ?_⟩, cmA⟩
  exact k4.less (fun q hq => .inl hq)
set_option maxRecDepth 100000 in
set_option maxHeartbeats 8000000 in
theorem do_jump {A : Nat → Prop} {B : Nat} {w : World} {bo : Nat} {vp vs : Value} {g off cap : Nat} {ms : List (Int × Int × List (Int × Int))} {h : Hp} {V : Nat → Value × Value} (k : SM A B w bo vp (.slice (some ⟨g, off, none⟩) h.calls.length cap) vs ms h V) (hB : B ≤ w.heap.size) {j : Nat} (a : Int) (va : Value) (args : List (Int × Int)) (ha : OpsAt w va args) (d : Doing ms h j 7 a args) :
    Calls Tryd.prog 46 #[.pointer (some ⟨bo, 0, none⟩), .agg #[.int .i64 7, .int .i64 a], va] w fun e w' => e = .returned (.tuple #[]) ∧ (∃ vc' vs' V', SM A B w' bo vp vc' vs' ms (doH ms h 7 a args) V') ∧ Cm A B w w' := by
  have hn := d.now
  have hj := d.lt
  have hst := (d.g.cl j hj).s
  obtain ⟨aa, ca, hva⟩ := ha.shape
  subst hva
  have hA : Below w.heap.size w (w.alloc (.cells #[.int .i64 7, .int .i64 a] 85)) := (Below.refl _ _).alloc (Nat.le_refl _) _
  have rx := duo_new w 85 (.int .i64 7) (.int .i64 a)
  have k1 := k.made hA (by simp)
  have cm1 := k.cm hA hB
  have hM := fun W => l11Made_no 7 a (.slice aa args.length ca) W (by decide) (by decide) (by decide)
  go_enter Tryd.func46, Tryd.ntmps46
  go_upto_region 1 with fail
  generalize w.alloc (.cells #[.int .i64 7, .int .i64 a] 85) = W1 at *
  have z1 := hA.size
  obtain ⟨⟨t0, t1⟩, _⟩ := duo_cells rx
  go_upto_region 5 with (first
    | (go_at_call 43; refine (now_drew k1 hn hj).mono ?_; rintro e w' ⟨rfl, hw⟩; obtain rfl := hw)
    | (go_at_call 52; refine (hM _).mono ?_; rintro e w3 ⟨rfl, hb3⟩))
  have N4 := (Below.refl w3.heap.size w3).alloc (Nat.le_refl _) (.cells #[.int .i64 0, .int .i64 0] 42)
  have b14 : Below W1.heap.size W1 (w3.alloc (.cells #[.int .i64 0, .int .i64 0] 42)) := ((Below.refl W1.heap.size W1).drew.trans hb3).trans (N4.mono hb3.size)
  have k4 := k1.below b14
  have r1 := row_below b14 rx
  have bw4 : Below w.heap.size w (w3.alloc (.cells #[.int .i64 0, .int .i64 0] 42)) := hA.trans (b14.mono z1)
  have ha4 := ha.below bw4
  have cmA : Cm A B w (w3.alloc (.cells #[.int .i64 0, .int .i64 0] 42)) := cm1.trans ((k1.cm b14 (by omega)).less (fun q hq => .inl hq))
  have hB4 : B ≤ (w3.alloc (.cells #[.int .i64 0, .int .i64 0] 42)).heap.size := by have := cmA.b.size; omega
  clear k1 k cm1 N4 b14 hb3 hM t0 t1 rx ha bw4
  generalize w3.alloc (.cells #[.int .i64 0, .int .i64 0] 42) = W4 at *
  generalize w3.heap.size = bv at *
  obtain ⟨⟨t0, t1⟩, _⟩ := duo_cells r1
  have hgl4 := (k4.own.c.lt (g := g) (.inl rfl)).2
  have hbo4 : bo < W4.heap.size := k4.box.lt
  have how4 : w.heap.size < W4.heap.size := r1.lt
  have HR : Hid (doH ms h 7 a args = { h with calls := h.calls.set j { h.calls[j] with pc := a } }) := by
    show _ = _
    show setH h { curC h with pc := a } = _
    rw [setH_eq hn, cur_at hn hj]
  obtain ⟨⟨e0, e1, e2, e3, e4, e5⟩, fz⟩ := k4.own.c.cells hj
  have f1 := fz 1 (by decide)
  have hgB := (k4.own.c.lt (g := g) (.inl rfl)).1
  obtain ⟨k5, cm5⟩ := k4.put hj (put_cell k4.own.c hj 1 (.int .i64 a) { h.calls[j] with pc := a } (by decide) rfl rfl rfl rfl rfl rfl) ((Below.refl B W4).setCell (p := ⟨g, off + j * 6 + 1, none⟩) hgB _)
  clear fz
  go_wp2
  refine bodyPost_end (results_none rfl _ _ _) rfl ⟨rfl, ⟨.slice (some ⟨g, off, none⟩) h.calls.length cap, vs, putV V j ((V j).1, (V j).2), ?_⟩, cmA.trans (cm5.less (fun q hq => .inl hq))⟩
  rw [HR.out]
  exact k5.less (fun q hq => .inl hq)
set_option maxRecDepth 100000 in
set_option maxHeartbeats 8000000 in
theorem do_say {A : Nat → Prop} {B : Nat} {w : World} {bo : Nat} {vp vs : Value} {g off cap : Nat} {ms : List (Int × Int × List (Int × Int))} {h : Hp} {V : Nat → Value × Value} (k : SM A B w bo vp (.slice (some ⟨g, off, none⟩) h.calls.length cap) vs ms h V) (hB : B ≤ w.heap.size) {j : Nat} (a : Int) (va : Value) (args : List (Int × Int)) (ha : OpsAt w va args) (d : Doing ms h j 16 a args) (hsd : h.said.length ≤ 2900000) :
    Calls Tryd.prog 46 #[.pointer (some ⟨bo, 0, none⟩), .agg #[.int .i64 16, .int .i64 a], va] w fun e w' => e = .returned (.tuple #[]) ∧ (∃ vc' vs' V', SM A B w' bo vp vc' vs' ms (doH ms h 16 a args) V') ∧ Cm A B w w' := by
  have hn := d.now
  have hj := d.lt
  have hst := (d.g.cl j hj).s
  have hl0 : 1 ≤ args.length := by have := d.takes; rw [takes_num (by decide)] at this; simp [tk] at this; omega
  have hx := d.first 0
  rw [getD_at hl0] at hx
  obtain ⟨aa, ca, hva⟩ := ha.shape
  subst hva
  have hA : Below w.heap.size w (w.alloc (.cells #[.int .i64 16, .int .i64 a] 85)) := (Below.refl _ _).alloc (Nat.le_refl _) _
  have rx := duo_new w 85 (.int .i64 16) (.int .i64 a)
  have k1 := k.made hA (by simp)
  have cm1 := k.cm hA hB
  have hM := fun W => l11Made_no 16 a (.slice aa args.length ca) W (by decide) (by decide) (by decide)
  go_enter Tryd.func46, Tryd.ntmps46
  go_upto_region 1 with fail
  generalize w.alloc (.cells #[.int .i64 16, .int .i64 a] 85) = W1 at *
  have z1 := hA.size
  obtain ⟨⟨t0, t1⟩, _⟩ := duo_cells rx
  go_upto_region 5 with (first
    | (go_at_call 43; refine (now_drew k1 hn hj).mono ?_; rintro e w' ⟨rfl, hw⟩; obtain rfl := hw)
    | (go_at_call 52; refine (hM _).mono ?_; rintro e w3 ⟨rfl, hb3⟩))
  have N4 := (Below.refl w3.heap.size w3).alloc (Nat.le_refl _) (.cells #[.int .i64 0, .int .i64 0] 42)
  have b14 : Below W1.heap.size W1 (w3.alloc (.cells #[.int .i64 0, .int .i64 0] 42)) := ((Below.refl W1.heap.size W1).drew.trans hb3).trans (N4.mono hb3.size)
  have k4 := k1.below b14
  have r1 := row_below b14 rx
  have bw4 : Below w.heap.size w (w3.alloc (.cells #[.int .i64 0, .int .i64 0] 42)) := hA.trans (b14.mono z1)
  have ha4 := ha.below bw4
  have cmA : Cm A B w (w3.alloc (.cells #[.int .i64 0, .int .i64 0] 42)) := cm1.trans ((k1.cm b14 (by omega)).less (fun q hq => .inl hq))
  have hB4 : B ≤ (w3.alloc (.cells #[.int .i64 0, .int .i64 0] 42)).heap.size := by have := cmA.b.size; omega
  clear k1 k cm1 N4 b14 hb3 hM t0 t1 rx ha bw4
  generalize w3.alloc (.cells #[.int .i64 0, .int .i64 0] 42) = W4 at *
  generalize w3.heap.size = bv at *
  obtain ⟨⟨t0, t1⟩, _⟩ := duo_cells r1
  have hgl4 := (k4.own.c.lt (g := g) (.inl rfl)).2
  have hbo4 : bo < W4.heap.size := k4.box.lt
  have how4 : w.heap.size < W4.heap.size := r1.lt
  obtain ⟨_, _, hve, _, hc⟩ := ha4
  cases hve
  obtain ⟨b, o, hb, p0, p1⟩ := hc 0 hl0
  subst hb
  simp only [Nat.zero_mul, Nat.add_zero] at p0 p1
  have hz0 : (0 : Int) < (args.length : Int) := by omega
  clear hc
  have hS := say_any k4 hB4 args[0].1 args[0].2 (fun e => by rw [e] at hx; exact valOk_ref' hx) hsd
  have HR : Hid (doH ms h 16 a args = sayH h args[0]) := by
    show sayH h (args.getD 0 (0, 0)) = _
    rw [getD_at hl0]
  go_wp2_with (go_at_call 58; refine hS.mono ?_; rintro e w5 ⟨rfl, ⟨vs5, V5, k5⟩, cm5⟩)
  refine bodyPost_end (results_none rfl _ _ _) rfl ⟨rfl, ⟨.slice (some ⟨g, off, none⟩) h.calls.length cap, vs5, V5, ?_⟩, cmA.trans (cm5.less (fun q hq => .inl hq))⟩
  rw [HR.out]
  exact k5.less (fun q hq => .inl hq)
set_option maxRecDepth 100000 in
set_option maxHeartbeats 8000000 in
theorem do_ret {A : Nat → Prop} {B : Nat} {w : World} {bo : Nat} {vp vs : Value} {g off cap : Nat} {ms : List (Int × Int × List (Int × Int))} {h : Hp} {V : Nat → Value × Value} (k : SM A B w bo vp (.slice (some ⟨g, off, none⟩) h.calls.length cap) vs ms h V) (hB : B ≤ w.heap.size) {j : Nat} (a : Int) (va : Value) (args : List (Int × Int)) (ha : OpsAt w va args) (d : Doing ms h j 10 a args) (hsd : h.said.length ≤ 2900000) :
    Calls Tryd.prog 46 #[.pointer (some ⟨bo, 0, none⟩), .agg #[.int .i64 10, .int .i64 a], va] w fun e w' => e = .returned (.tuple #[]) ∧ (∃ vc' vs' V', SM A B w' bo vp vc' vs' ms (doH ms h 10 a args) V') ∧ Cm A B w w' := by
  have hn := d.now
  have hj := d.lt
  have hst := (d.g.cl j hj).s
  have hl0 : 1 ≤ args.length := by have := d.takes; rw [takes_num (by decide)] at this; simp [tk] at this; omega
  have hx := d.first 0
  rw [getD_at hl0] at hx
  obtain ⟨aa, ca, hva⟩ := ha.shape
  subst hva
  have hA : Below w.heap.size w (w.alloc (.cells #[.int .i64 10, .int .i64 a] 85)) := (Below.refl _ _).alloc (Nat.le_refl _) _
  have rx := duo_new w 85 (.int .i64 10) (.int .i64 a)
  have k1 := k.made hA (by simp)
  have cm1 := k.cm hA hB
  have hM := fun W => l11Made_no 10 a (.slice aa args.length ca) W (by decide) (by decide) (by decide)
  go_enter Tryd.func46, Tryd.ntmps46
  go_upto_region 1 with fail
  generalize w.alloc (.cells #[.int .i64 10, .int .i64 a] 85) = W1 at *
  have z1 := hA.size
  obtain ⟨⟨t0, t1⟩, _⟩ := duo_cells rx
  go_upto_region 5 with (first
    | (go_at_call 43; refine (now_drew k1 hn hj).mono ?_; rintro e w' ⟨rfl, hw⟩; obtain rfl := hw)
    | (go_at_call 52; refine (hM _).mono ?_; rintro e w3 ⟨rfl, hb3⟩))
  have N4 := (Below.refl w3.heap.size w3).alloc (Nat.le_refl _) (.cells #[.int .i64 0, .int .i64 0] 42)
  have b14 : Below W1.heap.size W1 (w3.alloc (.cells #[.int .i64 0, .int .i64 0] 42)) := ((Below.refl W1.heap.size W1).drew.trans hb3).trans (N4.mono hb3.size)
  have k4 := k1.below b14
  have r1 := row_below b14 rx
  have bw4 : Below w.heap.size w (w3.alloc (.cells #[.int .i64 0, .int .i64 0] 42)) := hA.trans (b14.mono z1)
  have ha4 := ha.below bw4
  have cmA : Cm A B w (w3.alloc (.cells #[.int .i64 0, .int .i64 0] 42)) := cm1.trans ((k1.cm b14 (by omega)).less (fun q hq => .inl hq))
  have hB4 : B ≤ (w3.alloc (.cells #[.int .i64 0, .int .i64 0] 42)).heap.size := by have := cmA.b.size; omega
  clear k1 k cm1 N4 b14 hb3 hM t0 t1 rx ha bw4
  generalize w3.alloc (.cells #[.int .i64 0, .int .i64 0] 42) = W4 at *
  generalize w3.heap.size = bv at *
  obtain ⟨⟨t0, t1⟩, _⟩ := duo_cells r1
  have hgl4 := (k4.own.c.lt (g := g) (.inl rfl)).2
  have hbo4 : bo < W4.heap.size := k4.box.lt
  have how4 : w.heap.size < W4.heap.size := r1.lt
  obtain ⟨_, _, hve, _, hc⟩ := ha4
  cases hve
  obtain ⟨b, o, hb, p0, p1⟩ := hc 0 hl0
  subst hb
  simp only [Nat.zero_mul, Nat.add_zero] at p0 p1
  have hz0 : (0 : Int) < (args.length : Int) := by omega
  clear hc
  have hS := ret_any k4 hB4 hn hj (d.g.cl j hj).sd args[0].1 args[0].2 (fun e => by rw [e] at hx; exact valOk_ref' hx) hsd (fun s _ hs => by have := (d.g.cl s hs).s; omega)
  have HR : Hid (doH ms h 10 a args = retH h args[0]) := by
    show retH h (args.getD 0 (0, 0)) = _
    rw [getD_at hl0]
  go_wp2_with (go_at_call 55; refine hS.mono ?_; rintro e w5 ⟨rfl, ⟨vc5, vs5, V5, k5⟩, cm5⟩)
  refine bodyPost_end (results_none rfl _ _ _) rfl ⟨rfl, ⟨vc5, vs5, V5, ?_⟩, cmA.trans (cm5.less (fun q hq => .inl hq))⟩
  rw [HR.out]
  exact k5.less (fun q hq => .inl hq)
set_option maxRecDepth 100000 in
set_option maxHeartbeats 8000000 in
theorem do_call {A : Nat → Prop} {B : Nat} {w : World} {bo : Nat} {vp vs : Value} {g off cap : Nat} {ms : List (Int × Int × List (Int × Int))} {h : Hp} {V : Nat → Value × Value} (k : SM A B w bo vp (.slice (some ⟨g, off, none⟩) h.calls.length cap) vs ms h V) (hB : B ≤ w.heap.size) {j : Nat} (a : Int) (va : Value) (args : List (Int × Int)) (ha : OpsAt w va args) (d : Doing ms h j 9 a args) :
    Calls Tryd.prog 46 #[.pointer (some ⟨bo, 0, none⟩), .agg #[.int .i64 9, .int .i64 a], va] w fun e w' => e = .returned (.tuple #[]) ∧ (∃ vc' vs' V', SM A B w' bo vp vc' vs' ms (doH ms h 9 a args) V') ∧ Cm A B w w' := by
  have hn := d.now
  have hj := d.lt
  have hst := (d.g.cl j hj).s
  obtain ⟨m0, hm0, _, hop⟩ := d.op
  unfold opOk at hop
  rw [if_neg (by decide), if_neg (by decide), if_neg (by decide), if_pos rfl, inR_true] at hop
  obtain ⟨m, rfl⟩ := Int.eq_ofNat_of_zero_le hop.1
  have hm : m < ms.length := by omega
  have hMP := prog_meth d.g.head.p hm
  have htk := d.takes
  rw [takesOf_call hm] at htk
  simp only [] at htk
  obtain ⟨T, hT⟩ : ∃ T : Nat, ms[m].2.1 = (T : Int) := ⟨ms[m].2.1.toNat, by have := hMP.args; have := hMP.temps; omega⟩
  have hT4 : T ≤ 1000 := by have := hMP.temps; omega
  have hat : args.length ≤ T := by have := hMP.temps; omega
  clear hop htk hMP
  obtain ⟨aa, ca, hva⟩ := ha.shape
  subst hva
  have hA : Below w.heap.size w (w.alloc (.cells #[.int .i64 9, .int .i64 (m : Int)] 85)) := (Below.refl _ _).alloc (Nat.le_refl _) _
  have rx := duo_new w 85 (.int .i64 9) (.int .i64 (m : Int))
  have k1 := k.made hA (by simp)
  have cm1 := k.cm hA hB
  have hM := fun W => l11Made_no 9 (m : Int) (.slice aa args.length ca) W (by decide) (by decide) (by decide)
  go_enter Tryd.func46, Tryd.ntmps46
  go_upto_region 1 with fail
  generalize w.alloc (.cells #[.int .i64 9, .int .i64 (m : Int)] 85) = W1 at *
  have z1 := hA.size
  obtain ⟨⟨t0, t1⟩, _⟩ := duo_cells rx
  go_upto_region 5 with (first
    | (go_at_call 43; refine (now_drew k1 hn hj).mono ?_; rintro e w' ⟨rfl, hw⟩; obtain rfl := hw)
    | (go_at_call 52; refine (hM _).mono ?_; rintro e w3 ⟨rfl, hb3⟩))
  have N4 := (Below.refl w3.heap.size w3).alloc (Nat.le_refl _) (.cells #[.int .i64 0, .int .i64 0] 42)
  have b14 : Below W1.heap.size W1 (w3.alloc (.cells #[.int .i64 0, .int .i64 0] 42)) := ((Below.refl W1.heap.size W1).drew.trans hb3).trans (N4.mono hb3.size)
  have k4 := k1.below b14
  have r1 := row_below b14 rx
  have bw4 : Below w.heap.size w (w3.alloc (.cells #[.int .i64 0, .int .i64 0] 42)) := hA.trans (b14.mono z1)
  have ha4 := ha.below bw4
  have cmA : Cm A B w (w3.alloc (.cells #[.int .i64 0, .int .i64 0] 42)) := cm1.trans ((k1.cm b14 (by omega)).less (fun q hq => .inl hq))
  have hB4 : B ≤ (w3.alloc (.cells #[.int .i64 0, .int .i64 0] 42)).heap.size := by have := cmA.b.size; omega
  clear k1 k cm1 N4 b14 hb3 hM t0 t1 rx ha bw4
  generalize w3.alloc (.cells #[.int .i64 0, .int .i64 0] 42) = W4 at *
  generalize w3.heap.size = bv at *
  obtain ⟨⟨t0, t1⟩, _⟩ := duo_cells r1
  have hgl4 := (k4.own.c.lt (g := g) (.inl rfl)).2
  have hbo4 : bo < W4.heap.size := k4.box.lt
  have how4 : w.heap.size < W4.heap.size := r1.lt
  have HR : Hid (doH ms h 9 ((m : Nat) : Int) args = callH ms h m args) := rfl
  have hC := call_any k4 hB4 m hm T hT hT4 (.slice aa args.length ca) args ha4 hat (by have := d.g.head.few; have := d.g.head.born; omega) (by have := d.g.head.born; omega)
  go_wp2_with (go_at_call 54; refine hC.mono ?_; rintro e w5 ⟨rfl, ⟨vc5, vs5, V5, k5⟩, cm5⟩)
  refine bodyPost_end (results_none rfl _ _ _) rfl ⟨rfl, ⟨vc5, vs5, V5, ?_⟩, cmA.trans (cm5.less (fun q hq => .inl hq))⟩
  rw [HR.out]
  exact k5.less (fun q hq => .inl hq)
set_option maxRecDepth 100000 in
set_option maxHeartbeats 8000000 in
theorem do_back {A : Nat → Prop} {B : Nat} {w : World} {bo : Nat} {vp vs : Value} {g off cap : Nat} {ms : List (Int × Int × List (Int × Int))} {h : Hp} {V : Nat → Value × Value} (k : SM A B w bo vp (.slice (some ⟨g, off, none⟩) h.calls.length cap) vs ms h V) (hB : B ≤ w.heap.size) {j : Nat} (a : Int) (va : Value) (args : List (Int × Int)) (ha : OpsAt w va args) (d : Doing ms h j 15 a args) :
    Calls Tryd.prog 46 #[.pointer (some ⟨bo, 0, none⟩), .agg #[.int .i64 15, .int .i64 a], va] w fun e w' => e = .returned (.tuple #[]) ∧ (∃ vc' vs' V', SM A B w' bo vp vc' vs' ms (doH ms h 15 a args) V') ∧ Cm A B w w' := by
  have hn := d.now
  have hj := d.lt
  have hst := (d.g.cl j hj).s
  have hl2 : 2 ≤ args.length := by have := d.takes; rw [takes_num (by decide)] at this; simp [tk] at this; omega
  have hl0 : 0 < args.length := by omega
  have hl1 : 1 < args.length := by omega
  obtain ⟨hr0, hr1, hr2⟩ := d.ref (by decide)
  rw [getD_at hl0] at hr0 hr1 hr2
  obtain ⟨i, hi⟩ := Int.eq_ofNat_of_zero_le hr1
  have hin : i < h.calls.length := by omega
  obtain ⟨aa, ca, hva⟩ := ha.shape
  subst hva
  have hA : Below w.heap.size w (w.alloc (.cells #[.int .i64 15, .int .i64 a] 85)) := (Below.refl _ _).alloc (Nat.le_refl _) _
  have rx := duo_new w 85 (.int .i64 15) (.int .i64 a)
  have k1 := k.made hA (by simp)
  have cm1 := k.cm hA hB
  have hM := fun W => l11Made_no 15 a (.slice aa args.length ca) W (by decide) (by decide) (by decide)
  go_enter Tryd.func46, Tryd.ntmps46
  go_upto_region 1 with fail
  generalize w.alloc (.cells #[.int .i64 15, .int .i64 a] 85) = W1 at *
  have z1 := hA.size
  obtain ⟨⟨t0, t1⟩, _⟩ := duo_cells rx
  go_upto_region 5 with (first
    | (go_at_call 43; refine (now_drew k1 hn hj).mono ?_; rintro e w' ⟨rfl, hw⟩; obtain rfl := hw)
    | (go_at_call 52; refine (hM _).mono ?_; rintro e w3 ⟨rfl, hb3⟩))
  have N4 := (Below.refl w3.heap.size w3).alloc (Nat.le_refl _) (.cells #[.int .i64 0, .int .i64 0] 42)
  have b14 : Below W1.heap.size W1 (w3.alloc (.cells #[.int .i64 0, .int .i64 0] 42)) := ((Below.refl W1.heap.size W1).drew.trans hb3).trans (N4.mono hb3.size)
  have k4 := k1.below b14
  have r1 := row_below b14 rx
  have bw4 : Below w.heap.size w (w3.alloc (.cells #[.int .i64 0, .int .i64 0] 42)) := hA.trans (b14.mono z1)
  have ha4 := ha.below bw4
  have cmA : Cm A B w (w3.alloc (.cells #[.int .i64 0, .int .i64 0] 42)) := cm1.trans ((k1.cm b14 (by omega)).less (fun q hq => .inl hq))
  have hB4 : B ≤ (w3.alloc (.cells #[.int .i64 0, .int .i64 0] 42)).heap.size := by have := cmA.b.size; omega
  clear k1 k cm1 N4 b14 hb3 hM t0 t1 rx ha bw4
  generalize w3.alloc (.cells #[.int .i64 0, .int .i64 0] 42) = W4 at *
  generalize w3.heap.size = bv at *
  obtain ⟨⟨t0, t1⟩, _⟩ := duo_cells r1
  have hgl4 := (k4.own.c.lt (g := g) (.inl rfl)).2
  have hbo4 : bo < W4.heap.size := k4.box.lt
  have how4 : w.heap.size < W4.heap.size := r1.lt
  obtain ⟨_, _, hve, _, hc⟩ := ha4
  cases hve
  obtain ⟨b, o, hb, p0, p1⟩ := hc 0 hl0
  subst hb
  obtain ⟨b', o', hb, q0, q1⟩ := hc 1 hl1
  obtain ⟨rfl, rfl⟩ : b = b' ∧ o = o' := by injection hb with e; injection e with e1 e2; exact ⟨e1, e2⟩
  simp only [Nat.zero_mul, Nat.add_zero, Nat.one_mul] at p0 p1 q0 q1
  rw [hi] at p1
  have hz0 : (0 : Int) < (args.length : Int) := by omega
  have hz1 : (1 : Int) < (args.length : Int) := by omega
  clear hc hb
  obtain ⟨l, hw⟩ := d.g.w
  have hS := fun (W : World) (hW : Below W4.heap.size W4 W) => back_any (k4.below hW) (by have := hW.size; omega) i hin args[1].1 args[1].2 l hw (fun s hs => by have := (d.g.cl s hs).s; omega)
  have HR : Hid (doH ms h 15 a args = backH h i args[1]) := by
    show backH h (args.getD 0 (0, 0)).2.toNat (args.getD 1 (0, 0)) = _
    rw [getD_at hl0, getD_at hl1, hi]
    rfl
  go_wp2_with fail
  go_region_with (go_at_call 57; refine (hS _ ((Below.refl _ _).drew)).mono ?_; rintro e w5 ⟨rfl, ⟨vc5, vs5, V5, k5⟩, cm5⟩)
  all_goals
    go_wp2
    refine bodyPost_end (results_none rfl _ _ _) rfl ⟨rfl, ⟨vc5, vs5, V5, ?_⟩, cmA.trans (((k4.cm (Below.refl _ _).drew hB4).trans cm5).less (fun q hq => .inl hq))⟩
    rw [HR.out]
    exact k5.less (fun q hq => .inl hq)
end Go.Proofs.YtileneepajcbgaaDoor
