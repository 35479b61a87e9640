/-
  The model's heap at work, walked: do, operation by operation.
-/
import Derived.Test.YtjbgpcileapogaaGreatSWalkL18
import Derived.Test.YtjbgpcileapogaaGreatPiece
import Derived.Test.YtjbgpcileapogaaGreatTakes2
namespace Go.Proofs.YtjbgpcileapogaaGreat
open Go.RowKit
set_option maxRecDepth 100000 in
set_option maxHeartbeats 8000000 in
theorem do_here {A:Nat→Prop} {B:Nat} {w:World} {bo:Nat} {vp vs:Value} {g off cap:Nat} {ms:List (Int × Int × List (Int × Int))} {h:Hp} {V:Nat→Value × Value} (k:SM A B w bo vp (.slice (some ⟨g,off,none⟩) h.calls.length cap) vs ms h V) (hB:B≤w.heap.size) {j:Nat} (a:Int) (va:Value) (args:List (Int × Int)) (ha:OpsAt w va args) (d:Doing ms h j 11 a args) :
    Calls Tryz.prog 180 #[.pointer (some ⟨bo,0,none⟩),.agg #[.int .i64 11,.int .i64 a],va] w fun e w'=>e=.returned (.tuple #[])∧(∃vc' vs' V',SM A B w' bo vp vc' vs' ms (doH ms h 11 a args) V')∧Cm A B w w':=by
  have hn:=d.now
  have hj:=d.lt
  have hst:=(d.g.cl j hj).s
  obtain⟨aa,ca,hva⟩:=ha.shape
  subst hva
  have hA:Below w.heap.size w (w.alloc (.cells #[.int .i64 11,.int .i64 a] 33)):=(Below.refl _ _).alloc (Nat.le_refl _) _
  have rx:=duo_new w 33 (.int .i64 11) (.int .i64 a)
  have k1:=k.made hA (by simp)
  have cm1:=k.cm hA hB
  have hM:=fun W=>l11Made_no 11 a (.slice aa args.length ca) W (by decide) (by decide) (by decide)
  go_enter Tryz.func180,Tryz.ntmps180
  go_upto_region 1 with fail
  generalize w.alloc (.cells #[.int .i64 11,.int .i64 a] 33)=W1 at *
  have z1:=hA.size
  obtain⟨⟨t0,t1⟩,_⟩:=duo_cells rx
  go_upto_region 5 with(first
    | (go_at_call 177;refine(now_drew k1 hn hj).mono ?_;rintro e w' ⟨rfl,hw⟩;obtain rfl:=hw)
    | (go_at_call 190;refine(hM _).mono ?_;rintro e w3 ⟨rfl,hb3⟩))
  have N4:=(Below.refl w3.heap.size w3).alloc (Nat.le_refl _) (.cells #[.int .i64 0,.int .i64 0] 98)
  have b14:Below W1.heap.size W1 (w3.alloc (.cells #[.int .i64 0,.int .i64 0] 98)):=((Below.refl W1.heap.size W1).drew.trans hb3).trans (N4.mono hb3.size)
  have k4:=k1.below b14
  have r1:=row_below b14 rx
  have bw4:Below w.heap.size w (w3.alloc (.cells #[.int .i64 0,.int .i64 0] 98)):=hA.trans (b14.mono z1)
  have ha4:=ha.below bw4
  have cmA:Cm A B w (w3.alloc (.cells #[.int .i64 0,.int .i64 0] 98)):=cm1.trans ((k1.cm b14 (by omega)).less (fun q hq=>.inl hq))
  have hB4:B≤(w3.alloc (.cells #[.int .i64 0,.int .i64 0] 98)).heap.size:=by have:=cmA.b.size;omega
  clear k1 k cm1 N4 b14 hb3 hM t0 t1 rx ha bw4
  generalize w3.alloc (.cells #[.int .i64 0,.int .i64 0] 98)=W4 at *
  generalize w3.heap.size=bv at *
  obtain⟨⟨t0,t1⟩,_⟩:=duo_cells r1
  have hgl4:=(k4.own.c.lt (g:=g) (.inl rfl)).2
  have hbo4:bo<W4.heap.size:=k4.box.lt
  have how4:w.heap.size<W4.heap.size:=r1.lt
  have HR:Hid (doH ms h 11 a args={h with calls:=h.calls.set j {h.calls[j] with stack:=h.calls[j].stack ++ [(2,(j:Int))]}}):=by
    show _=_
    show pushH h (2,h.now)=_
    rw[pushH_eq hn hj,hn]
  obtain⟨sa,sc,hVs,_⟩:=(k4.own.c.lists j hj).2.slice
  obtain⟨⟨e0,e1,e2,e3,e4,e5⟩,_⟩:=k4.own.c.cells hj
  rw[hVs] at e3
  have HPT:=push_tail k4 hB4 hj hVs
  obtain⟨⟨_,_,y2,_,_,_⟩,_⟩:=six_cells k4.box
  rw[hn] at y2
  obtain⟨hown,hend⟩:=HPT ((W4.alloc (.cells #[.int .i64 2,.int .i64 (j:Int)] 98)).drew) (((Below.refl _ _).alloc (Nat.le_refl _) _).drew) (2,(j:Int))
  have HE:Hid _:=hend
  clear hend HPT
  go_wp2_with fail
  go_region_law (refine step_vals _ (by rfl) _ _ (by rfl) B _ _ h.calls[j].stack [(2,(j:Int))] (by rfl) (by rfl) hown (one_at W4 2 (j:Int) _ _) (by simp;omega) (by simp;omega) ?_;intro v' w' hrow hg hbk;obtain⟨a',c',hv',_⟩:=hrow.slice;rw[List.length_append] at hv';subst hv';obtain⟨⟨z4,f4⟩,hSM⟩:=HE.out _ w' hrow hg hbk)
  all_goals
    obtain⟨⟨V5,kV⟩,cV⟩:=hSM
    go_wp2
    refine bodyPost_end (results_none rfl _ _ _) rfl ⟨rfl,⟨.slice (some ⟨g,off,none⟩) h.calls.length cap,vs,V5,?_⟩,cmA.trans (cV.less (fun q hq=>.inl hq))⟩
    rw[HR.out]
    exact kV.less (fun q hq=>.inl hq)
set_option maxRecDepth 100000 in
set_option maxHeartbeats 8000000 in
theorem do_temp {A:Nat→Prop} {B:Nat} {w:World} {bo:Nat} {vp vs:Value} {g off cap:Nat} {ms:List (Int × Int × List (Int × Int))} {h:Hp} {V:Nat→Value × Value} (k:SM A B w bo vp (.slice (some ⟨g,off,none⟩) h.calls.length cap) vs ms h V) (hB:B≤w.heap.size) {j:Nat} (a:Int) (va:Value) (args:List (Int × Int)) (ha:OpsAt w va args) (d:Doing ms h j 2 a args) :
    Calls Tryz.prog 180 #[.pointer (some ⟨bo,0,none⟩),.agg #[.int .i64 2,.int .i64 a],va] w fun e w'=>e=.returned (.tuple #[])∧(∃vc' vs' V',SM A B w' bo vp vc' vs' ms (doH ms h 2 a args) V')∧Cm A B w w':=by
  have hn:=d.now
  have hj:=d.lt
  have hst:=(d.g.cl j hj).s
  obtain⟨m0,hm0,hmc,hop⟩:=d.op
  unfold opOk at hop
  rw[if_neg (by decide),if_pos (by decide),inR_true] at hop
  obtain⟨i,rfl⟩:=Int.eq_ofNat_of_zero_le hop.1
  have hit:i<h.calls[j].temps.length:=by
    have:=(d.g.cl j hj).t
    rw[hmc,Int.toNat_natCast,getD_at hm0] at this
    omega
  clear hop hmc
  obtain⟨aa,ca,hva⟩:=ha.shape
  subst hva
  have hA:Below w.heap.size w (w.alloc (.cells #[.int .i64 2,.int .i64 (i:Int)] 33)):=(Below.refl _ _).alloc (Nat.le_refl _) _
  have rx:=duo_new w 33 (.int .i64 2) (.int .i64 (i:Int))
  have k1:=k.made hA (by simp)
  have cm1:=k.cm hA hB
  have hM:=fun W=>l11Made_no 2 (i:Int) (.slice aa args.length ca) W (by decide) (by decide) (by decide)
  go_enter Tryz.func180,Tryz.ntmps180
  go_upto_region 1 with fail
  generalize w.alloc (.cells #[.int .i64 2,.int .i64 (i:Int)] 33)=W1 at *
  have z1:=hA.size
  obtain⟨⟨t0,t1⟩,_⟩:=duo_cells rx
  go_upto_region 5 with(first
    | (go_at_call 177;refine(now_drew k1 hn hj).mono ?_;rintro e w' ⟨rfl,hw⟩;obtain rfl:=hw)
    | (go_at_call 190;refine(hM _).mono ?_;rintro e w3 ⟨rfl,hb3⟩))
  have N4:=(Below.refl w3.heap.size w3).alloc (Nat.le_refl _) (.cells #[.int .i64 0,.int .i64 0] 98)
  have b14:Below W1.heap.size W1 (w3.alloc (.cells #[.int .i64 0,.int .i64 0] 98)):=((Below.refl W1.heap.size W1).drew.trans hb3).trans (N4.mono hb3.size)
  have k4:=k1.below b14
  have r1:=row_below b14 rx
  have bw4:Below w.heap.size w (w3.alloc (.cells #[.int .i64 0,.int .i64 0] 98)):=hA.trans (b14.mono z1)
  have ha4:=ha.below bw4
  have cmA:Cm A B w (w3.alloc (.cells #[.int .i64 0,.int .i64 0] 98)):=cm1.trans ((k1.cm b14 (by omega)).less (fun q hq=>.inl hq))
  have hB4:B≤(w3.alloc (.cells #[.int .i64 0,.int .i64 0] 98)).heap.size:=by have:=cmA.b.size;omega
  clear k1 k cm1 N4 b14 hb3 hM t0 t1 rx ha bw4
  generalize w3.alloc (.cells #[.int .i64 0,.int .i64 0] 98)=W4 at *
  generalize w3.heap.size=bv at *
  obtain⟨⟨t0,t1⟩,_⟩:=duo_cells r1
  have hgl4:=(k4.own.c.lt (g:=g) (.inl rfl)).2
  have hbo4:bo<W4.heap.size:=k4.box.lt
  have how4:w.heap.size<W4.heap.size:=r1.lt
  have HR:Hid (doH ms h 2 ((i:Nat):Int) args={h with calls:=h.calls.set j {h.calls[j] with stack:=h.calls[j].stack ++ [(h.calls[j].temps[i].1,h.calls[j].temps[i].2)]}}):=by
    show _=_
    show pushH h ((curC h).temps.getD ((i:Nat):Int).toNat (0,0))=_
    rw[pushH_eq hn hj,cur_at hn hj,Int.toNat_natCast,getD_at hit]
  obtain⟨sa,sc,hVs,_⟩:=(k4.own.c.lists j hj).2.slice
  obtain⟨⟨e0,e1,e2,e3,e4,e5⟩,_⟩:=k4.own.c.cells hj
  rw[hVs] at e3
  have HPT:=push_tail k4 hB4 hj hVs
  have htp:=(k4.own.c.lists j hj).1
  obtain⟨gt,ot,ct,hVt,_,hgt⟩:=htp.form (by omega)
  rw[hVt] at htp e2
  obtain⟨⟨q0,q1⟩,_⟩:=htp.cell hit
  have hiz:(i:Int)<(h.calls[j].temps.length:Int):=by omega
  clear htp
  generalize h.calls[j].temps[i].1=X at *
  generalize h.calls[j].temps[i].2=Y at *
  obtain⟨hown,hend⟩:=HPT ((W4.alloc (.cells #[.int .i64 X,.int .i64 Y] 98)).drew) (((Below.refl _ _).alloc (Nat.le_refl _) _).drew) (X,Y)
  have HE:Hid _:=hend
  clear hend HPT
  go_wp2_with fail
  go_region_law (refine step_vals _ (by rfl) _ _ (by rfl) B _ _ h.calls[j].stack [(X,Y)] (by rfl) (by rfl) hown (one_at W4 X Y _ _) (by simp;omega) (by simp;omega) ?_;intro v' w' hrow hg hbk;obtain⟨a',c',hv',_⟩:=hrow.slice;rw[List.length_append] at hv';subst hv';obtain⟨⟨z4,f4⟩,hSM⟩:=HE.out _ w' hrow hg hbk)
  all_goals
    obtain⟨⟨V5,kV⟩,cV⟩:=hSM
    go_wp2
    refine bodyPost_end (results_none rfl _ _ _) rfl ⟨rfl,⟨.slice (some ⟨g,off,none⟩) h.calls.length cap,vs,V5,?_⟩,cmA.trans (cV.less (fun q hq=>.inl hq))⟩
    rw[HR.out]
    exact kV.less (fun q hq=>.inl hq)
set_option maxRecDepth 100000 in
set_option maxHeartbeats 8000000 in
theorem do_sender {A:Nat→Prop} {B:Nat} {w:World} {bo:Nat} {vp vs:Value} {g off cap:Nat} {ms:List (Int × Int × List (Int × Int))} {h:Hp} {V:Nat→Value × Value} (k:SM A B w bo vp (.slice (some ⟨g,off,none⟩) h.calls.length cap) vs ms h V) (hB:B≤w.heap.size) {j:Nat} (a:Int) (va:Value) (args:List (Int × Int)) (ha:OpsAt w va args) (d:Doing ms h j 12 a args) :
    Calls Tryz.prog 180 #[.pointer (some ⟨bo,0,none⟩),.agg #[.int .i64 12,.int .i64 a],va] w fun e w'=>e=.returned (.tuple #[])∧(∃vc' vs' V',SM A B w' bo vp vc' vs' ms (doH ms h 12 a args) V')∧Cm A B w w':=by
  have hn:=d.now
  have hj:=d.lt
  have hst:=(d.g.cl j hj).s
  have hl0:0<args.length:=by have:=d.takes;rw[takes_num (by decide)] at this;simp[tk] at this;omega
  obtain⟨hr0,hr1,hr2⟩:=d.ref (by decide)
  rw[getD_at hl0] at hr0 hr1 hr2
  obtain⟨i,hi⟩:=Int.eq_ofNat_of_zero_le hr1
  have hin:i<h.calls.length:=by omega
  have ha0:0≤a:=by
    obtain⟨m0,hm0,_,hop⟩:=d.op
    simp[opOk,inR] at hop
    omega
  obtain⟨aa,ca,hva⟩:=ha.shape
  subst hva
  have hA:Below w.heap.size w (w.alloc (.cells #[.int .i64 12,.int .i64 a] 33)):=(Below.refl _ _).alloc (Nat.le_refl _) _
  have rx:=duo_new w 33 (.int .i64 12) (.int .i64 a)
  have k1:=k.made hA (by simp)
  have cm1:=k.cm hA hB
  have hM:=fun W=>l11Made_no 12 a (.slice aa args.length ca) W (by decide) (by decide) (by decide)
  go_enter Tryz.func180,Tryz.ntmps180
  go_upto_region 1 with fail
  generalize w.alloc (.cells #[.int .i64 12,.int .i64 a] 33)=W1 at *
  have z1:=hA.size
  obtain⟨⟨t0,t1⟩,_⟩:=duo_cells rx
  go_upto_region 5 with(first
    | (go_at_call 177;refine(now_drew k1 hn hj).mono ?_;rintro e w' ⟨rfl,hw⟩;obtain rfl:=hw)
    | (go_at_call 190;refine(hM _).mono ?_;rintro e w3 ⟨rfl,hb3⟩))
  have N4:=(Below.refl w3.heap.size w3).alloc (Nat.le_refl _) (.cells #[.int .i64 0,.int .i64 0] 98)
  have b14:Below W1.heap.size W1 (w3.alloc (.cells #[.int .i64 0,.int .i64 0] 98)):=((Below.refl W1.heap.size W1).drew.trans hb3).trans (N4.mono hb3.size)
  have k4:=k1.below b14
  have r1:=row_below b14 rx
  have bw4:Below w.heap.size w (w3.alloc (.cells #[.int .i64 0,.int .i64 0] 98)):=hA.trans (b14.mono z1)
  have ha4:=ha.below bw4
  have cmA:Cm A B w (w3.alloc (.cells #[.int .i64 0,.int .i64 0] 98)):=cm1.trans ((k1.cm b14 (by omega)).less (fun q hq=>.inl hq))
  have hB4:B≤(w3.alloc (.cells #[.int .i64 0,.int .i64 0] 98)).heap.size:=by have:=cmA.b.size;omega
  clear k1 k cm1 N4 b14 hb3 hM t0 t1 rx ha bw4
  generalize w3.alloc (.cells #[.int .i64 0,.int .i64 0] 98)=W4 at *
  generalize w3.heap.size=bv at *
  obtain⟨⟨t0,t1⟩,_⟩:=duo_cells r1
  have hgl4:=(k4.own.c.lt (g:=g) (.inl rfl)).2
  have hbo4:bo<W4.heap.size:=k4.box.lt
  have how4:w.heap.size<W4.heap.size:=r1.lt
  obtain⟨_,_,hve,_,hc⟩:=ha4
  cases hve
  obtain⟨b,o,hb,p0,p1⟩:=hc 0 hl0
  subst hb
  simp only[Nat.zero_mul,Nat.add_zero] at p0 p1
  rw[hi] at p1
  have hz0:(0:Int)<(args.length:Int):=by omega
  clear hc
  have HR:Hid (doH ms h 12 a args={h with calls:=h.calls.set j {h.calls[j] with stack:=h.calls[j].stack ++ [((lookV h 12 a i).1,(lookV h 12 a i).2)]}}):=by
    show pushH h (lookV h 12 a (args.getD 0 (0,0)).2.toNat)=_
    rw[pushH_eq hn hj,getD_at hl0,hi]
    rfl
  obtain⟨sa,sc,hVs,_⟩:=(k4.own.c.lists j hj).2.slice
  obtain⟨⟨e0,e1,e2,e3,e4,e5⟩,_⟩:=k4.own.c.cells hj
  rw[hVs] at e3
  have HPT:=push_tail k4 hB4 hj hVs
  have hL:=look_any k4.drew 12 a i hin (by decide) ha0
  generalize (lookV h 12 a i).1=X at *
  generalize (lookV h 12 a i).2=Y at *
  have H5:Hid (∀w5:World,Below W4.drew.heap.size W4.drew w5→(w5.cell? ⟨g,off+j * 6+3,none⟩=some (.slice sa h.calls[j].stack.length sc)∧g<w5.heap.size∧B≤w5.heap.size)∧PairRow B (w5.alloc (.cells #[.int .i64 X,.int .i64 Y] 98)) (.slice sa h.calls[j].stack.length sc) h.calls[j].stack∧(∀v' w',PairRow B w' v' (h.calls[j].stack ++ [(X,Y)])→(w5.alloc (.cells #[.int .i64 X,.int .i64 Y] 98)).grownBy w' (Value.slice sa h.calls[j].stack.length sc).ownBlock→(v'.ownBlock=(Value.slice sa h.calls[j].stack.length sc).ownBlock∨v'.ownBlock=some (w5.alloc (.cells #[.int .i64 X,.int .i64 Y] 98)).heap.size) →
      (w'.cell? ⟨g,off+j * 6+3,none⟩=some (.slice sa h.calls[j].stack.length sc)∧w'.frozen? ⟨g,off+j * 6+3,none⟩=false) ∧
      (∃V',SM (fun q=>A q∨q=w.heap.size) B (w'.setCell ⟨g,off+j * 6+3,none⟩ v') bo vp (.slice (some ⟨g,off,none⟩) h.calls.length cap) vs ms {h with calls:=h.calls.set j {h.calls[j] with stack:=h.calls[j].stack ++ [(X,Y)]}} V')∧Cm (fun q=>A q∨q=w.heap.size) B W4 (w'.setCell ⟨g,off+j * 6+3,none⟩ v'))):=fun w5 hb5=>by
    have hb5':Below W4.heap.size W4 w5:=(Below.refl W4.heap.size W4).drew.trans hb5
    have hz5:=hb5'.size
    have hX:Below W4.heap.size W4 (w5.alloc (.cells #[.int .i64 X,.int .i64 Y] 98)):=hb5'.alloc hz5 _
    obtain⟨hown,hend⟩:=HPT _ hX (X,Y)
    exact⟨⟨cell_below hb5' e3,by omega,by omega⟩,hown,hend⟩
  clear HPT
  go_wp2_with fail
  go_region_law (first
    | (refine step_vals _ (by rfl) _ _ (by rfl) B _ _ h.calls[j].stack [(X,Y)] (by rfl) (by rfl) hown5 (one_at w5 X Y _ _) (by simp;omega) (by simp;omega) ?_;intro v' w' hrow hg hbk;obtain⟨a',c',hv',_⟩:=hrow.slice;rw[List.length_append] at hv';subst hv';obtain⟨⟨z4,f4⟩,hSM⟩:=HE.out _ w' hrow hg hbk)
    | (go_simp;go_at_call 194;refine hL.mono ?_;rintro e w5 ⟨rfl,hb5⟩;obtain⟨⟨w53,w5g,w5B⟩,hown5,hE5⟩:=H5.out w5 hb5;have HE:Hid _:=hE5;clear hE5 hb5))
  all_goals
    obtain⟨⟨V5,kV⟩,cV⟩:=hSM
    go_wp2
    refine bodyPost_end (results_none rfl _ _ _) rfl ⟨rfl,⟨.slice (some ⟨g,off,none⟩) h.calls.length cap,vs,V5,?_⟩,cmA.trans (cV.less (fun q hq=>.inl hq))⟩
    rw[HR.out]
    exact kV.less (fun q hq=>.inl hq)
set_option maxRecDepth 100000 in
set_option maxHeartbeats 8000000 in
theorem do_peek {A:Nat→Prop} {B:Nat} {w:World} {bo:Nat} {vp vs:Value} {g off cap:Nat} {ms:List (Int × Int × List (Int × Int))} {h:Hp} {V:Nat→Value × Value} (k:SM A B w bo vp (.slice (some ⟨g,off,none⟩) h.calls.length cap) vs ms h V) (hB:B≤w.heap.size) {j:Nat} (a:Int) (va:Value) (args:List (Int × Int)) (ha:OpsAt w va args) (d:Doing ms h j 13 a args) :
    Calls Tryz.prog 180 #[.pointer (some ⟨bo,0,none⟩),.agg #[.int .i64 13,.int .i64 a],va] w fun e w'=>e=.returned (.tuple #[])∧(∃vc' vs' V',SM A B w' bo vp vc' vs' ms (doH ms h 13 a args) V')∧Cm A B w w':=by
  have hn:=d.now
  have hj:=d.lt
  have hst:=(d.g.cl j hj).s
  have hl0:0<args.length:=by have:=d.takes;rw[takes_num (by decide)] at this;simp[tk] at this;omega
  obtain⟨hr0,hr1,hr2⟩:=d.ref (by decide)
  rw[getD_at hl0] at hr0 hr1 hr2
  obtain⟨i,hi⟩:=Int.eq_ofNat_of_zero_le hr1
  have hin:i<h.calls.length:=by omega
  have ha0:0≤a:=by
    obtain⟨m0,hm0,_,hop⟩:=d.op
    simp[opOk,inR] at hop
    omega
  obtain⟨aa,ca,hva⟩:=ha.shape
  subst hva
  have hA:Below w.heap.size w (w.alloc (.cells #[.int .i64 13,.int .i64 a] 33)):=(Below.refl _ _).alloc (Nat.le_refl _) _
  have rx:=duo_new w 33 (.int .i64 13) (.int .i64 a)
  have k1:=k.made hA (by simp)
  have cm1:=k.cm hA hB
  have hM:=fun W=>l11Made_no 13 a (.slice aa args.length ca) W (by decide) (by decide) (by decide)
  go_enter Tryz.func180,Tryz.ntmps180
  go_upto_region 1 with fail
  generalize w.alloc (.cells #[.int .i64 13,.int .i64 a] 33)=W1 at *
  have z1:=hA.size
  obtain⟨⟨t0,t1⟩,_⟩:=duo_cells rx
  go_upto_region 5 with(first
    | (go_at_call 177;refine(now_drew k1 hn hj).mono ?_;rintro e w' ⟨rfl,hw⟩;obtain rfl:=hw)
    | (go_at_call 190;refine(hM _).mono ?_;rintro e w3 ⟨rfl,hb3⟩))
  have N4:=(Below.refl w3.heap.size w3).alloc (Nat.le_refl _) (.cells #[.int .i64 0,.int .i64 0] 98)
  have b14:Below W1.heap.size W1 (w3.alloc (.cells #[.int .i64 0,.int .i64 0] 98)):=((Below.refl W1.heap.size W1).drew.trans hb3).trans (N4.mono hb3.size)
  have k4:=k1.below b14
  have r1:=row_below b14 rx
  have bw4:Below w.heap.size w (w3.alloc (.cells #[.int .i64 0,.int .i64 0] 98)):=hA.trans (b14.mono z1)
  have ha4:=ha.below bw4
  have cmA:Cm A B w (w3.alloc (.cells #[.int .i64 0,.int .i64 0] 98)):=cm1.trans ((k1.cm b14 (by omega)).less (fun q hq=>.inl hq))
  have hB4:B≤(w3.alloc (.cells #[.int .i64 0,.int .i64 0] 98)).heap.size:=by have:=cmA.b.size;omega
  clear k1 k cm1 N4 b14 hb3 hM t0 t1 rx ha bw4
  generalize w3.alloc (.cells #[.int .i64 0,.int .i64 0] 98)=W4 at *
  generalize w3.heap.size=bv at *
  obtain⟨⟨t0,t1⟩,_⟩:=duo_cells r1
  have hgl4:=(k4.own.c.lt (g:=g) (.inl rfl)).2
  have hbo4:bo<W4.heap.size:=k4.box.lt
  have how4:w.heap.size<W4.heap.size:=r1.lt
  obtain⟨_,_,hve,_,hc⟩:=ha4
  cases hve
  obtain⟨b,o,hb,p0,p1⟩:=hc 0 hl0
  subst hb
  simp only[Nat.zero_mul,Nat.add_zero] at p0 p1
  rw[hi] at p1
  have hz0:(0:Int)<(args.length:Int):=by omega
  clear hc
  have HR:Hid (doH ms h 13 a args={h with calls:=h.calls.set j {h.calls[j] with stack:=h.calls[j].stack ++ [((lookV h 13 a i).1,(lookV h 13 a i).2)]}}):=by
    show pushH h (lookV h 13 a (args.getD 0 (0,0)).2.toNat)=_
    rw[pushH_eq hn hj,getD_at hl0,hi]
    rfl
  obtain⟨sa,sc,hVs,_⟩:=(k4.own.c.lists j hj).2.slice
  obtain⟨⟨e0,e1,e2,e3,e4,e5⟩,_⟩:=k4.own.c.cells hj
  rw[hVs] at e3
  have HPT:=push_tail k4 hB4 hj hVs
  have hL:=look_any k4.drew 13 a i hin (by decide) ha0
  generalize (lookV h 13 a i).1=X at *
  generalize (lookV h 13 a i).2=Y at *
  have H5:Hid (∀w5:World,Below W4.drew.heap.size W4.drew w5→(w5.cell? ⟨g,off+j * 6+3,none⟩=some (.slice sa h.calls[j].stack.length sc)∧g<w5.heap.size∧B≤w5.heap.size)∧PairRow B (w5.alloc (.cells #[.int .i64 X,.int .i64 Y] 98)) (.slice sa h.calls[j].stack.length sc) h.calls[j].stack∧(∀v' w',PairRow B w' v' (h.calls[j].stack ++ [(X,Y)])→(w5.alloc (.cells #[.int .i64 X,.int .i64 Y] 98)).grownBy w' (Value.slice sa h.calls[j].stack.length sc).ownBlock→(v'.ownBlock=(Value.slice sa h.calls[j].stack.length sc).ownBlock∨v'.ownBlock=some (w5.alloc (.cells #[.int .i64 X,.int .i64 Y] 98)).heap.size) →
      (w'.cell? ⟨g,off+j * 6+3,none⟩=some (.slice sa h.calls[j].stack.length sc)∧w'.frozen? ⟨g,off+j * 6+3,none⟩=false) ∧
      (∃V',SM (fun q=>A q∨q=w.heap.size) B (w'.setCell ⟨g,off+j * 6+3,none⟩ v') bo vp (.slice (some ⟨g,off,none⟩) h.calls.length cap) vs ms {h with calls:=h.calls.set j {h.calls[j] with stack:=h.calls[j].stack ++ [(X,Y)]}} V')∧Cm (fun q=>A q∨q=w.heap.size) B W4 (w'.setCell ⟨g,off+j * 6+3,none⟩ v'))):=fun w5 hb5=>by
    have hb5':Below W4.heap.size W4 w5:=(Below.refl W4.heap.size W4).drew.trans hb5
    have hz5:=hb5'.size
    have hX:Below W4.heap.size W4 (w5.alloc (.cells #[.int .i64 X,.int .i64 Y] 98)):=hb5'.alloc hz5 _
    obtain⟨hown,hend⟩:=HPT _ hX (X,Y)
    exact⟨⟨cell_below hb5' e3,by omega,by omega⟩,hown,hend⟩
  clear HPT
  go_wp2_with fail
  go_region_law (first
    | (refine step_vals _ (by rfl) _ _ (by rfl) B _ _ h.calls[j].stack [(X,Y)] (by rfl) (by rfl) hown5 (one_at w5 X Y _ _) (by simp;omega) (by simp;omega) ?_;intro v' w' hrow hg hbk;obtain⟨a',c',hv',_⟩:=hrow.slice;rw[List.length_append] at hv';subst hv';obtain⟨⟨z4,f4⟩,hSM⟩:=HE.out _ w' hrow hg hbk)
    | (go_simp;go_at_call 194;refine hL.mono ?_;rintro e w5 ⟨rfl,hb5⟩;obtain⟨⟨w53,w5g,w5B⟩,hown5,hE5⟩:=H5.out w5 hb5;have HE:Hid _:=hE5;clear hE5 hb5))
  all_goals
    obtain⟨⟨V5,kV⟩,cV⟩:=hSM
    go_wp2
    refine bodyPost_end (results_none rfl _ _ _) rfl ⟨rfl,⟨.slice (some ⟨g,off,none⟩) h.calls.length cap,vs,V5,?_⟩,cmA.trans (cV.less (fun q hq=>.inl hq))⟩
    rw[HR.out]
    exact kV.less (fun q hq=>.inl hq)
set_option maxRecDepth 100000 in
set_option maxHeartbeats 8000000 in
theorem do_poke {A:Nat→Prop} {B:Nat} {w:World} {bo:Nat} {vp vs:Value} {g off cap:Nat} {ms:List (Int × Int × List (Int × Int))} {h:Hp} {V:Nat→Value × Value} (k:SM A B w bo vp (.slice (some ⟨g,off,none⟩) h.calls.length cap) vs ms h V) (hB:B≤w.heap.size) {j:Nat} (a:Int) (va:Value) (args:List (Int × Int)) (ha:OpsAt w va args) (d:Doing ms h j 14 a args) :
    Calls Tryz.prog 180 #[.pointer (some ⟨bo,0,none⟩),.agg #[.int .i64 14,.int .i64 a],va] w fun e w'=>e=.returned (.tuple #[])∧(∃vc' vs' V',SM A B w' bo vp vc' vs' ms (doH ms h 14 a args) V')∧Cm A B w w':=by
  have hn:=d.now
  have hj:=d.lt
  have hst:=(d.g.cl j hj).s
  have hl2:2≤args.length:=by have:=d.takes;rw[takes_num (by decide)] at this;simp[tk] at this;omega
  have hl0:0<args.length:=by omega
  have hl1:1<args.length:=by omega
  obtain⟨hr0,hr1,hr2⟩:=d.ref (by decide)
  rw[getD_at hl0] at hr0 hr1 hr2
  obtain⟨i,hi⟩:=Int.eq_ofNat_of_zero_le hr1
  have hin:i<h.calls.length:=by omega
  obtain⟨m0,hm0,_,hop⟩:=d.op
  have hop2:0≤a∧a≤3:=by
    simp[opOk,inR] at hop
    exact hop
  obtain⟨n,rfl⟩:=Int.eq_ofNat_of_zero_le hop2.1
  clear hop hop2
  obtain⟨aa,ca,hva⟩:=ha.shape
  subst hva
  have hA:Below w.heap.size w (w.alloc (.cells #[.int .i64 14,.int .i64 (n:Int)] 33)):=(Below.refl _ _).alloc (Nat.le_refl _) _
  have rx:=duo_new w 33 (.int .i64 14) (.int .i64 (n:Int))
  have k1:=k.made hA (by simp)
  have cm1:=k.cm hA hB
  have hM:=fun W=>l11Made_no 14 (n:Int) (.slice aa args.length ca) W (by decide) (by decide) (by decide)
  go_enter Tryz.func180,Tryz.ntmps180
  go_upto_region 1 with fail
  generalize w.alloc (.cells #[.int .i64 14,.int .i64 (n:Int)] 33)=W1 at *
  have z1:=hA.size
  obtain⟨⟨t0,t1⟩,_⟩:=duo_cells rx
  go_upto_region 5 with(first
    | (go_at_call 177;refine(now_drew k1 hn hj).mono ?_;rintro e w' ⟨rfl,hw⟩;obtain rfl:=hw)
    | (go_at_call 190;refine(hM _).mono ?_;rintro e w3 ⟨rfl,hb3⟩))
  have N4:=(Below.refl w3.heap.size w3).alloc (Nat.le_refl _) (.cells #[.int .i64 0,.int .i64 0] 98)
  have b14:Below W1.heap.size W1 (w3.alloc (.cells #[.int .i64 0,.int .i64 0] 98)):=((Below.refl W1.heap.size W1).drew.trans hb3).trans (N4.mono hb3.size)
  have k4:=k1.below b14
  have r1:=row_below b14 rx
  have bw4:Below w.heap.size w (w3.alloc (.cells #[.int .i64 0,.int .i64 0] 98)):=hA.trans (b14.mono z1)
  have ha4:=ha.below bw4
  have cmA:Cm A B w (w3.alloc (.cells #[.int .i64 0,.int .i64 0] 98)):=cm1.trans ((k1.cm b14 (by omega)).less (fun q hq=>.inl hq))
  have hB4:B≤(w3.alloc (.cells #[.int .i64 0,.int .i64 0] 98)).heap.size:=by have:=cmA.b.size;omega
  clear k1 k cm1 N4 b14 hb3 hM t0 t1 rx ha bw4
  generalize w3.alloc (.cells #[.int .i64 0,.int .i64 0] 98)=W4 at *
  generalize w3.heap.size=bv at *
  obtain⟨⟨t0,t1⟩,_⟩:=duo_cells r1
  have hgl4:=(k4.own.c.lt (g:=g) (.inl rfl)).2
  have hbo4:bo<W4.heap.size:=k4.box.lt
  have how4:w.heap.size<W4.heap.size:=r1.lt
  obtain⟨_,_,hve,_,hc⟩:=ha4
  cases hve
  obtain⟨b,o,hb,p0,p1⟩:=hc 0 hl0
  subst hb
  obtain⟨b',o',hb,q0,q1⟩:=hc 1 hl1
  obtain⟨rfl,rfl⟩:b=b'∧o=o':=by injection hb with e;injection e with e1 e2;exact⟨e1,e2⟩
  simp only[Nat.zero_mul,Nat.add_zero,Nat.one_mul] at p0 p1 q0 q1
  rw[hi] at p1
  have hz0:(0:Int)<(args.length:Int):=by omega
  have hz1:(1:Int)<(args.length:Int):=by omega
  clear hc hb
  have hpoke:doH ms h 14 ((n:Nat):Int) args=pokeH h i n (args[1].1,args[1].2):=by
    show pokeH h (args.getD 0 (0,0)).2.toNat ((n:Nat):Int) (args.getD 1 (0,0))=_
    rw[getD_at hl0,getD_at hl1,hi]
    rfl
  obtain⟨⟨e0,e1,e2,e3,e4,e5⟩,_⟩:=k4.own.c.cells hin
  obtain⟨⟨y0,y1,y2,y3,y4,y5⟩,_⟩:=six_cells k4.box
  have htp:=(k4.own.c.lists i hin).1
  obtain⟨ta,tc,hVt,_⟩:=htp.slice
  have hiz:(i:Int)<(h.calls.length:Int):=by omega
  by_cases hnt:n<h.calls[i].temps.length
  · have HR:Hid (doH ms h 14 ((n:Nat):Int) args={h with calls:=h.calls.set i {h.calls[i] with temps:=h.calls[i].temps.set n (args[1].1,args[1].2)}}):=by
      show _=_
      rw[hpoke]
      unfold pokeH
      rw[getD_at hin,Int.toNat_natCast]
    obtain⟨gt,ot,ct,hVt2,hgtB,hgt⟩:=htp.form (by omega)
    have hPut:=put_temp k4.own.c hin hVt2 n hnt args[1].1 args[1].2
    rw[hVt2] at htp e2
    obtain⟨⟨u0,u1⟩,g0,g1⟩:=htp.cell hnt
    have hnz:(n:Int)<(h.calls[i].temps.length:Int):=by omega
    obtain⟨k5,cm5⟩:=k4.put hin hPut (((Below.refl B W4).setCell (p:=⟨gt,ot+n * 2,none⟩) hgtB _).setCell (p:=⟨gt,ot+n * 2+1,none⟩) hgtB _)
    clear htp hPut hpoke hVt
    generalize args[1].1=X at *
    generalize args[1].2=Y at *
    go_wp2_with fail
    go_region
    all_goals
      go_wp2_with fail
      go_region
    all_goals
      go_wp2
      refine bodyPost_end (results_none rfl _ _ _) rfl ⟨rfl,⟨.slice (some ⟨g,off,none⟩) h.calls.length cap,vs,putV V i ((V i).1,(V i).2),?_⟩,cmA.trans ((cm5.trans (k5.cm (Below.refl _ _).drew.drew (by simp[World.setCell];exact hB4))).less (fun q hq=>.inl hq))⟩
      rw[HR.out]
      exact k5.drew.drew.less (fun q hq=>.inl hq)
  · have HR:Hid (doH ms h 14 ((n:Nat):Int) args=h):=by
      show _=_
      rw[hpoke]
      unfold pokeH
      have hset:h.calls[i].temps.set n (args[1].1,args[1].2)=h.calls[i].temps:=List.set_eq_of_length_le (by omega)
      rw[getD_at hin,Int.toNat_natCast,hset]
      have hsame:h.calls.set i {h.calls[i] with temps:=h.calls[i].temps}=h.calls:=List.set_getElem_self hin
      rw[hsame]
    rw[hVt] at e2
    have hnz:¬(n:Int)<(h.calls[i].temps.length:Int):=by omega
    clear htp hpoke
    go_wp2_with fail
    go_region
    all_goals
      go_wp2
      refine bodyPost_end (results_none rfl _ _ _) rfl ⟨rfl,⟨.slice (some ⟨g,off,none⟩) h.calls.length cap,vs,V,?_⟩,cmA.trans ((k4.cm (Below.refl _ _).drew hB4).less (fun q hq=>.inl hq))⟩
      rw[HR.out]
      exact k4.drew.less (fun q hq=>.inl hq)
theorem kinds18 {k:Int} (h:1≤k∧k≤18):k=1∨k=2∨k=3∨k=4∨k=5∨k=6∨k=7∨k=8∨k=9∨k=10∨k=11∨k=12∨k=13∨k=14∨k=15∨k=16∨k=17∨k=18:=by omega
theorem valOk_isnum {n a:Int} (h:valOk n 1 a=true):0≤a∧a≤999:=by
  unfold valOk at h
  rw[if_neg (by decide),if_pos rfl,inR_true] at h
  exact h
set_option maxHeartbeats 1000000 in
theorem do_any {A:Nat→Prop} {B:Nat} {w:World} {bo:Nat} {vp vs:Value} {g off cap:Nat} {ms:List (Int × Int × List (Int × Int))} {h:Hp} {V:Nat→Value × Value} (k:SM A B w bo vp (.slice (some ⟨g,off,none⟩) h.calls.length cap) vs ms h V) (hB:B≤w.heap.size) {j:Nat} (kk a:Int) (va:Value) (args:List (Int × Int)) (ha:OpsAt w va args) (d:Doing ms h j kk a args) (hsd:h.said.length≤2900000) :
    Calls Tryz.prog 180 #[.pointer (some ⟨bo,0,none⟩),.agg #[.int .i64 kk,.int .i64 a],va] w fun e w'=>e=.returned (.tuple #[])∧(∃vc' vs' V',SM A B w' bo vp vc' vs' ms (doH ms h kk a args) V')∧Cm A B w w':=by
  have hst:(h.calls[j]'d.lt).stack.length≤1000:=by have:=(d.g.cl j d.lt).s;omega
  rcases kinds18 d.kind with e | e | e | e | e | e | e | e | e | e | e | e | e | e | e | e | e | e
  · subst e
    exact do_made k hB d.now d.lt hst 1 a a va args ha (fun W _=>l11Made_num a va W)
  · subst e;exact do_temp k hB a va args ha d
  · subst e;exact do_set k hB a va args ha d
  · subst e;exact do_drop k hB a va args ha d
  · subst e
    have hl:args.length=2:=by have:=d.takes;rw[takes_num (by decide)] at this;simp[tk] at this;omega
    have h0:0<args.length:=by omega
    have h1:1<args.length:=by omega
    have hk:=d.kinds
    simp only[kindsOk,if_true,Bool.and_eq_true,beq_iff_eq] at hk
    rw[getD_at h0,getD_at h1] at hk
    have hx:=d.first 0
    have hy:=d.first 1
    rw[getD_at h0,hk.1] at hx
    rw[getD_at h1,hk.2] at hy
    have HR:doH ms h 5 a args=pushH h (1,(args[0].2+args[1].2) % 1000):=by
      show pushH h (1,((args.getD 0 (0,0)).2+(args.getD 1 (0,0)).2) % 1000)=_
      rw[getD_at h0,getD_at h1]
    rw[HR]
    exact do_made k hB d.now d.lt hst 5 a _ va args ha (fun W hW=>l11Made_add a va args W (ha.below hW) hl (valOk_isnum hx) (valOk_isnum hy))
  · subst e
    have hl:args.length=2:=by have:=d.takes;rw[takes_num (by decide)] at this;simp[tk] at this;omega
    have h0:0<args.length:=by omega
    have h1:1<args.length:=by omega
    have HR:doH ms h 6 a args=pushH h (1,(bitV (decide (args[0]=args[1]))).2):=by
      show pushH h (bitV (decide (args.getD 0 (0,0)=args.getD 1 (0,0))))=_
      rw[getD_at h0,getD_at h1]
      rfl
    rw[HR]
    exact do_made k hB d.now d.lt hst 6 a _ va args ha (fun W hW=>l11Made_same a va args W (ha.below hW) hl)
  · subst e;exact do_jump k hB a va args ha d
  · subst e;exact do_zero k hB a va args ha d
  · subst e;exact do_call k hB a va args ha d
  · subst e;exact do_ret k hB a va args ha d hsd
  · subst e;exact do_here k hB a va args ha d
  · subst e;exact do_sender k hB a va args ha d
  · subst e;exact do_peek k hB a va args ha d
  · subst e;exact do_poke k hB a va args ha d
  · subst e;exact do_back k hB a va args ha d
  · subst e;exact do_say k hB a va args ha d hsd
  · subst e;exact do_dead k hB a va args ha d
  · subst e;exact do_where k hB a va args ha d
theorem SM.stackNew {A:Nat→Prop} {B:Nat} {w w2:World} {bo:Nat} {vp vs:Value} {g off n cap:Nat} {ms:List (Int × Int × List (Int × Int))} {h:Hp} {V:Nat→Value × Value} (k:SM A B w bo vp (.slice (some ⟨g,off,none⟩) n cap) vs ms h V) {j:Nat} (hj:j<h.calls.length) {v':Value} {st:List (Int × Int)} (hB:B≤w.heap.size) (hW:Below w.heap.size w w2) (hr:PairRow w.heap.size w2 v' st) :
    (∃V',SM A B (w2.setCell ⟨g,off+j * 6+3,none⟩ v') bo vp (.slice (some ⟨g,off,none⟩) n cap) vs ms {h with calls:=h.calls.set j {h.calls[j] with stack:=st}} V')∧Cm A B w (w2.setCell ⟨g,off+j * 6+3,none⟩ v'):=by
  have hgB:=(k.own.c.lt (g:=g) (.inl rfl)).1
  have b3:=(hW.mono hB).setCell (p:=⟨g,off+j * 6+3,none⟩) hgB v'
  have r:=k.put hj (put_stack k.own.c hj v' st hW.size (fun q hq _=>hW.block q hq) (hr.mono hB) (fun q e=>.inr (hr.lt q e).1)) b3
  exact⟨⟨_,r.1⟩,r.2⟩
set_option maxRecDepth 100000 in
set_option maxHeartbeats 8000000 in
theorem step_any {A:Nat→Prop} {B:Nat} {w:World} {bo:Nat} {vp vc vs:Value} {ms:List (Int × Int × List (Int × Int))} {h:Hp} {V:Nat→Value × Value} (k:SM A B w bo vp vc vs ms h V) (hB:B≤w.heap.size) (hg:Good ms h) (hc:h.code=0) (hsd:h.said.length≤2900000) :
    Calls Tryz.prog 161 #[.pointer (some ⟨bo,0,none⟩)] w fun e w'=>e=.returned (.tuple #[])∧(∃vc' vs' V',SM A B w' bo vp vc' vs' ms (stepH ms h) V')∧Cm A B w w':=by
  have hn0:0≤h.now:=by
    by_cases q:h.now<0
    · have:=hg.head.fin.2 q;omega
    · omega
  obtain⟨j,hn⟩:∃j:Nat,h.now=j:=⟨h.now.toNat,by omega⟩
  have hj:j<h.calls.length:=by have:=hg.head.now;omega
  obtain⟨g,off,cap,hvc,_⟩:=k.own.c.form (by omega)
  subst hvc
  have c:=hg.cl j hj
  obtain⟨m,hm⟩:=Int.eq_ofNat_of_zero_le c.m.1
  obtain⟨pc,hpc⟩:=Int.eq_ofNat_of_zero_le c.pc.1
  have hml:m<ms.length:=by have:=c.m;omega
  obtain⟨ap,cp,hvp,hlp,hms⟩:=id k.prog
  obtain⟨pb,po,vo,hap,p0,p1,p2,p3⟩:=hms m hml
  obtain⟨oa,oc,hvo,hol,hops⟩:=id p3
  subst hvp hap hvo
  clear hms
  obtain⟨⟨x0,x1,x2,x3,x4,x5⟩,_,_,_,_,_,f5⟩:=six_cells k.box
  obtain⟨⟨c0,c1,c2,c3,c4,c5⟩,fz⟩:=k.own.c.cells hj
  rw[hm] at c0
  rw[hpc] at c1
  have hmz:(m:Int)<(ms.length:Int):=by omega
  have hgl:=(k.own.c.lt (g:=g) (.inl rfl)).2
  have hbo:bo<w.heap.size:=k.box.lt
  have hcur:=cur_at hn hj
  go_enter Tryz.func161,Tryz.ntmps161
  go_upto_region 1 with(go_at_call 177;refine(now_drew k hn hj).mono ?_;rintro e w' ⟨rfl,hw⟩;obtain rfl:=hw)
  go_region
  have hD2:Below w.heap.size w w.drew.drew:=(Below.refl _ _).drew.drew
  have k2:=k.below hD2
  have cm2:=k.cm hD2 hB
  have p0':=cell_below hD2 p0
  have p1':=cell_below hD2 p1
  have p2':=cell_below hD2 p2
  have p3':=p3.below hD2
  have hB2:B≤w.drew.drew.heap.size:=hB
  have hgl2:g<w.drew.drew.heap.size:=hgl
  have hbo2:bo<w.drew.drew.heap.size:=hbo
  clear x0 x1 x2 x3 x4 x5 f5 c0 c1 c2 c3 c4 c5 fz p0 p1 p2 p3 k hD2 hB hgl hbo hops
  generalize w.drew.drew=W2 at *
  obtain⟨⟨x0,x1,x2,x3,x4,x5⟩,_,_,_,_,_,f5⟩:=six_cells k2.box
  obtain⟨⟨c0,c1,c2,c3,c4,c5⟩,fz⟩:=k2.own.c.cells hj
  rw[hm] at c0
  rw[hpc] at c1
  by_cases hlp2:ms[m].2.2.length≤pc
  · have hlz:((ms[m].2.2.length:Nat):Int)≤(pc:Int):=by omega
    have HR:Hid (stepH ms h={h with code:=2}):=stepH_past hn hj hm hpc hml hlp2
    obtain⟨k3,cm3⟩:=k2.setCode 2
    go_wp2
    refine bodyPost_ret (results_none rfl _ _ _) rfl ⟨rfl,⟨.slice (some ⟨g,off,none⟩) h.calls.length cap,vs,V,?_⟩,cm2.trans cm3⟩
    rw[HR.out]
    exact k3
  have hlz:¬((ms[m].2.2.length:Nat):Int)≤(pc:Int):=by omega
  have hpl:pc<ms[m].2.2.length:=by omega
  obtain⟨_,_,hve,_,hops⟩:=id p3'
  cases hve
  obtain⟨ob,oo,hob,q0,q1⟩:=hops pc hpl
  subst hob
  have hpz:(pc:Int)<(ms[m].2.2.length:Int):=by omega
  have HT:=specTakes_any (.slice (some ⟨pb,po,none⟩) ms.length cp) ms ms[m].2.2[pc].1 ms[m].2.2[pc].2
  clear hops
  obtain⟨kk,a,ho⟩:∃kk a,ms[m].2.2[pc]=(kk,a):=⟨_,_,rfl⟩
  obtain⟨t,l,ht⟩:∃t l,takesOf ms kk a=(t,l):=⟨_,_,rfl⟩
  have HO:Hid (ms[m].2.2[pc]=(kk,a)∧takesOf ms kk a=(t,l)):=⟨ho,ht⟩
  rw[ho] at q0 q1 HT
  simp only[ht] at q0 q1 HT
  have HTB:=takes_bound hg.head.p kk a
  rw[ht] at HTB
  simp only[] at HTB
  clear ho ht
  go_upto_region 5 with fail
  have hA3:Below W2.heap.size W2 (W2.alloc (.cells #[.int .i64 kk,.int .i64 a] 33)):=(Below.refl _ _).alloc (Nat.le_refl _) _
  have ro:=duo_new W2 33 (.int .i64 kk) (.int .i64 a)
  have k3:=k2.below hA3
  obtain⟨⟨y0,y1,y2,y3,y4,y5⟩,_,_,_,_,_,g5⟩:=six_cells k3.box
  obtain⟨⟨u0,u1⟩,_⟩:=duo_cells ro
  generalize W2.alloc (.cells #[.int .i64 kk,.int .i64 a] 33)=W3 at *
  go_region_with (go_at_call 178;refine(HT _ (k3.drew.prog)).mono ?_;rintro e w5 ⟨rfl,hb5⟩)
  all_goals
    have hW5:Below W2.heap.size W2 w5:=hA3.drew.trans (hb5.mono hA3.size)
    have k5:=k2.below hW5
    have cm5:Cm A B w w5:=cm2.trans (k2.cm hW5 hB2)
    have ro5:=row_below hb5 (show W3.drew.rowIs W2.heap.size 33 2 _ from ro)
    have hB5:B≤w5.heap.size:=by have:=hW5.size;omega
    clear x0 x1 x2 x3 x4 x5 f5 c0 c1 c2 c3 c4 c5 fz y0 y1 y2 y3 y4 y5 g5 u0 u1 q0 q1 p0' p1' p2' p3' k3 hA3 HT
    obtain⟨⟨x0,x1,x2,x3,x4,x5⟩,_,_,_,_,_,f5⟩:=six_cells k5.box
    obtain⟨⟨c0,c1,c2,c3,c4,c5⟩,fz⟩:=k5.own.c.cells hj
    rw[hpc] at c1
    obtain⟨⟨u0,u1⟩,_⟩:=duo_cells ro5
    obtain⟨sa,sc,hVs,_⟩:=(k5.own.c.lists j hj).2.slice
    rw[hVs] at c3
    have hs6:=c.s
    have hwl:IntKind.i64.wrap ((h.calls[j].stack.length:Int) - t)=(h.calls[j].stack.length:Int) - t:=by rw[IntKind.wrap_i64];omega
    have hwl2:IntKind.i64.wrap ((h.calls[j].stack.length:Int) - t+l)=(h.calls[j].stack.length:Int) - t+l:=by rw[IntKind.wrap_i64];omega
    by_cases hbad:(h.calls[j].stack.length:Int) - t<0∨6<(h.calls[j].stack.length:Int) - t+l
    · have HR:Hid (stepH ms h={h with code:=2}):=by show _=_;rw[stepH_at hn hj hm hpc hml hpl HO.out.1 HO.out.2,if_pos hbad]
      obtain⟨k6,cm6⟩:=k5.setCode 2
      have fin:(∃vc' vs' V',SM A B (w5.setCell ⟨bo,5,none⟩ (.int .i64 2)) bo (.slice (some ⟨pb,po,none⟩) ms.length cp) vc' vs' ms (stepH ms h) V')∧Cm A B w (w5.setCell ⟨bo,5,none⟩ (.int .i64 2)):=by
        refine⟨⟨.slice (some ⟨g,off,none⟩) h.calls.length cap,vs,V,?_⟩,cm5.trans cm6⟩
        rw[HR.out]
        exact k6
      by_cases hneg:(h.calls[j].stack.length:Int) - t<0
      · go_wp2
        exact bodyPost_ret (results_none rfl _ _ _) rfl ⟨rfl,fin⟩
      · have hbig:6<(h.calls[j].stack.length:Int) - t+l:=by omega
        go_wp2
        exact bodyPost_ret (results_none rfl _ _ _) rfl ⟨rfl,fin⟩
    · obtain⟨L,hL⟩:∃L:Nat,(h.calls[j].stack.length:Int) - t=(L:Int):=⟨((h.calls[j].stack.length:Int) - t).toNat,by omega⟩
      have hLn:L≤h.calls[j].stack.length:=by omega
      have hneg:¬((L:Int)<0):=by omega
      have hbig:¬(6<(L:Int)+l):=by omega
      have hLz:(L:Int)≤(h.calls[j].stack.length:Int):=by omega
      rw[hL] at hwl hwl2
      have hsr:=(k5.own.c.lists j hj).2
      rw[hVs] at hsr
      obtain⟨hpF,_⟩:=hsr.piece (l:=L) (k:=h.calls[j].stack.length) hLn (Nat.le_refl _)
      obtain⟨hpT,hLc⟩:=hsr.piece (l:=0) (k:=L) (Nat.zero_le _) hLn
      rw[List.take_length] at hpF
      rw[List.drop_zero] at hpT
      have hfrom:∀W,(Instr.slice 27 (.slice sa h.calls[j].stack.length sc) (some (.int .i64 (L:Int))) none none).run Tryz.prog W=.ok (sliced sa L h.calls[j].stack.length sc 2) W:=fun W=>val_from W sa _ sc L hLn
      have hto:∀W,(Instr.slice 27 (.slice sa h.calls[j].stack.length sc) none (some (.int .i64 (L:Int))) none).run Tryz.prog W=.ok (sliced sa 0 L sc 2) W:=fun W=>val_to W sa _ sc L hLc
      generalize sliced sa L h.calls[j].stack.length sc 2=VF at *
      generalize sliced sa 0 L sc 2=VT at *
      have N6:Below w5.heap.size w5 (w5.alloc (.cells #[] 98)):=(Below.refl _ _).alloc (Nat.le_refl _) _
      have mk6:=PairRow.made (B:=w5.heap.size) (w:=w5) (e:=98) (Nat.le_refl _)
      have hF6:=hpF.below N6
      have hgl5:=(k5.own.c.lt (g:=g) (.inl rfl)).2
      have hbo5:bo<w5.heap.size:=k5.box.lt
      have HSE:Hid (stepH ms h=if kindsOk kk (h.calls[j].stack.drop L)=false then {h with code:=2} else doH ms {h with calls:=h.calls.set j {h.calls[j] with stack:=h.calls[j].stack.take L,pc:=(pc:Int)+1}} kk a (h.calls[j].stack.drop L)):=by
        show _=_
        rw[stepH_at hn hj hm hpc hml hpl HO.out.1 HO.out.2,if_neg hbad,hL,Int.toNat_natCast]
      have HDo:Hid (kindsOk kk (h.calls[j].stack.drop L)=true→Doing ms {h with calls:=h.calls.set j {h.calls[j] with stack:=h.calls[j].stack.take L,pc:=(pc:Int)+1}} j kk a (h.calls[j].stack.drop L)):=fun hk=>by
        have:=doing_at hg hc hn hj hm hpc hml hpl HO.out.1 HO.out.2 hbad (by rw[hL,Int.toNat_natCast];exact hk)
        rw[hL,Int.toNat_natCast] at this
        exact this
      have hdl:((h.calls[j].stack.drop L).length:Int)=t:=by simp;omega
      have htl:(h.calls[j].stack.take L).length≤6:=by simp;omega
      have HK5:Hid ((kk=5→(h.calls[j].stack.drop L).length=2)∧(kk=12∨kk=13∨kk=14∨kk=15∨kk=17∨kk=18→1≤(h.calls[j].stack.drop L).length)):=by
        have e:=HO.out.2
        refine⟨fun q=>?_,fun q=>?_⟩
        · subst q
          rw[takes_num (by decide)] at e
          injection e with e1 e2
          have:tk 5=2:=rfl
          omega
        · rw[takes_num (by omega)] at e
          injection e with e1 e2
          have:1≤tk kk:=by
            rcases q with q | q | q | q | q | q <;> subst q <;> decide
          omega
      generalize h.calls[j].stack.drop L=DR at *
      generalize h.calls[j].stack.take L=TK at *
      have hdl6:DR.length≤6:=by omega
      clear hbad hsr
      go_upto_region 10 with(at_builtin;refine append_vals _ (by rfl) _ _ (by rfl) w5.heap.size _ _ [] DR (by rfl) (by rfl) mk6 hF6 (by simp;omega) (by simp) ?_;intro v6 w6 hrow6 hg6 hb6;rw[List.nil_append] at hrow6;obtain⟨a6,c6,hv6,_⟩:=hrow6.slice;subst hv6)
      have b56:Below w5.heap.size w5 w6:=N6.grown hg6 N6.size (fun q e=>(mk6.lt q e).1)
      have hz56:=b56.size
      have ro6:=row_below b56 ro5
      have hK:=l11Kinds_any kk a (.slice a6 DR.length c6) DR w6 hrow6.at HK5.out.1 HK5.out.2
      clear hg6 hb6 N6 mk6 hF6 u0 u1
      obtain⟨⟨u0,u1⟩,_⟩:=duo_cells ro6
      cases hkb:kindsOk kk DR
      · have HR:Hid (stepH ms h={h with code:=2}):=by show _=_;rw[HSE.out,hkb];rfl
        rw[hkb] at hK
        go_wp2_with (go_at_call 179;refine hK.mono ?_;rintro e w7 ⟨rfl,hb7⟩;have b57:=b56.trans (hb7.mono hz56);have k7:=k5.below b57;obtain⟨⟨z0,z1,z2,z3,z4,z5⟩,_,_,_,_,_,g5⟩:=six_cells k7.box)
        obtain⟨k8,cm8⟩:=k7.setCode 2
        refine bodyPost_ret (results_none rfl _ _ _) rfl ⟨rfl,⟨.slice (some ⟨g,off,none⟩) h.calls.length cap,vs,V,?_⟩,cm5.trans ((k5.cm b57 hB5).trans cm8)⟩
        rw[HR.out]
        exact k8
      · have d:=HDo.out hkb
        have HR:Hid (stepH ms h=doH ms {h with calls:=h.calls.set j {h.calls[j] with stack:=TK,pc:=(pc:Int)+1}} kk a DR):=by show _=_;rw[HSE.out,hkb];rfl
        rw[hkb] at hK
        clear x0 x1 x2 x3 x4 x5 f5 c0 c1 c2 c3 c4 c5 fz
        go_upto_region 12 with(go_at_call 179;refine hK.mono ?_;rintro e w7 ⟨rfl,hb7⟩)
        have b57:=b56.trans (hb7.mono hz56)
        have hz57:=b57.size
        have k7:=k5.below b57
        have ro7:=row_below hb7 ro6
        have hrow7:=hrow6.below hb7
        have hpT7:=hpT.below b57
        have hB7:B≤w7.heap.size:=by omega
        have hgl7:g<w7.heap.size:=by omega
        obtain⟨⟨c0,c1,c2,c3,c4,c5⟩,fz⟩:=k7.own.c.cells hj
        rw[hVs] at c3
        have N8:Below w7.heap.size w7 (w7.alloc (.cells #[] 98)):=(Below.refl _ _).alloc (Nat.le_refl _) _
        have mk8:=PairRow.made (B:=w7.heap.size) (w:=w7) (e:=98) (Nat.le_refl _)
        have hT8:=hpT7.below N8
        clear fz
        go_upto_region 13 with(at_builtin;refine append_vals _ (by rfl) _ _ (by rfl) w7.heap.size _ _ [] TK (by rfl) (by rfl) mk8 hT8 (by simp;omega) (by simp) ?_;intro v9 w9 hrow9 hg9 hb9;rw[List.nil_append] at hrow9;obtain⟨a9,c9,hv9,_⟩:=hrow9.slice;subst hv9;have b79:Below w7.heap.size w7 w9:=N8.grown hg9 N8.size (fun q e=>(mk8.lt q e).1);have k9:=k7.below b79;obtain⟨⟨_,_,_,z3,_,_⟩,fz9⟩:=k9.own.c.cells hj;rw[hVs] at z3;have f3:=fz9 3 (by decide);clear fz9)
        have hz79:=b79.size
        have hW2g:W2.heap.size≠g:=by omega
        obtain⟨⟨V10,k10⟩,cm10⟩:=k7.stackNew hj hB7 b79 hrow9
        have ro10:(w9.setCell ⟨g,off+j * 6+3,none⟩ (.slice a9 TK.length c9)).rowIs W2.heap.size 33 2 (duo (.int .i64 kk) (.int .i64 a)):=(row_below b79 ro7).of_block (Below.heap_setCell _ _ _ _ hW2g)
        have hrow10:=(hrow7.below b79).set_other (p:=⟨g,off+j * 6+3,none⟩) (.slice a9 TK.length c9) (fun e=>by have:=(hrow7.lt _ e).1;simp at this;omega)
        have hj10:j<(h.calls.set j {h.calls[j] with stack:=TK}).length:=by simpa using hj
        obtain⟨⟨m0,m1,m2,m3,m4,m5⟩,fz10⟩:=k10.own.c.cells hj10
        have f1:=fz10 1 (by decide)
        simp only[List.getElem_set_self] at m1
        rw[hpc] at m1
        have hgB:=(k10.own.c.lt (g:=g) (.inl rfl)).1
        have hcmT:Cm A B w (w9.setCell ⟨g,off+j * 6+3,none⟩ (.slice a9 TK.length c9)):=cm5.trans ((k5.cm b57 hB5).trans cm10)
        clear fz10 c0 c1 c2 c3 c4 c5 z3 f3 hrow9 hg9 hb9 b79 N8 mk8 hT8 k9 cm10
        generalize w9.setCell ⟨g,off+j * 6+3,none⟩ (.slice a9 TK.length c9)=W10 at *
        obtain⟨k11,cm11⟩:=k10.put hj10 (put_cell k10.own.c hj10 1 (.int .i64 ((pc:Int)+1)) {(h.calls.set j {h.calls[j] with stack:=TK})[j] with pc:=(pc:Int)+1} (by decide) rfl rfl rfl rfl rfl rfl) ((Below.refl B W10).setCell (p:=⟨g,off+j * 6+1,none⟩) hgB _)
        simp only[List.getElem_set_self,List.set_set] at k11
        have k11':SM A B (W10.setCell ⟨g,off+j * 6+1,none⟩ (.int .i64 ((pc:Int)+1))) bo (.slice (some ⟨pb,po,none⟩) ms.length cp) (.slice (some ⟨g,off,none⟩) (h.calls.set j {h.calls[j] with stack:=TK,pc:=(pc:Int)+1}).length cap) vs ms {h with calls:=h.calls.set j {h.calls[j] with stack:=TK,pc:=(pc:Int)+1}} (putV V10 j ((V10 j).1,(V10 j).2)):=by rw[List.length_set];exact k11
        have hB11:B≤(W10.setCell ⟨g,off+j * 6+1,none⟩ (.int .i64 ((pc:Int)+1))).heap.size:=by have:=hcmT.b.size;simp[World.setCell];have:=cm11.b.size;simp[World.setCell] at this;have:=cm5.b.size;have:=k11.own.c.lt (g:=g) (.inl rfl);simp[World.setCell] at this;omega
        have ro11:=(show(W10.setCell ⟨g,off+j * 6+1,none⟩ (.int .i64 ((pc:Int)+1))).rowIs W2.heap.size 33 2 (duo (.int .i64 kk) (.int .i64 a)) from ro10.of_block (Below.heap_setCell _ _ _ _ hW2g))
        have hrow11:=hrow10.set_other (p:=⟨g,off+j * 6+1,none⟩) (.int .i64 ((pc:Int)+1)) (fun e=>by have:=(hrow10.lt _ e).1;simp at this;omega)
        have hDo:=do_any k11' hB11 kk a (.slice a6 DR.length c6) DR hrow11.at d hsd
        have hwp:IntKind.i64.wrap ((pc:Int)+1)=(pc:Int)+1:=by rw[IntKind.wrap_i64];have:=c.pc;rw[hpc] at this;unfold maxLen at hol;omega
        go_upto_region 14 with fail
        generalize W10.setCell ⟨g,off+j * 6+1,none⟩ (.int .i64 ((pc:Int)+1))=W11 at *
        clear u0 u1
        obtain⟨⟨u0,u1⟩,_⟩:=duo_cells ro11
        go_wp2_with (go_at_call 180;refine hDo.mono ?_;rintro e w12 ⟨rfl,hSM,cm12⟩)
        refine bodyPost_end (results_none rfl _ _ _) rfl ⟨rfl,?_,hcmT.trans (cm11.trans cm12)⟩
        rw[HR.out]
        exact hSM
end Go.Proofs.YtjbgpcileapogaaGreat
