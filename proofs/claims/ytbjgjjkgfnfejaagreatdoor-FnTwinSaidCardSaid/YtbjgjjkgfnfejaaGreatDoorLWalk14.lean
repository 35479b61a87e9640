/-
  The program's heap at work: operations are done, part three: a value is returned.
-/
import Derived.Test.YtbjgjjkgfnfejaaGreatDoorRep
import Derived.Test.YtbjgjjkgfnfejaaGreatDoorMThing3
namespace Go.Proofs.YtbjgjjkgfnfejaaGreatDoor
set_option maxHeartbeats 4000000
set_option maxRecDepth 100000
open Go.RowKit
variable {B:Nat} {w w':World} {bl br:Nat} {vp vcs vsd:Value} {C D:Nat->Nat} {T:Nat->Value × Value} {h h':Hp}
theorem zcr (k:LV B w bl br vp vcs vsd C D T h) {j:Nat} (hn:h.now=(j:Int)) (hj:j<h.za.length) (hB:B<=w.heap.size) (hsl:h.zm.length<=2900000) (a:Int) {vt:Value} {args:yH} (t:Tk (yu bl br vcs vsd C D T h.za.length) w vt args) (h1:0<args.length)
 (hv:args[0].1=2->0<=args[0].2/\args[0].2<(h.za.length:Int)) (QQ:h.za[j].zi<(h.za.length:Int)) (hst:∀i,(hi:i<h.za.length)->h.za[i].zf.length<=1000) :
 Calls Tryz.prog 155 #[zJ br 0,zI a,vt] w fun e w'=>e=.returned (.tuple #[])/\qY B bl br vp (yu bl br vcs vsd C D T h.za.length) w (Vt h args[0]) w':=by
 have HL:=VR k hn hj
 have Qh:=Tryz.go_leave bl
 have QP:=Tryz.go_running bl
 obtain⟨⟨y0,y1,y2,y3,y4⟩,_⟩:=zq k.rn
 obtain⟨e1,e2,e3⟩:=Xd hn hj
 have hll:(ye h).za.length=h.za.length:=ZB h
 have Zz:(yJ h).zi=h.za[j].zi:=by rw[xO hn hj]
 have hsd:(ye h).zm=h.zm:=rfl
 have hstl:∀i,(hi:i<(ye h).za.length)->(ye h).za[i].zf.length<=1000:=fun i hi=>by
  have hi':i<h.za.length:=by rw[<-hll];exact hi
  have hq:(ye h).za[i]=(h.za.set j (um h.za[j]))[i]'(by rw[List.length_set];exact hi'):=by simp only[e1]
  rw[hq]
  by_cases e:j=i
  ·subst e;simp[um]
  ·rw[List.getElem_set_ne e];exact hst i hi'
 have HT:Hid (Tk (yu bl br vcs vsd C D T h.za.length) w vt args):=t
 have HST:Hid _:=hstl
 have hz:(0:Int)<(args.length:Int):=by omega
 obtain⟨b,o,cap,jz,_⟩:=t.cell h1
 subst jz
 clear t k hst hstl
 obtain⟨x,hx⟩:∃x,args[0]=x:=⟨_,rfl⟩
 have HX:Hid (args[0]=x):=hx
 rw[hx] at hv ⊢
 clear hx
 obtain⟨x1,x2⟩:=x
 unfold Vt
 by_cases hs:h.za[j].zi<0
 ·rw[if_pos (by rw[Zz];exact hs)]
  go_enter Tryz.func155,Tryz.ntmps155
  go_wp2_with fail
  refine HL.mono ?_
  rintro e w2 ⟨rfl,T2,k2,g2⟩
  have t2:=HT.out.go g2
  obtain⟨b',o',cap',XC,c0,c1⟩:=t2.cell h1
  obtain⟨rfl,rfl,rfl⟩:b=b'/\o=o'/\cap=cap':=by
   injection XC with q1 _ q3
   injection q1 with q1
   injection q1 with q1 q2 _
   exact⟨q1,q2,q3⟩
  rw[HX.out,Nat.zero_mul,Nat.add_zero] at c0 c1
  have HR:=U0 k2 (by rw[e2];exact hs)
  have HS:=KK k2 (by have:=g2.b.size;omega) x1 x2 (by rw[hll];exact hv) (by rw[hsd];exact hsl)
  obtain⟨⟨u0,u1,u2,u3,u4⟩,_⟩:=zq k2.rn
  clear y0 y1 y2 y3 y4 k2 t2
  go_wp2_with (first
   | (go_at_call 227;refine HR.mono ?_;rintro e w' ⟨rfl,hw⟩;obtain rfl:=hw.symm)
   | (go_at_call 178;refine HS.mono ?_;rintro e w3 ⟨rfl,YZ,k3,g3⟩;obtain⟨⟨v0,v1,v2,v3,v4⟩,vf0,vf1,vf2,vf3,vf4⟩:=zq k3.rn))
  have k4:=k3.num (h':=vZ (uN (ye h) (x1,x2)) 1) (i:=4) (x:=1) rfl rfl rfl (jM k3.rn (zI 1))
  rw[hll] at g3
  have g4:=(g2.trans g3).trans (vV.set (P:=yu bl br vcs YZ C D T2 h.za.length) (w:=w3) (p:=zH br 4) ⟨.run,trivial,rfl⟩ (k3.lo .run trivial br rfl).1 (zI 1))
  have hlc:(vZ (uN (ye h) (x1,x2)) 1).za.length=h.za.length:=hll
  have hE:qY B bl br vp (yu bl br vcs vsd C D T h.za.length) w (vZ (uN (ye h) (x1,x2)) 1) (w3.setCell (zH br 4) (zI 1)):=⟨_,_,_,_,_,k4,by rw[hlc];exact g4⟩
  exact bodyPost_ret (results_none rfl _ _ _) rfl ⟨rfl,hE⟩
 ·rw[if_neg (by rw[Zz];exact hs)]
  obtain⟨s,hse⟩:=Int.eq_ofNat_of_zero_le (show 0<=h.za[j].zi by omega)
  have hsl2:s<(ye h).za.length:=by rw[hll];omega
  go_enter Tryz.func155,Tryz.ntmps155
  go_wp2_with fail
  refine HL.mono ?_
  rintro e w2 ⟨rfl,T2,k2,g2⟩
  have t2:=HT.out.go g2
  obtain⟨b',o',cap',XC,c0,c1⟩:=t2.cell h1
  obtain⟨rfl,rfl,rfl⟩:b=b'/\o=o'/\cap=cap':=by
   injection XC with q1 _ q3
   injection q1 with q1
   injection q1 with q1 q2 _
   exact⟨q1,q2,q3⟩
  rw[HX.out,Nat.zero_mul,Nat.add_zero] at c0 c1
  have WG:(ye h).now=(s:Int):=by rw[e2];exact hse
  have HR:=kJ k2 WG hsl2
  have HP:=QE k2 WG hsl2 (by have:=g2.b.size;omega) x1 x2 (HST.out s hsl2)
  obtain⟨⟨u0,u1,u2,u3,u4⟩,_⟩:=zq k2.rn
  clear y0 y1 y2 y3 y4 k2 t2
  go_wp2_with (first
   | (go_at_call 227;refine HR.mono ?_;rintro e w' ⟨rfl,hw⟩;obtain rfl:=hw.symm)
   | (go_at_call 174;refine HP.mono ?_;rintro e w3 ⟨rfl,T3,k3,g3⟩))
  rw[hll] at g3
  have hlc:(yI (ye h) (x1,x2)).za.length=h.za.length:=(ZC _ _).trans hll
  have hE:qY B bl br vp (yu bl br vcs vsd C D T h.za.length) w (yI (ye h) (x1,x2)) w3:=⟨_,_,_,_,_,k3,by rw[hlc];exact g2.trans g3⟩
  exact bodyPost_end (results_none rfl _ _ _) rfl ⟨rfl,hE⟩
variable {B:Nat} {w w':World} {bl br:Nat} {vp vcs vsd:Value} {C D:Nat->Nat} {T:Nat->Value × Value} {h h':Hp}
theorem zaM (k:LV B w bl br vp vcs vsd C D T h) (hB:B<=w.heap.size) (a:Int) {vt:Value} {args:yH} (t:Tk (yu bl br vcs vsd C D T h.za.length) w vt args) (h1:1<args.length) {i:Nat} (hi:i<h.za.length) (hv:args[0].2=(i:Int))
 (hback:h.za[i].zv=false->(∃l,qG h.za h.now l/\i∈l/\l.length<=h.za.length)/\(yC h.za.length h i).now=(i:Int)/\(yC h.za.length h i).za.length=h.za.length/\∀hb:i<(yC h.za.length h i).za.length,(yC h.za.length h i).za[i].zf.length<=1000) :
 Calls Tryz.prog 160 #[zJ br 0,zI a,vt] w fun e w'=>e=.returned (.tuple #[])/\qY B bl br vp (yu bl br vcs vsd C D T h.za.length) w (Qb h i args[1]) w':=by
 have kd:=k.below (zS.drew)
 have HL:=uy kd hi
 have Qh:=Tryz.go_looked bl
 have QP:=Tryz.go_backTo bl
 obtain⟨⟨y0,y1,y2,y3,y4⟩,yf0,yf1,yf2,yf3,yf4⟩:=zq k.rn
 obtain⟨⟨z0,z1,z2,z3,z4⟩,_⟩:=zq (k.bd i hi)
 obtain⟨b,o,cap,jz,c0,c1⟩:=t.cell (i:=0) (by omega)
 subst jz
 rw[Nat.zero_mul,Nat.add_zero] at c0 c1
 rw[hv] at c1
 have hz:(1:Int)<(args.length:Int):=by omega
 have jT:0<args.length:=by omega
 unfold Qb
 rw[yn hi]
 cases hd:h.za[i].zv
 ·rw[hd] at z4
  obtain⟨⟨l,hw,hil,hll⟩,hRn,hRl,hRs⟩:=hback hd
  have HB:=zaJ (kd.below (zS.drew)) hw hil hll
  have gd:vV B (yu bl br vcs vsd C D T h.za.length) (yu bl br vcs vsd C D T h.za.length) w w.drew.drew:=vV.of_below hB (zS.drew.drew)
  have HT:Hid (Tk (yu bl br vcs vsd C D T h.za.length) w.drew.drew (zK b o args.length cap) args):=t.go gd
  have HG:Hid (∀w2 T2,LV B w2 bl br vp vcs vsd C D T2 (yC h.za.length h i)->vV B (yu bl br vcs vsd C D T h.za.length) (yu bl br vcs vsd C D T2 h.za.length) w.drew.drew w2->Calls Tryz.prog 174 #[zJ br 0,.agg #[zI args[1].1,zI args[1].2]] w2 fun e w'=>e=.returned (.tuple #[])/\qY B bl br vp (yu bl br vcs vsd C D T h.za.length) w (yI (yC h.za.length h i) args[1]) w'):=fun w2 T2 k2 g2=>by
   have K3:i<(yC h.za.length h i).za.length:=by rw[hRl];exact hi
   refine(QE k2 hRn K3 (by have:=g2.b.size;have hq:w.drew.drew.heap.size=w.heap.size:=rfl;omega) args[1].1 args[1].2 (hRs K3)).mono ?_
   rintro e w' ⟨he,T3,k3,g3⟩
   rw[hRl] at g3
   refine⟨he,_,_,_,_,T3,k3,?_⟩
   rw[ZC,hRl]
   exact(gd.trans g2).trans g3
  generalize yC h.za.length h i=R at *
  clear k kd t hback hRn hRl hRs hw hil hll
  rw[if_neg (by decide)]
  go_enter Tryz.func160,Tryz.ntmps160
  go_wp2_with fail
  go_region_law (go_simp;go_at_call 226;refine HL.mono ?_;rintro e w' ⟨rfl,hw⟩;obtain rfl:=hw.symm)
  all_goals
   go_wp2_with fail
   go_region_law (go_simp;go_at_call 221;refine HB.mono ?_;rintro e w2 ⟨rfl,T2,k2,g2⟩;have HP:=HG.out w2 T2 k2 g2;obtain⟨b',o',cap',XC,e0,e1⟩:=(HT.out.go g2).cell h1;cases XC;rw[Nat.one_mul] at e0 e1;clear k2 g2)
   all_goals
    go_wp2_with (go_at_call 174;refine HP.mono ?_;rintro e w3 ⟨rfl,hE⟩)
    exact bodyPost_end (results_none rfl _ _ _) rfl ⟨rfl,hE⟩
 ·rw[hd] at z4
  have k4:=(k.num (h':=vZ h 2) (i:=4) (x:=2) rfl rfl rfl (jM k.rn (zI 2))).below (zS.drew)
  have g4:vV B (yu bl br vcs vsd C D T h.za.length) (yu bl br vcs vsd C D T h.za.length) w (w.setCell (zH br 4) (zI 2)).drew:=(vV.set (P:=yu bl br vcs vsd C D T h.za.length) (w:=w) (p:=zH br 4) ⟨.run,trivial,rfl⟩ (k.lo .run trivial br rfl).1 (zI 2)).trans ⟨zS.drew,fun _ _ _=>rfl,fun _ e=>.inl e⟩
  have hE:qY B bl br vp (yu bl br vcs vsd C D T h.za.length) w (vZ h 2) (w.setCell (zH br 4) (zI 2)).drew:=⟨_,_,_,_,_,k4,g4⟩
  clear k kd t hback k4 g4
  rw[if_pos rfl]
  go_enter Tryz.func160,Tryz.ntmps160
  go_wp2_with fail
  go_region_law (go_simp;go_at_call 226;refine HL.mono ?_;rintro e w' ⟨rfl,hw⟩;obtain rfl:=hw.symm)
  all_goals
   go_wp2
   exact bodyPost_ret (results_none rfl _ _ _) rfl ⟨rfl,hE⟩
variable {B:Nat} {w w':World} {bl br:Nat} {vp vcs vsd:Value} {C D:Nat->Nat} {T:Nat->Value × Value} {h h':Hp}
theorem LV.temp (k:LV B w bl br vp vcs vsd C D T h) {j:Nat} (hj:j<h.za.length) {gt ot m ct:Nat} (hT:(T j).1=zK gt ot m ct) (q:Nat) (hq:q<h.za[j].zg.length) (x y:Int) :
 LV B ((w.setCell (zH gt (ot+q * 2)) (zI x)).setCell (zH gt (ot+q * 2+1)) (zI y)) bl br vp vcs vsd C D (xT T j ((T j).1,(T j).2)) {h with za:=h.za.set j {h.za[j] with zg:=h.za[j].zg.set q (x,y)}} /\
 vV B (yu bl br vcs vsd C D T h.za.length) (yu bl br vcs vsd C D (xT T j ((T j).1,(T j).2)) h.za.length) w ((w.setCell (zH gt (ot+q * 2)) (zI x)).setCell (zH gt (ot+q * 2+1)) (zI y)):=by
 have zy:(T j).1.ownBlock=some gt:=by rw[hT];rfl
 have hgl:=k.lo (.zg j) hj gt zy
 have hTS:∀g,(T j).1.ownBlock=some g->(T j).2.ownBlock≠some g:=fun g e e2=>by have:=k.ap (.zg j) (.zf j) hj hj g e e2;cases this
 have hgD:gt≠D j:=fun e=>by have:=k.ap (.zg j) (.body j) hj hj gt zy (by rw[e];rfl);cases this
 have hset:∀g,g≠gt->((w.setCell (zH gt (ot+q * 2)) (zI x)).setCell (zH gt (ot+q * 2+1)) (zI y)).heap[g]?=w.heap[g]?:=fun g h2=>(Below.heap_setCell _ _ _ _ (fun e=>h2 e)).trans (Below.heap_setCell _ _ _ _ (fun e=>h2 e))
 have hbl:∀g,g<w.heap.size->g≠D j->(T j).1.ownBlock≠some g->(T j).2.ownBlock≠some g->((w.setCell (zH gt (ot+q * 2)) (zI x)).setCell (zH gt (ot+q * 2+1)) (zI y)).heap[g]?=w.heap[g]?:=fun g _ _ h3 _=>hset g (fun e=>h3 (by rw[e];exact zy))
 have ht:=(k.ts j hj).1
 rw[hT] at ht
 have ht':=ht.set q hq x y
 rw[<-hT] at ht'
 have hs':=(((k.ts j hj).2.set_other (p:=zH gt (ot+q * 2)) (zI x) (hTS gt zy)).set_other (p:=zH gt (ot+q * 2+1)) (zI y) (hTS gt zy))
 exact⟨k.turn hj rfl (by simp[World.setCell]) hbl ((k.bd j hj).of_block (hset (D j) (Ne.symm hgD))) ht' hs' (fun g e=>.inl e) (fun g e=>.inr (.inl e)) hTS,LV.turn_go hj ((Below.refl _ _ |>.setCell (p:=zH gt (ot+q * 2)) hgl.1 _).setCell (p:=zH gt (ot+q * 2+1)) hgl.1 _) hbl (fun g e=>.inl e) (fun g e=>.inr (.inl e))⟩
theorem zct (k:LV B w bl br vp vcs vsd C D T h) {j:Nat} (hn:h.now=(j:Int)) (hj:j<h.za.length) (_hB:B<=w.heap.size) {vt:Value} {args:yH} (t:Tk (yu bl br vcs vsd C D T h.za.length) w vt args) (h1:0<args.length) (q:Nat) (hq:q<h.za[j].zg.length) :
 Calls Tryz.prog 148 #[zJ br 0,zI q,vt] w fun e w'=>e=.returned (.tuple #[])/\qY B bl br vp (yu bl br vcs vsd C D T h.za.length) w (setH h {yJ h with zg:=(yJ h).zg.set q args[0]}) w':=by
 have kd:=k.below (zS.drew)
 have HR:=kJ kd hn hj
 have hm:=Tryz.go_running bl
 obtain⟨⟨y0,y1,y2,y3,y4⟩,_⟩:=zq k.rn
 obtain⟨⟨z0,z1,z2,z3,z4⟩,_⟩:=zq (k.bd j hj)
 have ht:=(k.ts j hj).1
 obtain⟨gt,ot,ct,hT,_⟩:=ht.form (by omega)
 have HE:qY B bl br vp (yu bl br vcs vsd C D T h.za.length) w (setH h {yJ h with zg:=(yJ h).zg.set q args[0]}) ((w.setCell (zH gt (ot+q * 2)) (zI args[0].1)).setCell (zH gt (ot+q * 2+1)) (zI args[0].2)).drew:=by
  have e:setH h {yJ h with zg:=(yJ h).zg.set q args[0]}={h with za:=h.za.set j {h.za[j] with zg:=h.za[j].zg.set q (args[0].1,args[0].2)}}:=by
   unfold setH
   rw[xO hn hj,hn,Int.toNat_natCast]
  rw[e]
  obtain⟨k2,g2⟩:=k.temp hj hT q hq args[0].1 args[0].2
  refine⟨_,_,_,_,_,k2.below (zS.drew),?_⟩
  simp only[List.length_set]
  exact g2.trans ⟨zS.drew,fun _ _ _=>rfl,fun _ e=>.inl e⟩
 rw[hT] at ht z2
 obtain⟨⟨c0,c1⟩,cf0,cf1⟩:=ht.cell hq
 obtain⟨b,o,cap,jz,e0,e1⟩:=t.cell h1
 subst jz
 rw[Nat.zero_mul,Nat.add_zero] at e0 e1
 have hz:(0:Int)<(args.length:Int):=by omega
 have hqz:(q:Int)<(h.za[j].zg.length:Int):=by omega
 have HEH:Hid _:=HE
 clear k kd ht t HE
 go_enter Tryz.func148,Tryz.ntmps148
 go_wp2_with fail
 go_region_law (go_simp;go_at_call 227;refine HR.mono ?_;rintro e w' ⟨rfl,hw⟩;obtain rfl:=hw.symm)
 all_goals exact bodyPost_end (results_none rfl _ _ _) rfl ⟨rfl,HEH.out⟩
theorem KF {h:Hp} {i:Nat} (hi:i<h.za.length) (q:Nat) (v:Int × Int):uV h i (q:Int) v={h with za:=h.za.set i {h.za[i] with zg:=h.za[i].zg.set q v}}:=by
 unfold uV
 rw[yn hi,Int.toNat_natCast]
theorem KG {h:Hp} {i:Nat} (hi:i<h.za.length) {q:Nat} (hq:¬q<h.za[i].zg.length) (v:Int × Int):uV h i (q:Int) v=h:=by
 have e:h.za[i].zg.set q v=h.za[i].zg:=List.set_eq_of_length_le (by omega)
 have e2:h.za.set i h.za[i]=h.za:=List.set_getElem_self hi
 rw[KF hi,e]
 show({h with za:=h.za.set i h.za[i]}:Hp)=h
 rw[e2]
variable {B:Nat} {w w':World} {bl br:Nat} {vp vcs vsd:Value} {C D:Nat->Nat} {T:Nat->Value × Value} {h h':Hp}
theorem zaT (k:LV B w bl br vp vcs vsd C D T h) (hB:B<=w.heap.size) (q:Nat) {vt:Value} {args:yH} (t:Tk (yu bl br vcs vsd C D T h.za.length) w vt args) (h1:1<args.length) {i:Nat} (hi:i<h.za.length) (hv:args[0].2=(i:Int)) :
 Calls Tryz.prog 159 #[zJ br 0,zI q,vt] w fun e w'=>e=.returned (.tuple #[])/\qY B bl br vp (yu bl br vcs vsd C D T h.za.length) w (uV h i q args[1]) w':=by
 have kd:=k.below (zS.drew)
 have HL:=uy kd hi
 have Qh:=Tryz.go_looked bl
 obtain⟨⟨y0,y1,y2,y3,y4⟩,_⟩:=zq k.rn
 obtain⟨⟨z0,z1,z2,z3,z4⟩,_⟩:=zq (k.bd i hi)
 obtain⟨b,o,cap,jz,c0,c1⟩:=t.cell (i:=0) (by omega)
 obtain⟨b',o',cap',XC,d0,d1⟩:=t.cell h1
 subst jz
 cases XC
 rw[Nat.zero_mul,Nat.add_zero] at c0 c1
 rw[Nat.one_mul] at d0 d1
 rw[hv] at c1
 have hz:(1:Int)<(args.length:Int):=by omega
 have jT:0<args.length:=by omega
 have ht:=(k.ts i hi).1
 obtain⟨at_,ct,hT,_⟩:=ht.slice
 by_cases hq:q<h.za[i].zg.length
 ·obtain⟨gt,ot,ct',hT',_⟩:=ht.form (by omega)
  have HE:qY B bl br vp (yu bl br vcs vsd C D T h.za.length) w (uV h i q args[1]) ((w.setCell (zH gt (ot+q * 2)) (zI args[1].1)).setCell (zH gt (ot+q * 2+1)) (zI args[1].2)).drew:=by
   rw[KF hi]
   obtain⟨k2,g2⟩:=k.temp hi hT' q hq args[1].1 args[1].2
   refine⟨_,_,_,_,_,k2.below (zS.drew),?_⟩
   simp only[List.length_set]
   exact g2.trans ⟨zS.drew,fun _ _ _=>rfl,fun _ e=>.inl e⟩
  rw[hT'] at ht z2
  obtain⟨⟨u0,u1⟩,uf0,uf1⟩:=ht.cell hq
  have hqz:(q:Int)<(h.za[i].zg.length:Int):=by omega
  have hq0:(0:Int)<=(q:Int):=by omega
  have HEH:Hid _:=HE
  clear k kd ht t HE hT
  go_enter Tryz.func159,Tryz.ntmps159
  go_wp2_with fail
  go_region_law (go_simp;go_at_call 226;refine HL.mono ?_;rintro e w' ⟨rfl,hw⟩;obtain rfl:=hw.symm)
  all_goals
   go_wp2_with (go_at_call 58;refine(yc _ _ _).mono ?_;rintro e w' ⟨rfl,hw⟩;obtain rfl:=hw.symm;rw[zF.2 ⟨hq0,by omega⟩])
   exact bodyPost_end (results_none rfl _ _ _) rfl ⟨rfl,HEH.out⟩
 ·have hE:qY B bl br vp (yu bl br vcs vsd C D T h.za.length) w (uV h i q args[1]) w.drew:=by
   rw[KG hi hq]
   exact⟨_,_,_,_,_,kd,vV.of_below hB (zS.drew)⟩
  rw[hT] at z2
  have hEH:Hid _:=hE
  clear k kd ht t hE
  generalize h.za[i].zg.length=nt at *
  go_enter Tryz.func159,Tryz.ntmps159
  go_wp2_with fail
  go_region_law (go_simp;go_at_call 226;refine HL.mono ?_;rintro e w' ⟨rfl,hw⟩;obtain rfl:=hw.symm)
  all_goals
   go_wp2_with (go_at_call 58;refine(yc _ _ _).mono ?_;rintro e w' ⟨rfl,hw⟩;obtain rfl:=hw.symm;rw[qc.2 (by omega)])
   exact bodyPost_end (results_none rfl _ _ _) rfl ⟨rfl,hEH.out⟩
variable {B:Nat} {w w':World} {bl br:Nat} {vp vcs vsd:Value} {C D:Nat->Nat} {T:Nat->Value × Value} {h h':Hp}
theorem zaS (k:LV B w bl br vp vcs vsd C D T h) {j:Nat} (hn:h.now=(j:Int)) (hj:j<h.za.length) (hB:B<=w.heap.size) (hl:h.za[j].zf.length<=1000) (q:Nat) {vt:Value} {args:yH} (t:Tk (yu bl br vcs vsd C D T h.za.length) w vt args) (h1:0<args.length) {i:Nat} (hi:i<h.za.length) (hv:args[0].2=(i:Int)) :
 Calls Tryz.prog 158 #[zJ br 0,zI q,vt] w fun e w'=>e=.returned (.tuple #[])/\qY B bl br vp (yu bl br vcs vsd C D T h.za.length) w (yI h (h.za[i].zg.getD q (0,0))) w':=by
 have kd:=k.below (zS.drew)
 have HL:=uy kd hi
 have Qh:=Tryz.go_looked bl
 obtain⟨⟨y0,y1,y2,y3,y4⟩,_⟩:=zq k.rn
 obtain⟨⟨z0,z1,z2,z3,z4⟩,_⟩:=zq (k.bd i hi)
 obtain⟨b,o,cap,jz,c0,c1⟩:=t.cell h1
 subst jz
 rw[Nat.zero_mul,Nat.add_zero] at c0 c1
 rw[hv] at c1
 have hz:(0:Int)<(args.length:Int):=by omega
 have ht:=(k.ts i hi).1
 obtain⟨at_,ct,hT,_⟩:=ht.slice
 have hbd:zO w w.drew:=zS.drew
 by_cases hq:q<h.za[i].zg.length
 ·rw[yn hq]
  obtain⟨gt,ot,ct',hT',_⟩:=ht.form (by omega)
  have HP:=uf k hn hj hB hl h.za[i].zg[q].1 h.za[i].zg[q].2
  rw[hT'] at ht z2
  obtain⟨⟨u0,u1⟩,uf0,uf1⟩:=ht.cell hq
  have hqz:(q:Int)<(h.za[i].zg.length:Int):=by omega
  have hq0:(0:Int)<=(q:Int):=by omega
  have HPH:Hid _:=HP
  clear k kd ht t HP hT
  generalize h.za[i].zg[q]=x at *
  obtain⟨x1,x2⟩:=x
  generalize h.za[i].zg.length=nt at *
  go_enter Tryz.func158,Tryz.ntmps158
  go_wp2_with fail
  go_region_law (go_simp;go_at_call 226;refine HL.mono ?_;rintro e w' ⟨rfl,hw⟩;obtain rfl:=hw.symm)
  all_goals
   go_wp2_with (first
    | (go_at_call 58;refine(yc _ _ _).mono ?_;rintro e w' ⟨rfl,hw⟩;obtain rfl:=hw.symm;rw[zF.2 ⟨hq0,by omega⟩])
    | (go_at_call 174;refine(HPH.out _ hbd).mono ?_;rintro e w3 ⟨rfl,hE⟩))
   exact bodyPost_end (results_none rfl _ _ _) rfl ⟨rfl,hE⟩
 ·have hg:h.za[i].zg.getD q (0,0)=(0,0):=by rw[List.getD_eq_getElem?_getD,List.getElem?_eq_none (by omega)];rfl
  rw[hg]
  have HP:=uf k hn hj hB hl 0 0
  rw[hT] at z2
  have HPH:Hid _:=HP
  clear k kd ht t HP hg
  generalize h.za[i].zg.length=nt at *
  go_enter Tryz.func158,Tryz.ntmps158
  go_wp2_with fail
  go_region_law (go_simp;go_at_call 226;refine HL.mono ?_;rintro e w' ⟨rfl,hw⟩;obtain rfl:=hw.symm)
  all_goals
   go_wp2_with (first
    | (go_at_call 58;refine(yc _ _ _).mono ?_;rintro e w' ⟨rfl,hw⟩;obtain rfl:=hw.symm;rw[qc.2 (by omega)])
    | (go_at_call 174;refine(HPH.out _ hbd).mono ?_;rintro e w3 ⟨rfl,hE⟩))
   exact bodyPost_ret (results_none rfl _ _ _) rfl ⟨rfl,hE⟩
variable {B:Nat} {w w':World} {bl br:Nat} {vp vcs vsd:Value} {C D:Nat->Nat} {T:Nat->Value × Value} {h h':Hp}
theorem Tk.cells2 {P:Nat->Prop} {v:Value} {args:yH} (t:Tk P w v args) (h1:1<args.length):∃b o cap,v=zK b o args.length cap/\(w.cell? (zH b o)=some (zI args[0].1)/\w.cell? (zH b (o+1))=some (zI args[0].2))/\w.cell? (zH b (o+2))=some (zI args[1].1)/\w.cell? (zH b (o+2+1))=some (zI args[1].2):=by
 obtain⟨b,o,cap,jz,c0,c1⟩:=t.cell (i:=0) (by omega)
 obtain⟨b',o',cap',XC,d0,d1⟩:=t.cell h1
 subst jz
 obtain⟨rfl,rfl,rfl⟩:b=b'/\o=o'/\cap=cap':=by
  injection XC with e1 _ e3
  injection e1 with e1
  injection e1 with e1 e2 _
  exact⟨e1,e2,e3⟩
 rw[Nat.zero_mul,Nat.add_zero] at c0 c1
 rw[Nat.one_mul] at d0 d1
 exact⟨b,o,cap,rfl,⟨c0,c1⟩,d0,d1⟩
theorem zcp (k:LV B w bl br vp vcs vsd C D T h) {j:Nat} (hn:h.now=(j:Int)) (hj:j<h.za.length) (hB:B<=w.heap.size) (hl:h.za[j].zf.length<=1000) (a:Int) {vt:Value} {args:yH} (t:Tk (yu bl br vcs vsd C D T h.za.length) w vt args) (h1:1<args.length) (b0:0<=args[0].2/\args[0].2<=999) (b1:0<=args[1].2/\args[1].2<=999) :
 Calls Tryz.prog 150 #[zJ br 0,zI a,vt] w fun e w'=>e=.returned (.tuple #[])/\qY B bl br vp (yu bl br vcs vsd C D T h.za.length) w (yI h (1,(args[0].2+args[1].2) % 1000)) w':=by
 obtain⟨b,o,cap,jz,⟨c0,c1⟩,d0,d1⟩:=t.cells2 h1
 subst jz
 have hz:(1:Int)<(args.length:Int):=by omega
 have jT:(0:Int)<(args.length:Int):=by omega
 have HPH:Hid (∀(w1:World),zO w w1->Calls Tryz.prog 174 #[zJ br 0,.agg #[zI 1,zI ((args[0].2+args[1].2).tmod 1000)]] w1 fun e w'=>e=.returned (.tuple #[])/\qY B bl br vp (yu bl br vcs vsd C D T h.za.length) w (yI h (1,(args[0].2+args[1].2) % 1000)) w'):=by
  rw[show(args[0].2+args[1].2).tmod 1000=(args[0].2+args[1].2) % 1000 from Int.tmod_eq_emod_of_nonneg (by omega)]
  exact uf k hn hj hB hl 1 ((args[0].2+args[1].2) % 1000)
 clear k t c0 d0
 generalize args[0].2=X at *
 generalize args[1].2=Y at *
 have hw1:IntKind.i64.wrap (X+Y)=X+Y:=by rw[IntKind.wrap_i64];omega
 generalize args.length=na at *
 go_enter Tryz.func150,Tryz.ntmps150
 go_wp2_with fail
 go_region_with (first
  | (go_at_call 175;refine(jn _ _).mono ?_;rintro e w2 ⟨rfl,hb⟩;have hb':zO w w2:=zS.drew.trans hb)
  | (go_at_call 174;refine(HPH.out _ hb').mono ?_;rintro e w3 ⟨rfl,hE⟩))
 all_goals exact bodyPost_end (results_none rfl _ _ _) rfl ⟨rfl,hE⟩
theorem zaV (k:LV B w bl br vp vcs vsd C D T h) {j:Nat} (hn:h.now=(j:Int)) (hj:j<h.za.length) (hB:B<=w.heap.size) (hl:h.za[j].zf.length<=1000) (a:Int) {vt:Value} {args:yH} (t:Tk (yu bl br vcs vsd C D T h.za.length) w vt args) (h1:1<args.length) :
 Calls Tryz.prog 151 #[zJ br 0,zI a,vt] w fun e w'=>e=.returned (.tuple #[])/\qY B bl br vp (yu bl br vcs vsd C D T h.za.length) w (yI h (Qo (decide (args[0]=args[1])))) w':=by
 obtain⟨b,o,cap,jz,⟨c0,c1⟩,d0,d1⟩:=t.cells2 h1
 subst jz
 have hz:(1:Int)<(args.length:Int):=by omega
 have jT:(0:Int)<(args.length:Int):=by omega
 have HPH:Hid (∀(x:Bool) (w1:World),zO w w1->Calls Tryz.prog 174 #[zJ br 0,.agg #[zI 1,zI (if x then 1 else 0)]] w1 fun e w'=>e=.returned (.tuple #[])/\qY B bl br vp (yu bl br vcs vsd C D T h.za.length) w (yI h (1,(if x then 1 else 0))) w'):=fun x=>uf k hn hj hB hl 1 (if x then 1 else 0)
 clear k t
 unfold Qo
 generalize args[0]=x at *
 generalize args[1]=y at *
 obtain⟨x1,x2⟩:=x
 obtain⟨y1,y2⟩:=y
 simp only at c0 c1 d0 d1
 generalize args.length=na at *
 by_cases e1:x1=y1
 ·subst e1
  by_cases e2:x2=y2
  ·subst e2
   rw[decide_eq_true (rfl:(x1,x2)=(x1,x2))]
   go_enter Tryz.func151,Tryz.ntmps151
   go_wp2_with fail
   go_region_with (first
    | (go_at_call 176;refine(jF true _).mono ?_;rintro e w2 ⟨rfl,hb⟩;have hb':zO w w2:=zS.drew.trans hb)
    | (go_at_call 174;refine(HPH.out true _ hb').mono ?_;rintro e w3 ⟨rfl,hE⟩))
   all_goals exact bodyPost_end (results_none rfl _ _ _) rfl ⟨rfl,hE⟩
  ·rw[decide_eq_false (show ¬(x1,x2)=(x1,y2) from fun q=>e2 (Prod.mk.inj q).2)]
   have e2':(x2 == y2)=false:=zG.2 e2
   clear e2
   go_enter Tryz.func151,Tryz.ntmps151
   go_wp2_with fail
   go_region_with (first
    | (go_at_call 176;refine(jF false _).mono ?_;rintro e w2 ⟨rfl,hb⟩;have hb':zO w w2:=zS.drew.trans hb)
    | (go_at_call 174;refine(HPH.out false _ hb').mono ?_;rintro e w3 ⟨rfl,hE⟩))
   all_goals exact bodyPost_end (results_none rfl _ _ _) rfl ⟨rfl,hE⟩
 ·rw[decide_eq_false (show ¬(x1,x2)=(y1,y2) from fun q=>e1 (Prod.mk.inj q).1)]
  have e1':(x1 == y1)=false:=zG.2 e1
  clear e1
  go_enter Tryz.func151,Tryz.ntmps151
  go_wp2_with fail
  go_region_with (first
   | (go_at_call 176;refine(jF false _).mono ?_;rintro e w2 ⟨rfl,hb⟩;have hb':zO w w2:=zS.drew.trans hb)
   | (go_at_call 174;refine(HPH.out false _ hb').mono ?_;rintro e w3 ⟨rfl,hE⟩))
  all_goals exact bodyPost_end (results_none rfl _ _ _) rfl ⟨rfl,hE⟩
variable {B:Nat} {w w':World} {bl br:Nat} {vp vcs vsd:Value} {C D:Nat->Nat} {T:Nat->Value × Value} {h h':Hp}
theorem ZR (k n:Int) (w:World) :
 Calls Tryz.prog 177 #[.agg #[zI k,zI n]] w fun e w'=>e=.returned (.bool (decide (n=0/\(k=0\/k=1))))/\zO w w':=by
 have hA:zO w (w.alloc (.cells #[.int .i64 k,.int .i64 n] 86)):=zR _ _
 have rx:=xJ w 86 (.int .i64 k) (.int .i64 n)
 by_cases hz:k=0/\n=0
 ·obtain⟨rfl,rfl⟩:=hz
  go_enter Tryz.func177,Tryz.ntmps177
  go_wp2_with fail
  go_region
  go_wp2
  go_ret
  exact⟨zo (by simp),hA.drew⟩
 by_cases hn:n=0
 ·subst hn
  have hk:(k == 0)=false:=zG.2 (fun q=>hz ⟨q,rfl⟩)
  have U9:¬k=0:=fun q=>hz ⟨q,rfl⟩
  clear hz
  by_cases h1:k=1
  ·subst h1
   clear hk U9
   go_enter Tryz.func177,Tryz.ntmps177
   go_wp2_with fail
   go_region_with (go_at_call 175;refine(jn _ _).mono ?_;rintro e w2 ⟨rfl,hb⟩;obtain⟨⟨t0,t1⟩,_⟩:=zZ (yp hb rx))
   all_goals
    go_wp2
    go_ret
    exact⟨zo (by simp),hA.drew.trans (hb.mono hA.size)⟩
  ·have h1':(k == 1)=false:=zG.2 h1
   go_enter Tryz.func177,Tryz.ntmps177
   go_wp2_with fail
   go_region_with (go_at_call 175;refine(jn _ _).mono ?_;rintro e w2 ⟨rfl,hb⟩;obtain⟨⟨t0,t1⟩,_⟩:=zZ (yp hb rx))
   all_goals
    go_wp2
    go_ret
    exact⟨zo (by simp[U9,h1]),hA.drew.trans (hb.mono hA.size)⟩
 ·have hn':(n == 0)=false:=zG.2 hn
  clear hz
  go_enter Tryz.func177,Tryz.ntmps177
  go_wp2_with fail
  go_region_with (go_at_call 175;refine(jn _ _).mono ?_;rintro e w2 ⟨rfl,hb⟩;obtain⟨⟨t0,t1⟩,_⟩:=zZ (yp hb rx))
  all_goals
   go_wp2
   go_ret
   exact⟨zo (by simp[hn]),hA.drew.trans (hb.mono hA.size)⟩
theorem zaY (k:LV B w bl br vp vcs vsd C D T h) {j:Nat} (hn:h.now=(j:Int)) (hj:j<h.za.length) (hB:B<=w.heap.size) (a:Int) {vt:Value} {args:yH} (t:Tk (yu bl br vcs vsd C D T h.za.length) w vt args) (h1:0<args.length) :
 Calls Tryz.prog 153 #[zJ br 0,zI a,vt] w fun e w'=>e=.returned (.tuple #[])/\qY B bl br vp (yu bl br vcs vsd C D T h.za.length) w (if args[0].2=0/\(args[0].1=0\/args[0].1=1) then setH h {yJ h with pc:=a} else h) w':=by
 obtain⟨b,o,cap,rfl,c0,c1⟩:=t.cell h1
 rw[Nat.zero_mul,Nat.add_zero] at c0 c1
 have hz:(0:Int)<(args.length:Int):=by omega
 clear t
 generalize args[0]=x at *
 obtain⟨x1,x2⟩:=x
 have hm:=Tryz.go_running bl
 simp only at c0 c1 ⊢
 by_cases hx:x2=0/\(x1=0\/x1=1)
 ·rw[if_pos hx]
  have HZ:∀w,Calls Tryz.prog 177 #[.agg #[zI x1,zI x2]] w fun e w'=>e=.returned (.bool true)/\zO w w':=fun w=>by
   have:=ZR x1 x2 w
   rw[decide_eq_true hx] at this
   exact this
  have HJ:Hid (∀w1,zO w w1->Calls Tryz.prog 227 #[zJ bl 0] w1 fun e w'=>e=.returned (zJ (D j) 0)/\w'=w1):=fun w1 hb=>kJ (k.below hb) hn hj
  have HF:Hid (∀w1,zO w w1->((w1.cell? (zH br 0)=some vp/\w1.cell? (zH br 1)=some (.iface 98 (zJ bl 0)))/\w1.cell? (zH (D j) 1)=some (zI h.za[j].pc)/\w1.frozen? (zH (D j) 1)=false)/\qY B bl br vp (yu bl br vcs vsd C D T h.za.length) w (setH h {yJ h with pc:=a}) (w1.setCell (zH (D j) 1) (zI a))):=fun w1 hb=>by
   have k1:=k.below hb
   obtain⟨⟨y0,y1,_⟩,_⟩:=zq k1.rn
   obtain⟨⟨_,z1,_⟩,_,Wc,_⟩:=zq (k1.bd j hj)
   refine⟨⟨⟨y0,y1⟩,z1,Wc⟩,?_⟩
   have e:setH h {yJ h with pc:=a}={h with za:=h.za.set j {h.za[j] with pc:=a}}:=by
    unfold setH
    rw[xO hn hj,hn,Int.toNat_natCast]
   rw[e]
   obtain⟨k2,g2⟩:=k1.pc hj a
   refine qY.first hb hB ⟨_,_,_,_,_,k2,?_⟩
   simp only[List.length_set]
   exact g2
  clear k hx
  go_enter Tryz.func153,Tryz.ntmps153
  go_wp2_with (first
   | (go_at_call 177;refine(HZ _).mono ?_;rintro e w2 ⟨rfl,hb⟩;obtain⟨⟨⟨y0,y1⟩,z1,Wc⟩,hE⟩:=HF.out _ hb)
   | (go_at_call 227;refine(HJ.out _ hb).mono ?_;rintro e w' ⟨rfl,hw⟩;obtain rfl:=hw.symm))
  exact bodyPost_end (results_none rfl _ _ _) rfl ⟨rfl,hE⟩
 ·rw[if_neg hx]
  have HZ:∀w,Calls Tryz.prog 177 #[.agg #[zI x1,zI x2]] w fun e w'=>e=.returned (.bool false)/\zO w w':=fun w=>by
   have:=ZR x1 x2 w
   rw[decide_eq_false hx] at this
   exact this
  have HE:Hid (∀w1,zO w w1->qY B bl br vp (yu bl br vcs vsd C D T h.za.length) w h w1):=fun w1 hb=>⟨_,_,_,_,_,k.below hb,vV.of_below hB hb⟩
  clear k hx
  go_enter Tryz.func153,Tryz.ntmps153
  go_wp2_with (go_at_call 177;refine(HZ _).mono ?_;rintro e w2 ⟨rfl,hb⟩)
  exact bodyPost_end (results_none rfl _ _ _) rfl ⟨rfl,HE.out _ hb⟩
variable {B:Nat} {w w':World} {bl br:Nat} {vp vcs vsd:Value} {C D:Nat->Nat} {T:Nat->Value × Value} {h h':Hp}
theorem UZ {P:Program} (w:World) (dT sT ty elem:TypeId) (b o dLen dCap:Nat) (a:Addr) (sLen sCap:Nat) (cs:List Value)
 (hu:P.underlying dT=some (.slice elem)) (hs:(P.info? elem).map (·.size)=some 2) (hn:cs.length=Nat.min sLen dLen * 2)
 (hsrc:∀j v,cs[j]?=some v->w.cell? (a.add j)=some v) (hc:∀j,j<cs.length->(w.cell? (zH b (o+j))).isSome=true) (hf:∀j,j<cs.length->w.frozen? (zH b (o+j))=false) (h1:∀v∈cs,v.oneCell'=true) :
 (Builtin.copy_ #[dT,sT] ty #[zK b o dLen dCap,.slice (some a) sLen sCap]).run P w=.ok (goInt (Nat.min sLen dLen)) (w.setCells b o cs):=by
 have hl:=run_loadCells_list (P:=P) w a cs hsrc
 have hst:=run_storeCells_cells (P:=P) b o cs 0 w (by simpa using hc) (by simpa using hf) h1
 cases hq:P.info? elem with
 | none=>simp[hq] at hs
 | some i =>
  have hi:i.size=2:=by simpa [hq] using hs
  simp[Builtin.copy_,run_underlying hu,Builtin.lenOf,Builtin.firstCells,sizeOf,typeInfo,hq,hi,<-hn,hl,hst]
theorem Vv {P:Program} (w:World) (dT sT ty elem:TypeId) (d a:Option Addr) (dLen dCap sLen sCap:Nat) (hu:P.underlying dT=some (.slice elem)) (hs:(P.info? elem).map (·.size)=some 2) (hn:Nat.min sLen dLen=0) :
 (Builtin.copy_ #[dT,sT] ty #[.slice d dLen dCap,.slice a sLen sCap]).run P w=.ok (goInt 0) w:=by
 cases hq:P.info? elem with
 | none=>simp[hq] at hs
 | some i =>
  have hl:∀(x:Addr),(loadCells x 0).run P w=.ok #[] w:=fun x=>by simpa using run_loadCells_list (P:=P) w x [] (by simp)
  cases d <;> cases a <;> simp[Builtin.copy_,run_underlying hu,Builtin.lenOf,Builtin.firstCells,sizeOf,typeInfo,hq,hn,storeCells,hl]
theorem zk.over {B g n cap:Nat}:∀(ys pre zs:yH) {w:World},zk B w (zK g 0 n cap) (pre ++ zs)->ys.length<=zs.length->zk B (w.setCells g (pre.length * 2) (xW ys)) (zK g 0 n cap) (pre ++ ys ++ zs.drop ys.length)
 | [],pre,zs,_,h,_=>by simpa [xW,World.setCells] using h
 | (x,y) :: t,pre,zs,w,h,hl=>by
  obtain⟨z,zs',rfl⟩:∃z zs',zs=z :: zs':=by
   cases zs with
   | nil=>simp at hl
   | cons z zs'=>exact⟨z,zs',rfl⟩
  have h1:=h.set pre.length (by simp) x y
  have e:(pre ++ z :: zs').set pre.length (x,y)=(pre ++ [(x,y)]) ++ zs':=by simp
  rw[e] at h1
  have h2:=zk.over t (pre ++ [(x,y)]) zs' h1 (by simpa using hl)
  simp only[Nat.zero_add] at h2
  have e2:(pre ++ [(x,y)]).length * 2=pre.length * 2+1+1:=by simp;omega
  rw[e2] at h2
  have e3:pre ++ (x,y) :: t ++ (z :: zs').drop ((x,y) :: t).length=pre ++ [(x,y)] ++ t ++ zs'.drop t.length:=by simp
  rw[e3]
  have e4:xW ((x,y) :: t)=zI x :: zI y :: xW t:=by simp[xW]
  rw[e4]
  exact h2
theorem YD (b:Nat):∀(vs:List Value) (o:Nat) (w:World),(w.setCells b o vs).heap.size=w.heap.size
 | [],_,_=>rfl
 | v :: r,o,w=>by rw[World.setCells,YD b r];simp[World.setCell]
theorem Ya (b:Nat) {q:Nat} (hq:q≠b):∀(vs:List Value) (o:Nat) (w:World),(w.setCells b o vs).heap[q]?=w.heap[q]?
 | [],_,_=>rfl
 | v :: r,o,w=>by rw[World.setCells,Ya b hq r];exact Below.heap_setCell _ _ _ _ hq
theorem Yb {B b:Nat} {w:World}:∀(vs:List Value) (o:Nat) {W:World},Below B w W->B<=b->Below B w (W.setCells b o vs)
 | [],_,_,h,_=>h
 | v :: vs,o,_,h,hB=>Yb vs (o+1) (h.setCell (p:=zH b o) hB v) hB
theorem VE {B:Nat} (W:World) (vt:Value) (args:yH) (hM:yo W vt args) (g nt:Nat) (zT:zk B W (zK g 0 nt nt) (List.replicate nt (0,0))) (hn:args.length<=nt) :
 ∃W',(Builtin.copy_ #[32,32] 3 #[zK g 0 nt nt,vt]).run Tryz.prog W=.ok (goInt args.length) W'/\zk B W' (zK g 0 nt nt) (args ++ List.replicate (nt - args.length) (0,0))/\W'.heap.size=W.heap.size/\(∀q,q≠g->W'.heap[q]?=W.heap[q]?)/\∀{B':Nat} {w:World},Below B' w W->B'<=g->Below B' w W':=by
 obtain⟨i0,hi,jT,xF,kf⟩:=info_parts Tryz.infoVal
 have hs:(Tryz.prog.info? 86).map (·.size)=some 2:=by rw[hi];simp[xF]
 obtain⟨a,cap,rfl,hlm,hc⟩:=hM
 by_cases h0:args.length=0
 ·have e:args=[]:=List.eq_nil_of_length_eq_zero h0
  subst e
  refine⟨W,Vv W _ _ _ _ _ _ _ _ _ _ Tryz.underlying32 hs (by simp),by simpa using zT,rfl,fun _ _=>rfl,fun h _=>h⟩
 obtain⟨b,o,rfl,_⟩:=hc 0 (by omega)
 have hc2:∀i,(hi:i<args.length)->W.cell? (zH b (o+i * 2))=some (zI args[i].1)/\W.cell? (zH b (o+i * 2+1))=some (zI args[i].2):=fun i hi=>by
  obtain⟨b',o',Xw,q0,q1⟩:=hc i hi
  obtain⟨rfl,rfl⟩:b=b'/\o=o':=by injection Xw with e;injection e with e1 e2;exact⟨e1,e2⟩
  exact⟨q0,q1⟩
 have hmin:Nat.min args.length nt=args.length:=Nat.min_eq_left hn
 have hsp:∀j,j<nt * 2->(W.cell? (zH g (0+j))).isSome=true/\W.frozen? (zH g (0+j))=false:=by
  rcases zT with⟨q,_⟩ | ⟨g',off',cap',hv,_,_,_,_,hsp,_⟩
  ·cases q
  ·injection hv with e1 e2 e3
   injection e1 with e1
   injection e1 with e1 e4 _
   subst e1 e3 e4
   exact hsp
 have hr:=UZ (P:=Tryz.prog) W 32 32 3 86 g 0 nt nt ⟨b,o,none⟩ args.length cap (xW args) Tryz.underlying32 hs (by rw[xA,hmin]) (fun j v hv=>by
  have hj:j<(xW args).length:=(List.getElem?_eq_some_iff.1 hv).1
  rw[xA] at hj
  rw[Addr.add_lit]
  have WD:j / 2<args.length:=by omega
  have hj3:j / 2 * 2<=j/\j<j / 2 * 2+2:=by omega
  have hp:=YV args (j / 2) WD
  have hq:=hc2 (j / 2) WD
  generalize j / 2=i at *
  by_cases e:j=i * 2
  ·subst e
   rw[hp.1] at hv
   rw[<-hv]
   exact hq.1
  ·obtain rfl:j=i * 2+1:=by omega
   rw[hp.2] at hv
   rw[<-hv]
   exact hq.2)
  (fun j hj=>(hsp j (by rw[xA] at hj;omega)).1) (fun j hj=>(hsp j (by rw[xA] at hj;omega)).2) (KD args)
 rw[hmin] at hr
 refine⟨_,hr,?_,YD _ _ _ _,fun q hq=>Ya g hq _ _ _,fun hb hB=>Yb _ _ hb hB⟩
 have:=zk.over args [] (List.replicate nt (0,0)) zT (by simpa using hn)
 simpa using this
variable {B:Nat} {w w':World} {bl br:Nat} {vp vcs vsd:Value} {C D:Nat->Nat} {T:Nat->Value × Value} {h h':Hp}
theorem zaN (k:LV B w bl br vp vcs vsd C D T h) (hB:B<=w.heap.size) {ms:Ms} (hM:yD w vp ms) (a:Nat) (ha:a<ms.length) {vt:Value} {args:yH} (t:Tk (yu bl br vcs vsd C D T h.za.length) w vt args)
 (hal:(args.length:Int)=ms[a].1) (hat:ms[a].1<=ms[a].2.1/\ms[a].2.1<=4) (uZ:h.now<(h.za.length:Int)) (hsd:∀i,(hi:i<h.za.length)->h.za[i].zi<(h.za.length:Int)) (hl:h.za.length<=1000) (hbn:0<=h.born/\h.born<=30) :
 Calls Tryz.prog 154 #[zJ br 0,zI a,vt] w fun e w'=>e=.returned (.tuple #[])/\qY B bl br vp (yu bl br vcs vsd C D T h.za.length) w (uI ms h a args) w':=by
 obtain⟨⟨y0,y1,y2,y3,y4⟩,yf0,yf1,yf2,yf3,yf4⟩:=zq k.rn
 have hbr:=(k.lo .run trivial br rfl)
 by_cases hb:h.born=30
 ·have HE:Hid (qY B bl br vp (yu bl br vcs vsd C D T h.za.length) w (uI ms h a args) (w.setCell (zH br 4) (zI 3))):=by
   show qY _ _ _ _ _ _ _ _
   unfold uI
   rw[if_pos (by omega)]
   exact⟨_,_,_,_,_,k.num (h':=vZ h 3) (i:=4) (x:=3) rfl rfl rfl (jM k.rn (zI 3)),vV.set (p:=zH br 4) ⟨.run,trivial,rfl⟩ hbr.1 _⟩
  rw[hb] at y2
  clear k t hM hsd
  go_enter Tryz.func154,Tryz.ntmps154
  go_wp2
  exact bodyPost_ret (results_none rfl _ _ _) rfl ⟨rfl,HE.out⟩
 have hb':(h.born == 30)=false:=zG.2 hb
 obtain⟨ap,cp,qI,hlp,hms⟩:=id hM
 obtain⟨pb,po,vo,hap,p0,p1,p2,p3⟩:=hms a ha
 subst qI hap
 clear hms p3
 obtain⟨nt,hnt⟩:=Int.eq_ofNat_of_zero_le (show 0<=ms[a].2.1 by omega)
 rw[hnt] at p1
 have haz:(a:Int)<(ms.length:Int):=by omega
 obtain⟨i0,hi,jT,xF,kf⟩:=info_parts Tryz.infoVal
 have hnt4:nt<=4:=by omega
 have hmk:∀w:World,(Instr.makeSlice 32 (zI (nt:Int)) (zI (nt:Int))).run Tryz.prog w=.ok (zK w.heap.size 0 nt nt) (w.alloc (.cells (madeCells #[zI 0,zI 0] (nt * 2)) 86)):=by
  intro w
  have:=run_make (P:=Tryz.prog) w 32 86 i0 _ Tryz.underlying32 hi jT .i64 .i64 nt nt (by omega) (Int.le_refl _) (by rw[kf];omega) (by omega)
  simpa [xF,Value.cells] using this
 clear hi jT xF kf
 have hA:zO w (w.alloc (.cells (madeCells #[zI 0,zI 0] (nt * 2)) 86)):=zR _ _
 have mk:=ZT (B:=w.heap.size) w nt 86 zD (by omega)
 have hzA:(w.alloc (.cells (madeCells #[zI 0,zI 0] (nt * 2)) 86)).heap.size=w.heap.size+1:=by simp
 obtain⟨W3,hcp,JT,K5,_,xn⟩:=VE _ vt args (t.at_.below hA) w.heap.size nt mk (by omega)
 have B3:zO w W3:=xn hA zD
 rw[hzA] at K5
 clear xn hA mk
 have k3:=k.below B3
 obtain⟨⟨u0,u1,u2,u3,u4⟩,_⟩:=zq k3.rn
 -- the box of the body
 have N4:zO W3 (W3.alloc (.cells #[.int .i64 a,.int .i64 0,.slice (some ⟨w.heap.size,0,none⟩) nt nt,.slice none 0 0,.bool false] 186)):=zR _ _
 have r4:=jj W3 186 (.int .i64 a) (.int .i64 0) (.slice (some ⟨w.heap.size,0,none⟩) nt nt) (.slice none 0 0) (.bool false)
 have B4:zO w (W3.alloc (.cells #[.int .i64 a,.int .i64 0,.slice (some ⟨w.heap.size,0,none⟩) nt nt,.slice none 0 0,.bool false] 186)):=B3.trans (N4.mono (by omega))
 have HE4:=zcv (cl:=⟨(a:Int),0,args ++ List.replicate (nt - args.length) (0,0),[],h.now,false⟩) k B4 hB (d:=W3.heap.size) (by omega) (vt:=zK w.heap.size 0 nt nt) rfl rfl uZ hsd r4 ((JT.below N4).mono hB) (fun q e=>by have e':some w.heap.size=some q:=e;injection e' with e';omega) hl
 have hmt:=Tryz.go_enter bl
 have HFIN:Hid (∀(w5:World) (xt:Value) (C' D':Nat->Nat) (T':Nat->Value × Value),LV B w5 bl br (zK pb po ms.length cp) xt vsd C' D' T' {h with za:=h.za ++ [⟨(a:Int),0,args ++ List.replicate (nt - args.length) (0,0),[],h.now,false⟩],now:=(h.za.length:Int)}->vV B (yu bl br vcs vsd C D T h.za.length) (yu bl br xt vsd C' D' T' (h.za.length+1)) w w5->qY B bl br (zK pb po ms.length cp) (yu bl br vcs vsd C D T h.za.length) w (uI ms h a args) (w5.setCell (zH br 2) (zI (h.born+1)))):=by
  intro w5 xt C' D' T' k5 g5
  have e:uI ms h a args={h with za:=h.za ++ [⟨(a:Int),0,args ++ List.replicate (nt - args.length) (0,0),[],h.now,false⟩],now:=(h.za.length:Int),born:=h.born+1}:=by
   unfold uI
   rw[if_neg (by omega),Int.toNat_natCast,yn ha,hnt,Int.toNat_natCast]
  rw[e]
  refine⟨xt,vsd,C',D',T',k5.num (i:=2) (x:=h.born+1) rfl rfl rfl (uw k5.rn (zI (h.born+1))),g5.trans ?_⟩
  have hl5:(h.za ++ [(⟨(a:Int),0,args ++ List.replicate (nt - args.length) (0,0),[],h.now,false⟩:Cl)]).length=h.za.length+1:=by simp
  simp only[hl5]
  exact vV.set (p:=zH br 2) ⟨.run,trivial,rfl⟩ hbr.1 _
 have hwb:IntKind.i64.wrap (h.born+1)=h.born+1:=by rw[IntKind.wrap_i64];omega
 obtain⟨ta,tc,htv,_⟩:=id t.at_
 subst htv
 have hz3':br<W3.heap.size:=by omega
 clear k t hM k3 hsd r4 JT N4 B4 p0 p2 hnt hat hal K5 hzA
 go_enter Tryz.func154,Tryz.ntmps154
 go_wp2_with (go_at_call 223;refine HE4.mono ?_;rintro e w5 ⟨rfl,xt,C',D',T',k5,g5⟩;obtain⟨⟨x0,x1,x2,x3,x4⟩,xf0,xf1,xf2,xf3,xf4⟩:=zq k5.rn)
 exact bodyPost_end (results_none rfl _ _ _) rfl ⟨rfl,HFIN.out _ _ _ _ _ k5 g5⟩
theorem Ur (w:World) (d:Nat) (m pc s:Int) (at_ uS:Option Addr) (nt ct ns cs:Nat) (zv:Bool) (hr:w.rowIs d 186 5 (kq (zI m) (zI pc) (.slice at_ nt ct) (.slice uS ns cs) (.bool zv))) :
 Calls Tryz.prog 89 #[zJ d 0,zI s] w fun e w'=>e=.returned (.agg #[zI m,zI pc,.slice at_ nt ct,.slice uS ns cs,zI s,.bool zv])/\zO w w':=by
 have hA:zO w (w.alloc (.cells #[.int .i64 0,.int .i64 0,.slice none 0 0,.slice none 0 0,.int .i64 0,.bool false] 96)):=zR _ _
 have r1:=wb w 96 (.int .i64 0) (.int .i64 0) (.slice none 0 0) (.slice none 0 0) (.int .i64 0) (.bool false)
 have rd:=yp hA hr
 have hdl:=hr.lt
 clear hr
 go_enter Tryz.func89,Tryz.ntmps89
 go_upto_region 1 with fail
 generalize w.alloc (.cells #[.int .i64 0,.int .i64 0,.slice none 0 0,.slice none 0 0,.int .i64 0,.bool false] 96)=W at *
 obtain⟨⟨z0,z1,z2,z3,z4⟩,_⟩:=zq rd
 obtain⟨⟨x0,x1,x2,x3,x4,x5⟩,xf0,xf1,xf2,xf3,xf4,xf5⟩:=jS r1
 have R9:=zar (zaq (zap (zao (zan (zam r1 (zI m)) (zI pc)) (.slice at_ nt ct)) (.slice uS ns cs)) (zI s)) (.bool zv)
 have B9:=(((((hA.setCell (p:=zH w.heap.size 0) zD (zI m)).setCell (p:=zH w.heap.size 1) zD (zI pc)).setCell (p:=zH w.heap.size 2) zD (.slice at_ nt ct)).setCell (p:=zH w.heap.size 3) zD (.slice uS ns cs)).setCell (p:=zH w.heap.size 4) zD (zI s)).setCell (p:=zH w.heap.size 5) zD (.bool zv)
 clear rd
 go_region
 all_goals
  go_wp2
  obtain⟨⟨q0,q1,q2,q3,q4,q5⟩,_⟩:=jS R9
  generalize (((((W.setCell (zH w.heap.size 0) (zI m)).setCell (zH w.heap.size 1) (zI pc)).setCell (zH w.heap.size 2) (.slice at_ nt ct)).setCell (zH w.heap.size 3) (.slice uS ns cs)).setCell (zH w.heap.size 4) (zI s)).setCell (zH w.heap.size 5) (.bool zv)=W9 at *
  exact bodyPost_ret (v:=.agg #[zI m,zI pc,.slice at_ nt ct,.slice uS ns cs,zI s,.bool zv]) (by simp[results,Tryz.results89,go_sem,q0,q1,q2,q3,q4,q5]) rfl ⟨rfl,B9.drew⟩
theorem zbI {ops:Array Oper} {o:Oper} {act:Act} {K:Act->World->Prop} {Q:Exit->Act->World->Prop} {E:Prop} (w:World) (hgd:o.guard=none) (s y:Operand)
 (ho:o.op=.call {callee:=.builtin .append,args:=#[s,y],argTypes:=#[39,39]}) (B:Nat) (v:Value) (L:List (Cl × Value × Value)) (x:Cl × Value × Value) (hs:act.eval s=v) (H c:Nat) (hy:act.eval y=zK H 0 1 c) (zy:qr B w v L)
 (h1:x.2.1.oneCell'=true) (h2:x.2.2.oneCell'=true) (hx:∀j u,(uQ x)[j]?=some u->w.cell? (zH H j)=some u) (hL:L.length<=900000) (hB:B<=w.heap.size)
 (h:∀v' w',qr B w' v' (L ++ [x])->w.grownBy w' v.ownBlock->(v'.ownBlock=v.ownBlock\/v'.ownBlock=some w.heap.size)->K (act.put o.dst v') w') :
 if Region.wanted o (yielded ops act.tmps)=true then Oper.wp Tryz.prog o act w K Q else E:=by
 obtain⟨v',w',hr,h3,h4,h5⟩:=Z8 (ty:=o.type) zy x h1 h2 H c hx hL hB
 rw[if_pos (by simp[Region.wanted,hgd])]
 unfold Oper.wp execOp
 simp only[ho,resolve,invoke,builtin,Sem.run_bind,Sem.run_pure,Result.andThen_ok,List.map_toArray,List.map_cons,List.map_nil,hs,hy,hr]
 exact h v' w' h3 h4 h5
variable {B:Nat} {w w':World} {bl br:Nat} {vp vcs vsd:Value} {C D:Nat->Nat} {T:Nat->Value × Value} {cs:List Cl} {now:Int}
def noS (c:Cl):Cl:={c with zi:=-1}
theorem zew (cs:List Cl) {q:Nat} (hq:q<cs.length):(cs.take (q+1)).map noS=(cs.take q).map noS ++ [noS cs[q]]:=by
 rw[<-List.take_append_getElem hq,List.map_append]
 rfl
def Ze (cs:List Cl) (q:Nat):List Cl:=(List.range cs.length).map fun i=>if i<q then cs.getD i Cl.none else noS (cs.getD i Cl.none)
theorem vK (cs:List Cl) (q:Nat):(Ze cs q).length=cs.length:=by simp[Ze]
theorem ZA (cs:List Cl) (q:Nat) {i:Nat} (hi:i<cs.length):(Ze cs q)[i]'(by rw[vK];exact hi)=if i<q then cs[i] else noS cs[i]:=by
 simp[Ze,hi]
theorem zbo (cs:List Cl):Ze cs cs.length=cs:=by
 refine List.ext_getElem (vK _ _) fun i h1 h2=>?_
 rw[ZA cs _ h2,if_pos h2]
theorem zbp (cs:List Cl):cs.map noS=Ze cs 0:=by
 refine List.ext_getElem (by rw[vK];simp) fun i h1 h2=>?_
 have hi:i<cs.length:=by simpa using h1
 rw[ZA cs 0 hi,if_neg yB]
 simp
theorem zcL (cs:List Cl) {q:Nat} (hq:q<cs.length):(Ze cs q).set q {(Ze cs q)[q]'(by rw[vK];exact hq) with zi:=cs[q].zi}=Ze cs (q+1):=by
 refine List.ext_getElem (by rw[List.length_set,vK,vK]) fun i h1 h2=>?_
 have hi:i<cs.length:=by rw[vK] at h2;exact h2
 rw[ZA cs (q+1) hi]
 by_cases e:q=i
 ·subst e
  rw[List.getElem_set_self,ZA cs q hi,if_neg (Nat.lt_irrefl _),if_pos (Nat.lt_succ_self _)]
  rfl
 ·rw[List.getElem_set_ne e,ZA cs q hi]
  by_cases e2:i<q
  ·rw[if_pos e2,if_pos (by omega)]
  ·rw[if_neg e2,if_neg (by omega)]
theorem LH.ptr (k:LH B w bl vcs C D T cs now) (hp:0<cs.length):∃g off cap,vcs=zK g off cs.length cap/\cs.length<=cap/\∀i,i<cs.length->w.cell? (zH g (off+i))=some (zJ (C i) 0):=by
 obtain⟨_,hr⟩:=k.row
 rcases hr with⟨_,e⟩ | ⟨g,off,cap,hv,_,_,hl,_,_,hx⟩
 ·omega
 ·refine⟨g,off,cap,hv,hl,fun i hi=>?_⟩
  have:=hx i (by simp[wY];exact hi)
  simpa [wY] using this
theorem J3 (k:LH B w bl vcs C D T cs now) (a:Int) (h0:-1<=a) (h1:a<(cs.length:Int)) :
 Calls Tryz.prog 98 #[zJ bl 0,zI a] w fun e w'=>e=.returned (jd C a)/\w'=w:=by
 by_cases ha:a=-1
 ·subst ha
  rw[vr (by decide)]
  go_enter Tryz.func98,Tryz.ntmps98
  go_wp2
  go_ret
  exact⟨rfl,rfl⟩
 ·obtain⟨j,rfl⟩:=Int.eq_ofNat_of_zero_le (show 0<=a by omega)
  have hj:j<cs.length:=by omega
  have qF:((j:Int) == -1)=false:=zG.2 ha
  rw[u9]
  obtain⟨⟨x0,x1⟩,_⟩:=zZ k.hp
  obtain⟨g,off,cap,hv,hl,hx⟩:=k.ptr (by omega)
  subst hv
  have z:=hx j hj
  clear hx k
  go_enter Tryz.func98,Tryz.ntmps98
  go_wp2
  go_ret
  exact⟨rfl,rfl⟩
end Go.Proofs.YtbjgjjkgfnfejaaGreatDoor
