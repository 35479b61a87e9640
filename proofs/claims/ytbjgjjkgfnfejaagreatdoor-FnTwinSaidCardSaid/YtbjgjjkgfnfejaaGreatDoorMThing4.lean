/-
  Calls of a machine as things of their own: thingOfFrame. (Written by mkmt4.py.)
-/
import Derived.Test.YtbjgjjkgfnfejaaGreatDoorMThing3
namespace Go.Proofs.YtbjgjjkgfnfejaaGreatDoor
open Go.RowKit
def zas (m:Mc) (i k:Nat):Int:=if 0<k then XJ m (i:Int) ((k:Int) - 1) else jQ m (pgAt m (i:Int)).base
def uj (m:Mc) (i k:Nat) (f:Fr):Cl:=⟨f.m,f.pc,f.zg.map (j6 (ue m)),f.zf.map (j6 (ue m)),zas m i k,false⟩
set_option maxRecDepth 100000 in
set_option maxHeartbeats 4000000 in
theorem XS (vp vo vt vs vl:Value) (m:Mc) (i k:Nat) (F:Fr) (wS:World) (h:Pl wS vp vo vt vs vl m) (hi:i<m.zd.length) (hk:k<m.zd[i].zh.length) (hF:m.zd[i].zh[k]=F)
 (hbs:(m.zd[i].base == -1 || xg m m.zd[i].base)=true) (hl:F.zg.length<=1000/\F.zf.length<=1000) (hos:(∀q,(hq:q<F.zg.length)->F.zg[q].1=2->xg m F.zg[q].2=true)/\(∀q,(hq:q<F.zf.length)->F.zf[q].1=2->xg m F.zf[q].2=true)) :
 Calls Tryz.prog 94 #[.agg (zE vp vo vt vs m ++ [vl,zI (yd m.zd:Int)]).toArray,zI (i:Int),zI (k:Int)] wS fun e w'=>∃u1 u2,e=.returned (.agg #[zI F.m,zI F.pc,u1,u2,zI (zas m i k),.bool false]) /\
  zk wS.heap.size w' u1 (F.zg.map (j6 (ue m)))/\zk wS.heap.size w' u2 (F.zf.map (j6 (ue m)))/\(∀g,u1.ownBlock=some g->u2.ownBlock≠some g)/\zO wS w':=by
 have U8:=h
 have HOS:Hid ((∀q,(hq:q<F.zg.length)->F.zg[q].1=2->xg m F.zg[q].2=true)/\(∀q,(hq:q<F.zf.length)->F.zf[q].1=2->xg m F.zf[q].2=true)):=hos
 clear hos
 obtain⟨hM,hL,hN,hTn⟩:=h
 obtain⟨ap,cp,qI,hlp,hcp⟩:=id hM.p
 obtain⟨ao,co,j5⟩:=hM.o.shape
 obtain⟨at',ct,jz,hlt',hct⟩:=id hM.t
 obtain⟨as',cs,km⟩:=hM.s.shape
 obtain⟨al,cl,XB,hll,hcl⟩:=id hL
 subst qI j5 jz km XB
 unfold zE
 simp only[List.cons_append,List.nil_append]
 obtain⟨bp,op,vf,hap,xE⟩:=hcp i hi
 subst hap
 obtain⟨af,cf,Q9,hlf,hcf⟩:=id xE.f
 subst Q9
 obtain⟨bf,of',v1,v2,haf,hfr⟩:=hcf k hk
 subst haf
 rw[hF] at hfr
 have g0:=xE.c0
 have g1:=xE.c1
 obtain⟨d0,d1,d2,d3,d4,dt,ds⟩:=hfr
 obtain⟨a1,k1,e1⟩:=dt.shape
 obtain⟨a2,k2,e2⟩:=ds.shape
 subst e1 e2
 have hsu:=xy hi
 have hsl:=kQ m.zd (k:=i+1) hi
 have HS0:Hid (zas m i k=if 0<k then XJ m (i:Int) ((k:Int) - 1) else jQ m m.zd[i].base):=by show _=_;unfold zas;rw[kX hi]
 obtain⟨nf,hnf⟩:∃nf,m.zd[i].zh.length=nf:=⟨_,rfl⟩
 rw[hnf] at g1 hsu hk
 obtain⟨bs,hbe⟩:∃bs,m.zd[i].base=bs:=⟨_,rfl⟩
 rw[hbe] at g0 HS0 hbs
 have HBS:Hid ((bs == -1 || xg m bs)=true):=hbs
 have hnb:nf<=1099511627776:=by omega
 have hiz:(i:Int)<(m.zd.length:Int):=by omega
 have uW:(k:Int)<(nf:Int):=by omega
 clear hcl hct hcp hcf xE hF hnf hsu hsl hbe hbs hlf
 have HRV:Hid (∀(W:World) (v:Value) (l:yH),zO wS W->yo W v l->l.length<=1000->(∀q,(hq:q<l.length)->l[q].1=2->xg m l[q].2=true)->Calls Tryz.prog 133 #[v,.func (.func 134) #[.agg #[zI m.cells,zK bp op m.zd.length cp,.slice ao m.order.length co,zI m.now,.slice at' m.ze.length ct,zI m.born,.slice as' m.zm.length cs,zI m.code,.slice al (xV m.zd).length cl,zI (yd m.zd:Int)]] #[]] W fun e w'=>∃v',e=.returned v'/\zk W.heap.size w' v' (l.map (j6 (ue m)))/\zO W w'):=fun W v l hW hv hl ho=>by
  have:=KJ _ _ _ _ _ m v l W (U8.below hW) hv hl ho
  unfold zE at this
  simpa only [List.cons_append,List.nil_append] using this
 go_enter Tryz.func94,Tryz.ntmps94
 go_upto_region 1 with fail
 refine ym (fun W=>zO wS W/\Bx W wS.heap.size 152 [.int .i64 m.cells,.slice (some ⟨bp,op,none⟩) m.zd.length cp,.slice ao m.order.length co,.int .i64 m.now,.slice at' m.ze.length ct,.int .i64 m.born,.slice as' m.zm.length cs,.int .i64 m.code,.slice al (xV m.zd).length cl,.int .i64 (yd m.zd:Int)]/\Bx W (wS.heap.size+1) 96 [.int .i64 0,.int .i64 0,.slice none 0 0,.slice none 0 0,.int .i64 0,.bool false]) ⟨(zR _ _).alloc (by simp) _,(Bx.new wS _ _).alloc _,Bx.newAt _ _ _ (by simp)⟩ ?_
 rintro W1 ⟨B1,x1',y1'⟩
 have z1:=B1.size
 obtain⟨⟨x0,x1,x2,x3,x4,x5,x6,x7,x8,x9⟩,_⟩:=Yf x1'
 replace g0:=zc B1 g0
 replace g1:=zc B1 g1
 replace d0:=zc B1 d0
 replace d1:=zc B1 d1
 replace d2:=zc B1 d2
 replace d3:=zc B1 d3
 replace d4:=zc B1 d4
 go_upto_region 2 with fail
 refine ym (fun W=>zO W1 W/\Bx W W1.heap.size 75 [.int .i64 F.m,.int .i64 F.pc,.int .i64 F.twin,.slice a1 F.zg.length k1,.slice a2 F.zf.length k2]) ⟨zR _ _,Bx.new _ _ _⟩ ?_
 rintro W2 ⟨t2,f2⟩
 have B2:=B1.trans (t2.mono z1)
 have x2':=x1'.below t2
 have y2':=y1'.below t2
 replace g0:=zc t2 g0
 replace g1:=zc t2 g1
 have hyl:=y1'.lt
 have z2:=B2.size
 clear t2 x1' y1' B1 d0 d1 d2 d3 d4 x0 x1 x2 x3 x4 x5 x6 x7 x8 x9
 obtain⟨⟨x0,x1,x2,x3,x4,x5,x6,x7,x8,x9⟩,_⟩:=Yf x2'
 have HC:=jq (W:=W2) fun W' (hW:zO W2 W')=>ZU _ _ _ _ _ m bs W' ((U8.below B2).below hW) HBS.out
 unfold zE at HC
 simp only[List.cons_append,List.nil_append] at HC
 obtain⟨cb,hcb⟩:∃cb,jQ m bs=cb:=⟨_,rfl⟩
 rw[hcb] at HC HS0
 clear hcb
 have L0:=Gr.cell x0
 have L1:=Gr.cell x1
 have L2:=Gr.cell x2
 have L3:=Gr.cell x3
 have L4:=Gr.cell x4
 have L5:=Gr.cell x5
 have L6:=Gr.cell x6
 have L7:=Gr.cell x7
 have L8:=Gr.cell x8
 have L9:=Gr.cell x9
 have G0:=Gr.cell g0
 have G1:=Gr.cell g1
 clear x0 x1 x2 x3 x4 x5 x6 x7 x8 x9 g0 g1
 refine WQ.region (by kernel_rfl) (by kernel_rfl) ?_
 iterate 10 (refine WQ.step (fun K hK=>?_);go_simp;first
  | (with_reducible refine hK _ ?_;clear hK K)
  | (with_reducible refine qu ?_;refine hK _ ?_;clear hK K)
  | (simp(contextual:=true) only [L0,L1,L2,L3,L4,L5,L6,L7,L8,L9,G0,Result.andThen_ok,true_and];with_reducible refine qu ?_;refine hK _ ?_;clear hK K)
  | (with_reducible refine yE HC ?_;refine hK _ ?_;clear hK K))
 refine WQ.nil ?_
 intro W3 hG3
 have B3:=B2.trans (hG3.to.mono z2)
 have x3':=x2'.below hG3.to
 have y3':=y2'.below hG3.to
 have f3:=f2.below hG3.to
 have z3:=B3.size
 clear hG3 HC L0 L1 L2 L3 L4 L5 L6 L7 L8 L9 G0 G1 x2' y2' f2 B2 z2
 by_cases h0:0<k
 case neg =>
  have hkzero:k=0:=by omega
  have HSD:Hid (zas m i k=cb):=by show _=_;rw[HS0.out,if_neg h0]
  clear HS0
  subst hkzero
  have B4:=B3
  have x4':=x3'
  have y4:=y3'
  have f4:=f3
  clear B3 x3' y3' f3
  obtain⟨⟨x0,x1,x2,x3,x4,x5,x6,x7,x8,x9⟩,_⟩:=Yf x4'
  have q0:=f4.cell 0 rfl
  have q1:=f4.cell 1 rfl
  have q3:=f4.cell 3 rfl
  have q4:=f4.cell 4 rfl
  go_upto_region 5 with fail
  refine Z2 [[],[0],[],[2],[],[4],[],[6],[4,5,6,7],[],[9],[],[11],[4,5,6,7,8,9,10,11,12],[],[0,1,2,3,4,5,6,7,8,9,10,11,12,13,14],[0,1,2,3,4,5,6,7,8,9,10,11,12,13,14,15]] [[0],[1],[2],[3],[4],[5],[6],[7],[8],[9],[10],[11],[12],[8,13],[14],[8,13,15],[]] [[],[],[],[],[],[],[],[],[],[],[],[],[],[],[],[],[]] [jy (zJ W1.heap.size 0),jy (zI F.m),jy (zJ W1.heap.size 1),jy (zI F.pc),jy (zJ W1.heap.size 3),jy (.slice a1 F.zg.length k1),jy (.agg #[zI m.cells,zK bp op m.zd.length cp,.slice ao m.order.length co,zI m.now,.slice at' m.ze.length ct,zI m.born,.slice as' m.zm.length cs,zI m.code,.slice al (xV m.zd).length cl,zI (yd m.zd:Int)]),jy (.func (.func 134) #[.agg #[zI m.cells,zK bp op m.zd.length cp,.slice ao m.order.length co,zI m.now,.slice at' m.ze.length ct,zI m.born,.slice as' m.zm.length cs,zI m.code,.slice al (xV m.zd).length cl,zI (yd m.zd:Int)]] #[]),Ws 8 (fun(x:Value) l=>l=[x]) (fun x w1=>(∃a c,x=.slice a F.zg.length c)/\zk W3.heap.size w1 x (F.zg.map (j6 (ue m)))),jy (zJ W1.heap.size 4),jy (.slice a2 F.zf.length k2),jy (.agg #[zI m.cells,zK bp op m.zd.length cp,.slice ao m.order.length co,zI m.now,.slice at' m.ze.length ct,zI m.born,.slice as' m.zm.length cs,zI m.code,.slice al (xV m.zd).length cl,zI (yd m.zd:Int)]),jy (.func (.func 134) #[.agg #[zI m.cells,zK bp op m.zd.length cp,.slice ao m.order.length co,zI m.now,.slice at' m.ze.length ct,zI m.born,.slice as' m.zm.length cs,zI m.code,.slice al (xV m.zd).length cl,zI (yd m.zd:Int)]] #[]),Ws 13 (fun(x:Value × Value) l=>l=[x.1,x.2]) (fun x w1=>(∃a c,x.2=.slice a F.zf.length c)/\(∀g,x.1.ownBlock=some g->x.2.ownBlock≠some g)/\zk W3.heap.size w1 x.2 (F.zf.map (j6 (ue m)))),jy (zI cb),X7 fun l=>∃u1 u2:Value,l=[u1,u2,.agg #[zI F.m,zI F.pc,u1,u2,zI cb,.bool false]],X7 fun _=>True] 16 rfl (by kernel_rfl) (by kernel_rfl) (by kernel_rfl) ?_ ?_
  ·refine zl (zl (zl (zl (zl (zl (zl (zl (zl (zl (zl (zl (zl (zl (zl (zl (jE) ?_) ?_) ?_) ?_) ?_) ?_) ?_) ?_) ?_) ?_) ?_) ?_) ?_) ?_) ?_) ?_
   ·intro a w val own hB hf zy hk
    have s7:=hf.at (d:=7) (v:=zJ W1.heap.size 0) (by kernel_rfl) rfl
    exact zC (v:=zJ W1.heap.size 0) hB
   ·intro a w val own hB hf zy hk
    have s35:=zL hk 0 35
    have cq:=zc hB q0
    exact zC (v:=zI F.m) hB
   ·intro a w val own hB hf zy hk
    have s7:=hf.at (d:=7) (v:=zJ W1.heap.size 0) (by kernel_rfl) rfl
    exact zC (v:=zJ W1.heap.size 1) hB
   ·intro a w val own hB hf zy hk
    have s37:=zL hk 2 37
    have cq:=zc hB q1
    exact zC (v:=zI F.pc) hB
   ·intro a w val own hB hf zy hk
    have s7:=hf.at (d:=7) (v:=zJ W1.heap.size 0) (by kernel_rfl) rfl
    exact zC (v:=zJ W1.heap.size 3) hB
   ·intro a w val own hB hf zy hk
    have s39:=zL hk 4 39
    have cq:=zc hB q3
    exact zC (v:=.slice a1 F.zg.length k1) hB
   ·intro a w val own hB hf zy hk
    have s3:=hf.at (d:=3) (v:=zJ wS.heap.size 0) (by kernel_rfl) rfl
    have cx0:=zc hB x0
    have cx1:=zc hB x1
    have cx2:=zc hB x2
    have cx3:=zc hB x3
    have cx4:=zc hB x4
    have cx5:=zc hB x5
    have cx6:=zc hB x6
    have cx7:=zc hB x7
    have cx8:=zc hB x8
    have cx9:=zc hB x9
    exact zC (v:=.agg #[zI m.cells,zK bp op m.zd.length cp,.slice ao m.order.length co,zI m.now,.slice at' m.ze.length ct,zI m.born,.slice as' m.zm.length cs,zI m.code,.slice al (xV m.zd).length cl,zI (yd m.zd:Int)]) hB
   ·intro a w val own hB hf zy hk
    have s41:=zL hk 6 41
    exact zC (v:=.func (.func 134) #[.agg #[zI m.cells,zK bp op m.zd.length cp,.slice ao m.order.length co,zI m.now,.slice at' m.ze.length ct,zI m.born,.slice as' m.zm.length cs,zI m.code,.slice al (xV m.zd).length cl,zI (yd m.zd:Int)]] #[]) hB
   ·intro a w val own hB hf zy hk
    have s40:=zL hk 5 40
    have s42:=zL hk 7 42
    have hB':=B4.trans (hB.mono B4.size)
    have K6:=hB.size
    refine uG hB rfl rfl (by unfold execOp;go_simp) ((HRV.out w _ F.zg hB' (dt.below hB') hl.1 HOS.out.1).mono ?_)
    rintro e w' ⟨v',rfl,r1,hb'⟩
    refine⟨_,rfl,hb',v',rfl,Made.new fun w1 hs _ hr=>⟨?_,?_⟩⟩
    ·obtain⟨a0,c0,e0,_⟩:=r1.slice
     exact⟨a0,c0,by simpa using e0⟩
    ·exact(r1.kept hs fun g e=>hr g (r1.lt g e).1 (r1.lt g e).2).mono K6
   ·intro a w val own hB hf zy hk
    have s7:=hf.at (d:=7) (v:=zJ W1.heap.size 0) (by kernel_rfl) rfl
    exact zC (v:=zJ W1.heap.size 4) hB
   ·intro a w val own hB hf zy hk
    have s44:=zL hk 9 44
    have cq:=zc hB q4
    exact zC (v:=.slice a2 F.zf.length k2) hB
   ·intro a w val own hB hf zy hk
    have s3:=hf.at (d:=3) (v:=zJ wS.heap.size 0) (by kernel_rfl) rfl
    have cx0:=zc hB x0
    have cx1:=zc hB x1
    have cx2:=zc hB x2
    have cx3:=zc hB x3
    have cx4:=zc hB x4
    have cx5:=zc hB x5
    have cx6:=zc hB x6
    have cx7:=zc hB x7
    have cx8:=zc hB x8
    have cx9:=zc hB x9
    exact zC (v:=.agg #[zI m.cells,zK bp op m.zd.length cp,.slice ao m.order.length co,zI m.now,.slice at' m.ze.length ct,zI m.born,.slice as' m.zm.length cs,zI m.code,.slice al (xV m.zd).length cl,zI (yd m.zd:Int)]) hB
   ·intro a w val own hB hf zy hk
    have s46:=zL hk 11 46
    exact zC (v:=.func (.func 134) #[.agg #[zI m.cells,zK bp op m.zd.length cp,.slice ao m.order.length co,zI m.now,.slice at' m.ze.length ct,zI m.born,.slice as' m.zm.length cs,zI m.code,.slice al (xV m.zd).length cl,zI (yd m.zd:Int)]] #[]) hB
   ·intro a w val own hB hf zy hk
    have s45:=zL hk 10 45
    have s47:=zL hk 12 47
    obtain⟨k8,x8,e8,m8⟩:=hk 8 (show 8∈[4,5,6,7,8,9,10,11,12] by decide)
    have v8:=qy e8
    obtain⟨_,r8⟩:=m8.here hB
    clear k8 e8
    have hB':=B4.trans (hB.mono B4.size)
    have K6:=hB.size
    refine uG hB rfl rfl (by unfold execOp;go_simp) ((HRV.out w _ F.zf hB' (ds.below hB') hl.2 HOS.out.2).mono ?_)
    rintro e w' ⟨v',rfl,r1,hb'⟩
    refine⟨_,rfl,hb',(x8,v'),?_,Made.new fun w1 hs _ hr=>⟨?_,fun g e e2=>?_,?_⟩⟩
    ·show [val 8,_]=_
     rw[v8]
     rfl
    ·obtain⟨a0,c0,e0,_⟩:=r1.slice
     exact⟨a0,c0,by simpa using e0⟩
    ·have l1:=(r8.lt g e).2
     have l2:=(r1.lt g e2).1
     omega
    ·exact(r1.kept hs fun g e=>hr g (r1.lt g e).1 (r1.lt g e).2).mono K6
   ·intro a w val own hB hf zy hk
    have s8:=hf.at (d:=8) (v:=zI cb) (by kernel_rfl) rfl
    exact zC (v:=zI cb) hB
   ·intro a w val own hB hf zy hk
    have s36:=zL hk 1 36
    have s38:=zL hk 3 38
    obtain⟨k8,x8,e8,m8⟩:=hk 8 (show 8∈[0,1,2,3,4,5,6,7,8,9,10,11,12,13,14] by decide)
    have v8:=qy e8
    have s43:=k8 43 rfl
    rw[v8] at s43
    obtain⟨⟨a8,c8,q8⟩,r8⟩:=m8.here hB
    clear k8 e8
    obtain⟨k13,x13,e13,m13⟩:=hk 13 (show 13∈[0,1,2,3,4,5,6,7,8,9,10,11,12,13,14] by decide)
    have zaZ:[val 8,val 13]=_:=e13
    injection zaZ with Uu Ka
    have v13:=qy Ka
    have s48:=k13 48 rfl
    rw[v13] at s48
    obtain⟨⟨Wd,c13,q13⟩,zaH,r13⟩:=m13.here hB
    clear k13 e13 Ka
    have s49:=zL hk 14 49
    obtain⟨y1,y2⟩:=x13
    dsimp only at q13
    subst q8 q13
    refine zC (v:=.agg #[zI F.m,zI F.pc,.slice a8 F.zg.length c8,.slice Wd F.zf.length c13,zI cb,.bool false]) hB rfl rfl (by unfold execOp;go_simp) ⟨.slice a8 F.zg.length c8,.slice Wd F.zf.length c13,?_⟩
    show [val 8,val 13,_]=_
    rw[v8,v13]
    rfl
  intro aE vB val own hB hf zy hk
  obtain⟨k8,x8,e8,m8⟩:=hk 8 (by decide)
  have v8:=qy e8
  have s43:=k8 43 rfl
  rw[v8] at s43
  obtain⟨⟨a8,c8,q8⟩,r8⟩:=m8.here hB
  clear k8 e8
  obtain⟨k13,x13,e13,m13⟩:=hk 13 (by decide)
  have zaZ:[val 8,val 13]=_:=e13
  injection zaZ with Uu Ka
  have v13:=qy Ka
  have s48:=k13 48 rfl
  rw[v13] at s48
  obtain⟨⟨Wd,c13,q13⟩,zaH,r13⟩:=m13.here hB
  clear k13 e13 Ka
  obtain⟨y1,y2⟩:=x13
  dsimp only at q13 zaH r13 Uu v13
  have hxy:y1=x8:=by rw[<-Uu,v8]
  subst hxy
  obtain⟨k15,u1,u2,e15⟩:=hk 15 (by decide)
  have e15':[val 8,val 13,val 15]=_:=e15
  injection e15' with ea eb
  injection eb with eb ec
  have v15:=qy ec
  have s50:=k15 50 rfl
  rw[v8] at ea
  rw[v13] at eb
  subst ea eb
  rw[v15] at s50
  subst q8 q13
  clear k15 e15 ec v15 v8 v13 Uu
  have s6:=hf.at (d:=6) (v:=zJ (wS.heap.size+1) 0) (by kernel_rfl) rfl
  have XV:=y4.below hB
  have p0:=XV.cell 0 rfl
  have pf0:=XV.frozen 0
  have p1:=XV.cell 1 rfl
  have pf1:=XV.frozen 1
  have p2:=XV.cell 2 rfl
  have pf2:=XV.frozen 2
  have p3:=XV.cell 3 rfl
  have pf3:=XV.frozen 3
  have p4:=XV.cell 4 rfl
  have pf4:=XV.frozen 4
  have p5:=XV.cell 5 rfl
  have pf5:=XV.frozen 5
  refine vM (w':=QG vB (wS.heap.size+1) 0 [zI F.m,zI F.pc,.slice a8 F.zg.length c8,.slice Wd F.zf.length c13,zI cb,.bool false]) rfl rfl (by unfold execOp;simp only[QG];go_simp) ?_
  simp only[Act.put,QG]
  obtain⟨u,Jx,hv⟩:=Xv aE.tmps (n:=51) hf.size
  have hu:aE.tmps=(u 0 :: u 1 :: u 2 :: u 3 :: u 4 :: u 5 :: u 6 :: u 7 :: u 8 :: u 9 :: u 10 :: u 11 :: u 12 :: u 13 :: u 14 :: u 15 :: u 16 :: u 17 :: u 18 :: u 19 :: u 20 :: u 21 :: u 22 :: u 23 :: u 24 :: u 25 :: u 26 :: u 27 :: u 28 :: u 29 :: u 30 :: u 31 :: u 32 :: u 33 :: u 34 :: u 35 :: u 36 :: u 37 :: u 38 :: u 39 :: u 40 :: u 41 :: u 42 :: u 43 :: u 44 :: u 45 :: u 46 :: u 47 :: u 48 :: u 49 :: u 50 :: []).toArray:=Jx
  rw[(hv 6).trans s6] at hu
  obtain rfl:=ZK hu (show aE.defers=[] from hf.defers)
  clear hu Jx hv hk zy hf s6 s50 s43 s48
  have zB:=hB.size
  have hy4:wS.heap.size+1<W3.heap.size:=y4.lt
  refine wD (fun W=>zO wS W/\Bx W (wS.heap.size+1) 96 [zI F.m,zI F.pc,.slice a8 F.zg.length c8,.slice Wd F.zf.length c13,zI cb,.bool false]/\zk W3.heap.size W (.slice a8 F.zg.length c8) (F.zg.map (j6 (ue m)))/\zk W3.heap.size W (.slice Wd F.zf.length c13) (F.zf.map (j6 (ue m)))) ?_ ?_
  ·have HW:=((((((Wr.refl1 (wS.heap.size+1) vB).set1 (o:=0) (zI F.m)).set1 (o:=1) (zI F.pc)).set1 (o:=2) (.slice a8 F.zg.length c8)).set1 (o:=3) (.slice Wd F.zf.length c13)).set1 (o:=4) (zI cb)).set1 (o:=5) (.bool false)
   exact⟨HW.below1 (B4.trans (hB.mono B4.size)) zD (Nat.le_succ _),(((((XV.set 0 _).set 1 _).set 2 _).set 3 _).set 4 _).set 5 _,HW.pair r8 (fun g e e2=>by have:=(r8.lt g e).1;omega),HW.pair r13 (fun g e e2=>by have:=(r13.lt g e).1;omega)⟩
  rintro W9 ⟨B9,x9,r9,s9⟩
  try go_wp2
  have i0:=x9.cell 0 rfl
  have i1:=x9.cell 1 rfl
  have i2:=x9.cell 2 rfl
  have i3:=x9.cell 3 rfl
  have i4:=x9.cell 4 rfl
  have i5:=x9.cell 5 rfl
  exact bodyPost_ret (v:=.agg #[zI F.m,zI F.pc,.slice a8 F.zg.length c8,.slice Wd F.zf.length c13,zI cb,.bool false]) (by simp[results,Tryz.results94,go_sem,i0,i1,i2,i3,i4,i5]) rfl ⟨_,_,by rw[HSD.out],r9.mono B4.size,s9.mono B4.size,zaH,B9⟩
 have h0z:(0:Int)<(k:Int):=by omega
 have hwn:IntKind.i64.wrap ((k:Int) - 1)=(k:Int) - 1:=by rw[IntKind.wrap_i64];omega
 have HC:=Yz _ _ _ _ _ m i ((k:Int) - 1) W3 (U8.below B3) hi (by omega) (by omega)
 unfold zE at HC
 simp only[List.cons_append,List.nil_append] at HC
 obtain⟨sd,hsd⟩:∃sd,XJ m (i:Int) ((k:Int) - 1)=sd:=⟨_,rfl⟩
 rw[hsd] at HC HS0
 have HSD:Hid (zas m i k=sd):=by show _=_;rw[HS0.out,if_pos h0]
 clear HS0 hsd
 obtain⟨⟨x0,x1,x2,x3,x4,x5,x6,x7,x8,x9⟩,_⟩:=Yf x3'
 go_wp2_with fail
 refine HC.mono ?_
 rintro e W4 ⟨rfl,t4⟩
 have B4:=B3.trans (t4.mono z3)
 have x4':=x3'.below t4
 have y4:=y3'.below t4
 have f4:=f3.below t4
 clear HC t4 x3' y3' f3 B3 z3 x0 x1 x2 x3 x4 x5 x6 x7 x8 x9
 obtain⟨⟨x0,x1,x2,x3,x4,x5,x6,x7,x8,x9⟩,_⟩:=Yf x4'
 have q0:=f4.cell 0 rfl
 have q1:=f4.cell 1 rfl
 have q3:=f4.cell 3 rfl
 have q4:=f4.cell 4 rfl
 go_upto_region 5 with fail
 refine Z2 [[],[0],[],[2],[],[4],[],[6],[4,5,6,7],[],[9],[],[11],[4,5,6,7,8,9,10,11,12],[],[0,1,2,3,4,5,6,7,8,9,10,11,12,13,14],[0,1,2,3,4,5,6,7,8,9,10,11,12,13,14,15]] [[0],[1],[2],[3],[4],[5],[6],[7],[8],[9],[10],[11],[12],[8,13],[14],[8,13,15],[]] [[],[],[],[],[],[],[],[],[],[],[],[],[],[],[],[],[]] [jy (zJ W1.heap.size 0),jy (zI F.m),jy (zJ W1.heap.size 1),jy (zI F.pc),jy (zJ W1.heap.size 3),jy (.slice a1 F.zg.length k1),jy (.agg #[zI m.cells,zK bp op m.zd.length cp,.slice ao m.order.length co,zI m.now,.slice at' m.ze.length ct,zI m.born,.slice as' m.zm.length cs,zI m.code,.slice al (xV m.zd).length cl,zI (yd m.zd:Int)]),jy (.func (.func 134) #[.agg #[zI m.cells,zK bp op m.zd.length cp,.slice ao m.order.length co,zI m.now,.slice at' m.ze.length ct,zI m.born,.slice as' m.zm.length cs,zI m.code,.slice al (xV m.zd).length cl,zI (yd m.zd:Int)]] #[]),Ws 8 (fun(x:Value) l=>l=[x]) (fun x w1=>(∃a c,x=.slice a F.zg.length c)/\zk W4.heap.size w1 x (F.zg.map (j6 (ue m)))),jy (zJ W1.heap.size 4),jy (.slice a2 F.zf.length k2),jy (.agg #[zI m.cells,zK bp op m.zd.length cp,.slice ao m.order.length co,zI m.now,.slice at' m.ze.length ct,zI m.born,.slice as' m.zm.length cs,zI m.code,.slice al (xV m.zd).length cl,zI (yd m.zd:Int)]),jy (.func (.func 134) #[.agg #[zI m.cells,zK bp op m.zd.length cp,.slice ao m.order.length co,zI m.now,.slice at' m.ze.length ct,zI m.born,.slice as' m.zm.length cs,zI m.code,.slice al (xV m.zd).length cl,zI (yd m.zd:Int)]] #[]),Ws 13 (fun(x:Value × Value) l=>l=[x.1,x.2]) (fun x w1=>(∃a c,x.2=.slice a F.zf.length c)/\(∀g,x.1.ownBlock=some g->x.2.ownBlock≠some g)/\zk W4.heap.size w1 x.2 (F.zf.map (j6 (ue m)))),jy (zI sd),X7 fun l=>∃u1 u2:Value,l=[u1,u2,.agg #[zI F.m,zI F.pc,u1,u2,zI sd,.bool false]],X7 fun _=>True] 16 rfl (by kernel_rfl) (by kernel_rfl) (by kernel_rfl) ?_ ?_
 ·refine zl (zl (zl (zl (zl (zl (zl (zl (zl (zl (zl (zl (zl (zl (zl (zl (jE) ?_) ?_) ?_) ?_) ?_) ?_) ?_) ?_) ?_) ?_) ?_) ?_) ?_) ?_) ?_) ?_
  ·intro a w val own hB hf zy hk
   have s7:=hf.at (d:=7) (v:=zJ W1.heap.size 0) (by kernel_rfl) rfl
   exact zC (v:=zJ W1.heap.size 0) hB
  ·intro a w val own hB hf zy hk
   have s35:=zL hk 0 35
   have cq:=zc hB q0
   exact zC (v:=zI F.m) hB
  ·intro a w val own hB hf zy hk
   have s7:=hf.at (d:=7) (v:=zJ W1.heap.size 0) (by kernel_rfl) rfl
   exact zC (v:=zJ W1.heap.size 1) hB
  ·intro a w val own hB hf zy hk
   have s37:=zL hk 2 37
   have cq:=zc hB q1
   exact zC (v:=zI F.pc) hB
  ·intro a w val own hB hf zy hk
   have s7:=hf.at (d:=7) (v:=zJ W1.heap.size 0) (by kernel_rfl) rfl
   exact zC (v:=zJ W1.heap.size 3) hB
  ·intro a w val own hB hf zy hk
   have s39:=zL hk 4 39
   have cq:=zc hB q3
   exact zC (v:=.slice a1 F.zg.length k1) hB
  ·intro a w val own hB hf zy hk
   have s3:=hf.at (d:=3) (v:=zJ wS.heap.size 0) (by kernel_rfl) rfl
   have cx0:=zc hB x0
   have cx1:=zc hB x1
   have cx2:=zc hB x2
   have cx3:=zc hB x3
   have cx4:=zc hB x4
   have cx5:=zc hB x5
   have cx6:=zc hB x6
   have cx7:=zc hB x7
   have cx8:=zc hB x8
   have cx9:=zc hB x9
   exact zC (v:=.agg #[zI m.cells,zK bp op m.zd.length cp,.slice ao m.order.length co,zI m.now,.slice at' m.ze.length ct,zI m.born,.slice as' m.zm.length cs,zI m.code,.slice al (xV m.zd).length cl,zI (yd m.zd:Int)]) hB
  ·intro a w val own hB hf zy hk
   have s41:=zL hk 6 41
   exact zC (v:=.func (.func 134) #[.agg #[zI m.cells,zK bp op m.zd.length cp,.slice ao m.order.length co,zI m.now,.slice at' m.ze.length ct,zI m.born,.slice as' m.zm.length cs,zI m.code,.slice al (xV m.zd).length cl,zI (yd m.zd:Int)]] #[]) hB
  ·intro a w val own hB hf zy hk
   have s40:=zL hk 5 40
   have s42:=zL hk 7 42
   have hB':=B4.trans (hB.mono B4.size)
   have K6:=hB.size
   refine uG hB rfl rfl (by unfold execOp;go_simp) ((HRV.out w _ F.zg hB' (dt.below hB') hl.1 HOS.out.1).mono ?_)
   rintro e w' ⟨v',rfl,r1,hb'⟩
   refine⟨_,rfl,hb',v',rfl,Made.new fun w1 hs _ hr=>⟨?_,?_⟩⟩
   ·obtain⟨a0,c0,e0,_⟩:=r1.slice
    exact⟨a0,c0,by simpa using e0⟩
   ·exact(r1.kept hs fun g e=>hr g (r1.lt g e).1 (r1.lt g e).2).mono K6
  ·intro a w val own hB hf zy hk
   have s7:=hf.at (d:=7) (v:=zJ W1.heap.size 0) (by kernel_rfl) rfl
   exact zC (v:=zJ W1.heap.size 4) hB
  ·intro a w val own hB hf zy hk
   have s44:=zL hk 9 44
   have cq:=zc hB q4
   exact zC (v:=.slice a2 F.zf.length k2) hB
  ·intro a w val own hB hf zy hk
   have s3:=hf.at (d:=3) (v:=zJ wS.heap.size 0) (by kernel_rfl) rfl
   have cx0:=zc hB x0
   have cx1:=zc hB x1
   have cx2:=zc hB x2
   have cx3:=zc hB x3
   have cx4:=zc hB x4
   have cx5:=zc hB x5
   have cx6:=zc hB x6
   have cx7:=zc hB x7
   have cx8:=zc hB x8
   have cx9:=zc hB x9
   exact zC (v:=.agg #[zI m.cells,zK bp op m.zd.length cp,.slice ao m.order.length co,zI m.now,.slice at' m.ze.length ct,zI m.born,.slice as' m.zm.length cs,zI m.code,.slice al (xV m.zd).length cl,zI (yd m.zd:Int)]) hB
  ·intro a w val own hB hf zy hk
   have s46:=zL hk 11 46
   exact zC (v:=.func (.func 134) #[.agg #[zI m.cells,zK bp op m.zd.length cp,.slice ao m.order.length co,zI m.now,.slice at' m.ze.length ct,zI m.born,.slice as' m.zm.length cs,zI m.code,.slice al (xV m.zd).length cl,zI (yd m.zd:Int)]] #[]) hB
  ·intro a w val own hB hf zy hk
   have s45:=zL hk 10 45
   have s47:=zL hk 12 47
   obtain⟨k8,x8,e8,m8⟩:=hk 8 (show 8∈[4,5,6,7,8,9,10,11,12] by decide)
   have v8:=qy e8
   obtain⟨_,r8⟩:=m8.here hB
   clear k8 e8
   have hB':=B4.trans (hB.mono B4.size)
   have K6:=hB.size
   refine uG hB rfl rfl (by unfold execOp;go_simp) ((HRV.out w _ F.zf hB' (ds.below hB') hl.2 HOS.out.2).mono ?_)
   rintro e w' ⟨v',rfl,r1,hb'⟩
   refine⟨_,rfl,hb',(x8,v'),?_,Made.new fun w1 hs _ hr=>⟨?_,fun g e e2=>?_,?_⟩⟩
   ·show [val 8,_]=_
    rw[v8]
    rfl
   ·obtain⟨a0,c0,e0,_⟩:=r1.slice
    exact⟨a0,c0,by simpa using e0⟩
   ·have l1:=(r8.lt g e).2
    have l2:=(r1.lt g e2).1
    omega
   ·exact(r1.kept hs fun g e=>hr g (r1.lt g e).1 (r1.lt g e).2).mono K6
  ·intro a w val own hB hf zy hk
   have s8:=hf.at (d:=8) (v:=zI sd) (by kernel_rfl) rfl
   exact zC (v:=zI sd) hB
  ·intro a w val own hB hf zy hk
   have s36:=zL hk 1 36
   have s38:=zL hk 3 38
   obtain⟨k8,x8,e8,m8⟩:=hk 8 (show 8∈[0,1,2,3,4,5,6,7,8,9,10,11,12,13,14] by decide)
   have v8:=qy e8
   have s43:=k8 43 rfl
   rw[v8] at s43
   obtain⟨⟨a8,c8,q8⟩,r8⟩:=m8.here hB
   clear k8 e8
   obtain⟨k13,x13,e13,m13⟩:=hk 13 (show 13∈[0,1,2,3,4,5,6,7,8,9,10,11,12,13,14] by decide)
   have zaZ:[val 8,val 13]=_:=e13
   injection zaZ with Uu Ka
   have v13:=qy Ka
   have s48:=k13 48 rfl
   rw[v13] at s48
   obtain⟨⟨Wd,c13,q13⟩,zaH,r13⟩:=m13.here hB
   clear k13 e13 Ka
   have s49:=zL hk 14 49
   obtain⟨y1,y2⟩:=x13
   dsimp only at q13
   subst q8 q13
   refine zC (v:=.agg #[zI F.m,zI F.pc,.slice a8 F.zg.length c8,.slice Wd F.zf.length c13,zI sd,.bool false]) hB rfl rfl (by unfold execOp;go_simp) ⟨.slice a8 F.zg.length c8,.slice Wd F.zf.length c13,?_⟩
   show [val 8,val 13,_]=_
   rw[v8,v13]
   rfl
 intro aE vB val own hB hf zy hk
 obtain⟨k8,x8,e8,m8⟩:=hk 8 (by decide)
 have v8:=qy e8
 have s43:=k8 43 rfl
 rw[v8] at s43
 obtain⟨⟨a8,c8,q8⟩,r8⟩:=m8.here hB
 clear k8 e8
 obtain⟨k13,x13,e13,m13⟩:=hk 13 (by decide)
 have zaZ:[val 8,val 13]=_:=e13
 injection zaZ with Uu Ka
 have v13:=qy Ka
 have s48:=k13 48 rfl
 rw[v13] at s48
 obtain⟨⟨Wd,c13,q13⟩,zaH,r13⟩:=m13.here hB
 clear k13 e13 Ka
 obtain⟨y1,y2⟩:=x13
 dsimp only at q13 zaH r13 Uu v13
 have hxy:y1=x8:=by rw[<-Uu,v8]
 subst hxy
 obtain⟨k15,u1,u2,e15⟩:=hk 15 (by decide)
 have e15':[val 8,val 13,val 15]=_:=e15
 injection e15' with ea eb
 injection eb with eb ec
 have v15:=qy ec
 have s50:=k15 50 rfl
 rw[v8] at ea
 rw[v13] at eb
 subst ea eb
 rw[v15] at s50
 subst q8 q13
 clear k15 e15 ec v15 v8 v13 Uu
 have s6:=hf.at (d:=6) (v:=zJ (wS.heap.size+1) 0) (by kernel_rfl) rfl
 have XV:=y4.below hB
 have p0:=XV.cell 0 rfl
 have pf0:=XV.frozen 0
 have p1:=XV.cell 1 rfl
 have pf1:=XV.frozen 1
 have p2:=XV.cell 2 rfl
 have pf2:=XV.frozen 2
 have p3:=XV.cell 3 rfl
 have pf3:=XV.frozen 3
 have p4:=XV.cell 4 rfl
 have pf4:=XV.frozen 4
 have p5:=XV.cell 5 rfl
 have pf5:=XV.frozen 5
 refine vM (w':=QG vB (wS.heap.size+1) 0 [zI F.m,zI F.pc,.slice a8 F.zg.length c8,.slice Wd F.zf.length c13,zI sd,.bool false]) rfl rfl (by unfold execOp;simp only[QG];go_simp) ?_
 simp only[Act.put,QG]
 obtain⟨u,Jx,hv⟩:=Xv aE.tmps (n:=51) hf.size
 have hu:aE.tmps=(u 0 :: u 1 :: u 2 :: u 3 :: u 4 :: u 5 :: u 6 :: u 7 :: u 8 :: u 9 :: u 10 :: u 11 :: u 12 :: u 13 :: u 14 :: u 15 :: u 16 :: u 17 :: u 18 :: u 19 :: u 20 :: u 21 :: u 22 :: u 23 :: u 24 :: u 25 :: u 26 :: u 27 :: u 28 :: u 29 :: u 30 :: u 31 :: u 32 :: u 33 :: u 34 :: u 35 :: u 36 :: u 37 :: u 38 :: u 39 :: u 40 :: u 41 :: u 42 :: u 43 :: u 44 :: u 45 :: u 46 :: u 47 :: u 48 :: u 49 :: u 50 :: []).toArray:=Jx
 rw[(hv 6).trans s6] at hu
 obtain rfl:=ZK hu (show aE.defers=[] from hf.defers)
 clear hu Jx hv hk zy hf s6 s50 s43 s48
 have zB:=hB.size
 have hy4:wS.heap.size+1<W4.heap.size:=y4.lt
 refine wD (fun W=>zO wS W/\Bx W (wS.heap.size+1) 96 [zI F.m,zI F.pc,.slice a8 F.zg.length c8,.slice Wd F.zf.length c13,zI sd,.bool false]/\zk W4.heap.size W (.slice a8 F.zg.length c8) (F.zg.map (j6 (ue m)))/\zk W4.heap.size W (.slice Wd F.zf.length c13) (F.zf.map (j6 (ue m)))) ?_ ?_
 ·have HW:=((((((Wr.refl1 (wS.heap.size+1) vB).set1 (o:=0) (zI F.m)).set1 (o:=1) (zI F.pc)).set1 (o:=2) (.slice a8 F.zg.length c8)).set1 (o:=3) (.slice Wd F.zf.length c13)).set1 (o:=4) (zI sd)).set1 (o:=5) (.bool false)
  exact⟨HW.below1 (B4.trans (hB.mono B4.size)) zD (Nat.le_succ _),(((((XV.set 0 _).set 1 _).set 2 _).set 3 _).set 4 _).set 5 _,HW.pair r8 (fun g e e2=>by have:=(r8.lt g e).1;omega),HW.pair r13 (fun g e e2=>by have:=(r13.lt g e).1;omega)⟩
 rintro W9 ⟨B9,x9,r9,s9⟩
 try go_wp2
 have i0:=x9.cell 0 rfl
 have i1:=x9.cell 1 rfl
 have i2:=x9.cell 2 rfl
 have i3:=x9.cell 3 rfl
 have i4:=x9.cell 4 rfl
 have i5:=x9.cell 5 rfl
 exact bodyPost_ret (v:=.agg #[zI F.m,zI F.pc,.slice a8 F.zg.length c8,.slice Wd F.zf.length c13,zI sd,.bool false]) (by simp[results,Tryz.results94,go_sem,i0,i1,i2,i3,i4,i5]) rfl ⟨_,_,by rw[HSD.out],r9.mono B4.size,s9.mono B4.size,zaH,B9⟩
end Go.Proofs.YtbjgjjkgfnfejaaGreatDoor
