/-
  Calls of a machine as things of their own: thingsOf. (Written by mkmt6.py.)
-/
import Derived.Test.YtbjgjjkgfnfejaaGreatDoorMNew
namespace Go.Proofs.YtbjgjjkgfnfejaaGreatDoor
set_option maxHeartbeats 4000000
set_option maxRecDepth 100000
open Go.RowKit
theorem zez {a b x1 x2 s d y1 y2:Value} (h:Value.agg #[a,b,x1,x2,s,d]=.agg #[a,b,y1,y2,s,d]):(x1,x2)=(y1,y2):=by
 injection h with h
 injection h with h
 injection h with _ h
 injection h with _ h
 injection h with h1 h
 injection h with h2 h
 rw[h1,h2]
structure ThS (wS V3:World) (g3 g4 B:Nat) (L1 L3:List Value) (now:Int) (w:World) (v:Value) (cs:List Cl):Prop where
 b:zO wS w
 x1:Bx w wS.heap.size 34 L1
 x2:Bx w (wS.heap.size+1) 44 [zQ,zI 0,zI 0,zQ,zI 0]
 x3:Bx w g3 152 L3
 x4:Bx w g4 44 [v,zI now,zI 0,zQ,zI 0]
 t:J1 B w v cs
 z:B<=w.heap.size
 b3:Below g4 V3 w
 e3:V3.heap.size=g4
 q3:wS.heap.size+1<g3
 q4:g3<g4
 qB:g4<B
theorem ThS.below {wS V3:World} {g3 g4 B:Nat} {L1 L3:List Value} {now:Int} {w w':World} {v:Value} {cs:List Cl} (h:ThS wS V3 g3 g4 B L1 L3 now w v cs) (hb:zO w w'):ThS wS V3 g3 g4 B L1 L3 now w' v cs :=
 ⟨h.b.trans (hb.mono h.b.size),h.x1.below hb,h.x2.below hb,h.x3.below hb,h.x4.below hb,h.t.below hb,Nat.le_trans h.z hb.size,h.b3.trans (hb.mono (by have:=h.z;have:=h.qB;omega)),h.e3,h.q3,h.q4,h.qB⟩
theorem ThS.append {ty:TypeId} {wS V3:World} {g3 g4 B:Nat} {L1 L3:List Value} {now:Int} {w w3:World} {v:Value} {cs:List Cl} (h:ThS wS V3 g3 g4 B L1 L3 now w v cs) (hw:zO w w3) (c:Cl) (u1 u2:Value)
 (h1:zl w.heap.size w3 u1 c.zh) (h2:zl w.heap.size w3 u2 c.zf) (H k:Nat) (hx:∀j u,([zI c.m,zI c.pc,u1,u2,zI c.zi,.bool c.zy]:List Value)[j]?=some u->w3.cell? (zH H j)=some u) (hL:cs.length<=900000) :
 ∃a' c' w4,(Builtin.append_ #[39,39] ty #[v,zK H 0 1 k]).run Tryz.prog w3=.ok (.slice a' (cs.length+1) c') w4/\w4.cell? (zH g4 0)=some v/\w4.frozen? (zH g4 0)=false /\
  ThS wS V3 g3 g4 B L1 L3 now (w4.setCell (zH g4 0) (.slice a' (cs.length+1) c')) (.slice a' (cs.length+1) c') (cs ++ [c]):=by
 have hv:=h.t.lt
 have hz:=h.z
 have hbz:=h.b.size
 have q3:=h.q3
 have q4:=h.q4
 have qB:=h.qB
 obtain⟨a',c',w4,hrun,hT,hg⟩:=zcL (ty:=ty) (h.t.below hw) c u1 u2 (h1.mono hz) (h2.mono hz) (fun g e e2=>by have l1:=(h1.lt g e).1;have l2:=(hv g e2).2;omega) (fun g e e2=>by have l1:=(h2.lt g e).1;have l2:=(hv g e2).2;omega) H k hx hL (Nat.le_trans hz hw.size)
 have nb:∀g,g<B->v.ownBlock≠some g:=fun g hgB e=>by have:=(hv g e).1;omega
 have y4:=(h.x4.below hw).grown hg (nb g4 (by omega))
 have HW:=(Wr.refl1 g4 w4).set1 (o:=0) (.slice a' (cs.length+1) c')
 refine⟨a',c',w4,hrun,y4.cell 0 rfl,y4.frozen 0,?_,?_,?_,?_,?_,hT.wr HW (by omega),?_,?_,h.e3,q3,q4,qB⟩
 ·exact HW.below1 ((h.b.trans (hw.mono hbz)).grown hg (Nat.le_trans hbz hw.size) (fun q e=>by have:=(hv q e).1;omega)) zD (by omega)
 ·exact HW.bx ((h.x1.below hw).grown hg (nb _ (by omega))) (by omega)
 ·exact HW.bx ((h.x2.below hw).grown hg (nb _ (by omega))) (by omega)
 ·exact HW.bx ((h.x3.below hw).grown hg (nb _ (by omega))) (by omega)
 ·exact y4.set 0 _
 ·rw[World.size_setCell]
  exact Nat.le_trans (Nat.le_trans hz hw.size) hg.size
 ·exact HW.below1 ((h.b3.trans (hw.mono (by omega))).grown hg (by have:=hw.size;omega) (fun q e=>by have:=(hv q e).1;omega)) (by rw[h.e3];exact Nat.le_refl _) zD
theorem Z9 (vp vo vt vs:Value) (m:Mc) (wS:World) (h:yC wS vp vo vt vs m) (hT:zdm m) (hn:m.za.length<=1048576) (hN:yc m.za+m.zd.length<=900000) :
 Calls Tryz.prog 50 #[.agg (zu vp vo vt vs m).toArray] wS fun e w'=>∃vc,e=.returned (.agg #[vc,zI (kF m),zI 0,zQ,zI 0])/\xz w' vc (yQ m).ze/\zO wS w':=by
 have HT:Hid (zdm m):=hT
 have hM:=h
 clear hT
 have HTP:Hid (∀(W:World),zO wS W->Calls Tryz.prog 92 #[.agg (zu vp vo vt vs m).toArray] W fun e w'=>∃vl,e=.returned (.agg (zu vp vo vt vs m ++ [vl,zI (yc m.za:Int)]).toArray)/\zL W.heap.size w' vl (xY m.za)/\zO W w'):=fun W hW=>Zq _ _ _ _ m W (hM.below hW) hn (by omega)
 have HRU:Hid (∀(W:World) (vl:Value),Pl W vp vo vt vs vl m->Calls Tryz.prog 93 #[.agg (zu vp vo vt vs m ++ [vl,zI (yc m.za:Int)]).toArray] W fun e w'=>e=.returned (zI (kF m))/\zO W w'):=fun W vl hp=>Ug _ _ _ _ _ m W hp
 have HFR:Hid (∀(W:World) (vl:Value) (i k:Nat) (hi:i<m.za.length) (hk:k<m.za[i].zg.length),Pl W vp vo vt vs vl m->Calls Tryz.prog 94 #[.agg (zu vp vo vt vs m ++ [vl,zI (yc m.za:Int)]).toArray,zI (i:Int),zI (k:Int)] W fun e w'=>∃u1 u2,e=.returned (.agg #[zI (j8 m i k m.za[i].zg[k]).m,zI (j8 m i k m.za[i].zg[k]).pc,u1,u2,zI (j8 m i k m.za[i].zg[k]).zi,.bool (j8 m i k m.za[i].zg[k]).zy])/\zl W.heap.size w' u1 (j8 m i k m.za[i].zg[k]).zh/\zl W.heap.size w' u2 (j8 m i k m.za[i].zg[k]).zf/\zO W w'):=fun W vl i k hi hk hp =>
  (Jr _ _ _ _ _ m i k _ W hp hi hk rfl (HT.out.bs i hi) (HT.out.fr i k hi hk).1 (HT.out.fr i k hi hk).2).mono fun e w' ⟨u1,u2,e1,r1,r2,_,b⟩=>⟨u1,u2,e1,r1,r2,b⟩
 have HTW:Hid (∀(W:World) (vl w1 w2:Value) (j:Nat) (hj:j<m.zd.length),Pl W vp vo vt vs vl m->yi W w1 m.zd[j].left.zh->yi W w2 m.zd[j].left.zf->Calls Tryz.prog 95 #[.agg (zu vp vo vt vs m ++ [vl,zI (yc m.za:Int)]).toArray,.agg #[zI m.zd[j].page,zI m.zd[j].place,zI m.zd[j].left.m,zI m.zd[j].left.pc,w1,w2,zI m.zd[j].left.zi,.bool m.zd[j].left.zy]] W fun e w'=>∃u1 u2,e=.returned (.agg #[zI (xl m m.zd[j]).m,zI (xl m m.zd[j]).pc,u1,u2,zI (xl m m.zd[j]).zi,.bool (xl m m.zd[j]).zy])/\zl W.heap.size w' u1 (xl m m.zd[j]).zh/\zl W.heap.size w' u2 (xl m m.zd[j]).zf/\zO W w'):=fun W vl w1 w2 j hj hp h1 h2 =>
  (Ko _ _ _ _ _ m m.zd[j] w1 w2 W hp h1 h2 (HT.out.tw j hj).1 (HT.out.tw j hj).2).mono fun e w' ⟨u1,u2,e1,r1,r2,_,b⟩=>⟨u1,u2,e1,r1,r2,b⟩
 clear HT
 obtain⟨ap,cp,qz,hlp,hcp⟩:=id hM.p
 obtain⟨ao,co,jw⟩:=hM.o.shape
 obtain⟨at',ct,jA,hlt',hct⟩:=id hM.t
 obtain⟨as',cs,jG⟩:=hM.s.shape
 subst qz jw jA jG
 unfold zu at HTP HRU HFR HTW
 simp only[List.cons_append,List.nil_append] at HTP HRU HFR HTW
 unfold zu
 go_enter Tryz.func50,Tryz.ntmps50
 go_upto_region 1 with fail
 refine yg (fun W=>zO wS W/\Bx W wS.heap.size 34 [.int .i64 m.cells,.slice ap m.za.length cp,.slice ao m.order.length co,.int .i64 m.now,.slice at' m.zd.length ct,.int .i64 m.born,.slice as' m.zm.length cs,.int .i64 m.code]/\Bx W (wS.heap.size+1) 44 [.slice none 0 0,.int .i64 0,.int .i64 0,.slice none 0 0,.int .i64 0]) ⟨(zR _ _).alloc (by simp) _,(Bx.new wS _ _).alloc _,Bx.newAt _ _ _ (by simp)⟩ ?_
 rintro W1 ⟨B1,x1',y1'⟩
 obtain⟨⟨x0,x1,x2,x3,x4,x5,x6,x7⟩,_⟩:=jW x1'
 have z1:=B1.size
 go_wp2_with fail
 refine(HTP.out W1 B1).mono ?_
 rintro e V1 ⟨vl,rfl,rl,t1⟩
 obtain⟨al,cl,Ja,_⟩:=rl.slice
 subst Ja
 have BV1:=B1.trans (t1.mono z1)
 have xV1:=x1'.below t1
 have yV1:=y1'.below t1
 have JJ:wS.heap.size+1<V1.heap.size:=yV1.lt
 have hP:Pl V1 (.slice ap m.za.length cp) (.slice ao m.order.length co) (.slice at' m.zd.length ct) (.slice as' m.zm.length cs) (.slice al (xY m.za).length cl) m:=⟨hM.below BV1,rl.at,by omega,by omega⟩
 clear t1 x1' y1' B1 z1 x0 x1 x2 x3 x4 x5 x6 x7 rl HTP
 go_upto_region 2 with fail
 obtain⟨g3,ko⟩:∃g,V1.heap.size=g:=⟨_,rfl⟩
 rw[ko]
 refine yg (fun W=>zO V1 W/\Bx W g3 152 [.int .i64 m.cells,.slice ap m.za.length cp,.slice ao m.order.length co,.int .i64 m.now,.slice at' m.zd.length ct,.int .i64 m.born,.slice as' m.zm.length cs,.int .i64 m.code,.slice al (xY m.za).length cl,.int .i64 (yc m.za:Int)]) ⟨zR _ _,Bx.newAt _ _ _ ko⟩ ?_
 rintro W2 ⟨t2,z3⟩
 have B2:=BV1.trans (t2.mono BV1.size)
 have xV2:=xV1.below t2
 have yV2:=yV1.below t2
 have hP2:=hP.below t2
 have zB2:=B2.size
 clear t2 xV1 yV1 BV1 hP
 obtain⟨⟨x0,x1,x2,x3,x4,x5,x6,x7,x8,x9⟩,_⟩:=Ys z3
 have hg3l:g3<W2.heap.size:=z3.lt
 go_wp2_with fail
 refine(HRU.out W2 _ hP2).mono ?_
 rintro e V3 ⟨rfl,t3⟩
 have B3:=B2.trans (t3.mono zB2)
 have xV3:=xV2.below t3
 have yV3:=yV2.below t3
 have zV3:=z3.below t3
 have hP3:=hP2.below t3
 have hs3:=t3.size
 clear t3 B2 xV2 yV2 z3 hP2 x0 x1 x2 x3 x4 x5 x6 x7 x8 x9 HRU
 go_upto_region 3 with fail
 obtain⟨g4,uy⟩:∃g,V3.heap.size=g:=⟨_,rfl⟩
 rw[uy]
 obtain⟨now,YK⟩:∃now,kF m=now:=⟨_,rfl⟩
 rw[YK]
 obtain⟨B,hBe⟩:∃B,g4+1=B:=⟨_,rfl⟩
 refine yg (fun W=>zO V3 W/\ThS wS V3 g3 g4 B [.int .i64 m.cells,.slice ap m.za.length cp,.slice ao m.order.length co,.int .i64 m.now,.slice at' m.zd.length ct,.int .i64 m.born,.slice as' m.zm.length cs,.int .i64 m.code] [.int .i64 m.cells,.slice ap m.za.length cp,.slice ao m.order.length co,.int .i64 m.now,.slice at' m.zd.length ct,.int .i64 m.born,.slice as' m.zm.length cs,.int .i64 m.code,.slice al (xY m.za).length cl,.int .i64 (yc m.za:Int)] now W (.slice none 0 0) (yR m 0)) ⟨zR _ _,B3.alloc B3.size _,xV3.alloc _,yV3.alloc _,zV3.alloc _,Bx.newAt _ _ _ uy,J1.nil _ _,by simp;omega,uy ▸ zR _ _,uy,by omega,by omega,by omega⟩ ?_
 rintro W4 ⟨t4,hth⟩
 clear t4 B3 xV3 yV3 zV3 hs3 hBe uy ko
 obtain⟨⟨x0,x1,x2,x3,x4,x5,x6,x7⟩,_⟩:=jW hth.x1
 go_wp2
 go_loopg [5,6,17,18,19,20,21,22,23,24,25,26,27,28,29,30,31,32,33,34,35,36,37,38,39,40] m.za.length (fun g _ _ i _ _ _ _ _ _ _ _ _ _ _ _ _ _ _ _ _ _ _ _ _ _ _ wr=>∃(k:Nat) (v:Value),k<=m.za.length/\g=m.za.length - k/\i=zI k/\ThS wS V3 g3 g4 B [zI m.cells,.slice ap m.za.length cp,.slice ao m.order.length co,zI m.now,.slice at' m.zd.length ct,zI m.born,.slice as' m.zm.length cs,zI m.code] [zI m.cells,.slice ap m.za.length cp,.slice ao m.order.length co,zI m.now,.slice at' m.zd.length ct,zI m.born,.slice as' m.zm.length cs,zI m.code,.slice al (xY m.za).length cl,zI (yc m.za:Int)] now wr v (yR m k))
 case atStart=>exact⟨0,_,Nat.zero_le _,rfl,rfl,hth⟩
 case round =>
  obtain⟨k,v,hk,rfl,rfl,hth⟩:=hrel
  by_cases yt:k<m.za.length
  ·obtain⟨a5,k5,hv5⟩:=hth.t.slice
   subst hv5
   have v7:(k:Int)<(m.za.length:Int):=by omega
   obtain⟨bp,op,vf,hap,xt⟩:=hcp k yt
   subst hap
   obtain⟨af,cf,QW⟩:=xt.f.shape
   have c1:=zc hth.b xt.c1
   rw[QW] at c1
   have HFA:Hid ((yR m k).length=qc m.za k):=qY hk
   have hsu:=xB yt
   have hsl:=vw m.za (k:=k+1) yt
   have HPA:Hid (yR m (k+1)=yR m k ++ qJ m k m.za[k].zg.length):=by show _=_;rw[ZA,kE yt]
   obtain⟨nf,hnf⟩:∃nf,m.za[k].zg.length=nf:=⟨_,rfl⟩
   rw[hnf] at c1 hsu HPA
   have HNF:Hid (m.za[k].zg.length=nf):=hnf
   clear hnf QW xt hcp hct
   have hnb:nf<=900000:=by omega
   obtain⟨⟨x0,x1,x2,x3,x4,x5,x6,x7⟩,_⟩:=jW hth.x1
   go_wp2
   clear x0 x1 x2 x3 x4 x5 x6 x7 c1
   go_loopg [6,27,28,29,30,31,32,33,34,35,36,37,38,39] nf (fun g _ i _ _ _ _ _ _ _ _ _ _ _ _ wr=>∃(q:Nat) (v:Value),q<=nf/\g=nf - q/\i=zI q/\ThS wS V3 g3 g4 B [zI m.cells,zK bp op m.za.length cp,.slice ao m.order.length co,zI m.now,.slice at' m.zd.length ct,zI m.born,.slice as' m.zm.length cs,zI m.code] [zI m.cells,zK bp op m.za.length cp,.slice ao m.order.length co,zI m.now,.slice at' m.zd.length ct,zI m.born,.slice as' m.zm.length cs,zI m.code,.slice al (xY m.za).length cl,zI (yc m.za:Int)] now wr v (yR m k ++ qJ m k q))
   case atStart=>exact⟨0,_,Nat.zero_le _,rfl,rfl,by simpa [qJ] using hth⟩
   case round =>
    clear hth
    obtain⟨q,v,hq,rfl,rfl,hth⟩:=hrel
    by_cases hqt:q<nf
    ·have hqz:(q:Int)<(nf:Int):=by omega
     have hql:q<m.za[k].zg.length:=by rw[HNF.out];exact hqt
     have HCS:Hid (yR m k ++ qJ m k (q+1)=(yR m k ++ qJ m k q) ++ [j8 m k q m.za[k].zg[q]]):=by show _=_;rw[Uk,zc1 yt hql,List.append_assoc]
     have HLN:Hid ((yR m k ++ qJ m k q).length<=900000):=by show _<=_;rw[List.length_append,HFA.out,wd];omega
     obtain⟨cc,hcc⟩:∃cc,yR m k ++ qJ m k q=cc:=⟨_,rfl⟩
     rw[hcc] at hth HCS HLN
     have HC0:=fun(W:World) (hW:zO wr W)=>HFR.out W _ k q yt hql ((hP3.below (hth.b3.mono (Nat.le_of_eq hth.e3))).below hW)
     obtain⟨c,hc⟩:∃c,j8 m k q m.za[k].zg[q]=c:=⟨_,rfl⟩
     rw[hc] at HC0 HCS
     have HC:Hid (∀(W:World),zO wr W->_):=HC0
     clear HC0 hc hcc
     obtain⟨a2,k2,hv2⟩:=hth.t.slice
     subst hv2
     have h0:=hth.x4.cell 0 rfl
     obtain⟨⟨x0,x1,x2,x3,x4,x5,x6,x7,x8,x9⟩,_⟩:=Ys hth.x3
     go_upto_region 9 with fail
     refine XJ [[],[0],[],[],[],[2,3,4],[2,3,4,5],[0,1,2,3,4,5,6],[0,1,2,3,4,5,6,7],[0,1,2,3,4,5,6,7,8]] [[0],[1],[2],[3],[4],[5],[5,6],[],[],[]] [[],[],[],[],[],[],[],[],[],[]] [jy (zJ g4 0),jy (.slice a2 cc.length k2),jy (.agg #[zI m.cells,zK bp op m.za.length cp,.slice ao m.order.length co,zI m.now,.slice at' m.zd.length ct,zI m.born,.slice as' m.zm.length cs,zI m.code,.slice al (xY m.za).length cl,zI (yc m.za:Int)]),jy (zI (k:Int)),jy (zI (q:Int)),fGh 5 (fun(x:Value × Value) l=>l=[.agg #[zI c.m,zI c.pc,x.1,x.2,zI c.zi,.bool c.zy]]) (fun x w1=>(∃a0 c0 a1 c1,x.1=.slice a0 c.zh.length c0/\x.2=.slice a1 c.zf.length c1)/\zl wr.heap.size w1 x.1 c.zh/\zl wr.heap.size w1 x.2 c.zf),fGh 6 (fun(x:(Value × Value) × Nat) l=>l=[.agg #[zI c.m,zI c.pc,x.1.1,x.1.2,zI c.zi,.bool c.zy],zK x.2 0 1 1]) (fun x w1=>∀j u,([zI c.m,zI c.pc,x.1.1,x.1.2,zI c.zi,.bool c.zy]:List Value)[j]?=some u->w1.cell? (zH x.2 j)=some u),JD fun _=>True,JD fun _=>True,JD fun _=>True] 7 2 rfl (by kernel_rfl) (by kernel_rfl) (by kernel_rfl) (by kernel_rfl) ?_ ?_
     ·refine zk (zk (zk (zk (zk (zk (zk (jE) ?_) ?_) ?_) ?_) ?_) ?_) ?_
      ·intro a w val own hB hf zE hk
       have s4:=hf.at (d:=4) (v:=zJ g4 0) (by kernel_rfl) rfl
       exact zF (v:=zJ g4 0) hB
      ·intro a w val own hB hf zE hk
       have s30:=zU hk 0 30
       have ch:=zc hB h0
       exact zF (v:=.slice a2 cc.length k2) hB
      ·intro a w val own hB hf zE hk
       have s3:=hf.at (d:=3) (v:=zJ g3 0) (by kernel_rfl) rfl
       have cx0:=zc hB x0
       have cx1:=zc hB x1
       have cx2:=zc hB x2
       have cx3:=zc hB x3
       have cx4:=zc hB x4
       have cx5:=zc hB x5
       have cx6:=zc hB x6
       have cx7:=zc hB x7
       have cx8:=zc hB x8
       have cx9:=zc hB x9
       exact zF (v:=.agg #[zI m.cells,zK bp op m.za.length cp,.slice ao m.order.length co,zI m.now,.slice at' m.zd.length ct,zI m.born,.slice as' m.zm.length cs,zI m.code,.slice al (xY m.za).length cl,zI (yc m.za:Int)]) hB
      ·intro a w val own hB hf zE hk
       have s5:=hf.at (d:=5) (v:=zI (k:Int)) (by kernel_rfl) rfl
       exact zF (v:=zI (k:Int)) hB
      ·intro a w val own hB hf zE hk
       have s6:=hf.at (d:=6) (v:=zI (q:Int)) (by kernel_rfl) rfl
       exact zF (v:=zI (q:Int)) hB
      ·intro a w val own hB hf zE hk
       have s32:=zU hk 2 32
       have s33:=zU hk 3 33
       have s34:=zU hk 4 34
       have VU:=hB.size
       refine uK hB rfl rfl (by unfold execOp;go_simp) ((HC.out w hB).mono ?_)
       rintro e w' ⟨v1,v2,rfl,r1,r2,hb'⟩
       refine⟨_,rfl,hb',(v1,v2),rfl,Made.new fun w1 hs _ hr=>⟨?_,?_,?_⟩⟩
       ·obtain⟨a0,c0,e0,_⟩:=r1.slice
        obtain⟨a1,c1,e1,_⟩:=r2.slice
        exact⟨a0,c0,a1,c1,e0,e1⟩
       ·exact(r1.kept hs fun g e=>hr g (r1.lt g e).1 (r1.lt g e).2).mono VU
       ·exact(r2.kept hs fun g e=>hr g (r2.lt g e).1 (r2.lt g e).2).mono VU
      ·intro a w val own hB hf zE hk
       obtain⟨kc,xc,ec,mc⟩:=hk 5 (show 5∈[2,3,4,5] by decide)
       have vc:=qI ec
       have s35:=kc 35 rfl
       rw[vc] at s35
       obtain⟨⟨a0,c0,a1,c1,q1,q2⟩,rc1,rc2⟩:=mc.here hB
       clear kc ec
       obtain⟨xa,xb⟩:=xc
       dsimp only at q1 q2
       subst q1 q2
       refine Z6 (v:=.slice (some ⟨w.heap.size,0,none⟩) 1 1) (w':=w.alloc (.cells #[.int .i64 c.m,.int .i64 c.pc,.slice a0 c.zh.length c0,.slice a1 c.zf.length c1,.int .i64 c.zi,.bool c.zy] 96)) hB rfl rfl (by unfold execOp;go_simp) (zR _ _) ⟨((.slice a0 c.zh.length c0,.slice a1 c.zf.length c1),w.heap.size),?_,Made.new fun w1 _ _ hr=>?_⟩
       ·show [val 5,_]=_
        rw[vc]
        rfl
       ·exact fun j u hu=>((Bx.new w 96 [.int .i64 c.m,.int .i64 c.pc,.slice a0 c.zh.length c0,.slice a1 c.zf.length c1,.int .i64 c.zi,.bool c.zy]).kept (hr _ zD (by simp))).cell j hu
     intro aE vI val own hB hf zE hk
     obtain⟨kc,xc,ec,mc⟩:=hk 5 (by decide)
     have vc:=qI ec
     have s35:=kc 35 rfl
     rw[vc] at s35
     obtain⟨⟨a0,c0,a1,c1,q1,q2⟩,rc1,rc2⟩:=mc.here hB
     clear kc ec
     obtain⟨kb,xb,eb,mb⟩:=hk 6 (by decide)
     have eb':[val 5,val 6]=_:=eb
     injection eb' with eba ebb
     have vb:=qI ebb
     have s36:=kb 36 rfl
     rw[vb] at s36
     obtain⟨⟨ya,yb⟩,H⟩:=xb
     have hxx:xc=(ya,yb):=by rw[vc] at eba;exact zez eba
     subst hxx
     have mh:=mb.here hB
     dsimp only at mh q1 q2 rc1 rc2
     obtain⟨kl,fl⟩:=hk 1 (by decide)
     have s31:=kl 31 rfl
     rw[Kt fl] at s31
     obtain⟨a',c',w4,hrun,g4c,g4f,hS⟩:=ThS.append (ty:=39) hth hB c _ _ rc1 rc2 H 1 mh HLN.out
     clear kl fl kb eb ebb vb vc eba mb mc mh q1 q2 rc1 rc2
     have hu:=ux hf [30,31,32,33,34,35,36,37,38] (by kernel_rfl)
     dsimp only at hu
     simp only[List.foldl_cons,List.foldl_nil,List.setIfInBounds_toArray,List.set_cons_succ,List.set_cons_zero] at hu
     rw[s31,s36] at hu
     generalize aE.tmps[30]?.getD undef=u30 at hu
     generalize aE.tmps[32]?.getD undef=u32 at hu
     generalize aE.tmps[33]?.getD undef=u33 at hu
     generalize aE.tmps[34]?.getD undef=u34 at hu
     generalize aE.tmps[35]?.getD undef=u35 at hu
     generalize aE.tmps[37]?.getD undef=u37 at hu
     generalize aE.tmps[38]?.getD undef=u38 at hu
     obtain rfl:=ZW hu (show aE.defers=[] from hf.defers)
     clear hu hk zE hf s31 s36 s35
     refine jr (v:=.slice a' (cc.length+1) c') (w':=w4) rfl rfl (uL rfl (by go_simp) (by go_simp) hrun) ?_
     simp only[Act.put]
     refine jr (v:=zJ g4 0) (w':=w4) rfl rfl (by unfold execOp;go_simp) ?_
     simp only[Act.put]
     refine uc (w':=w4.setCell (zH g4 0) (.slice a' (cc.length+1) c')) rfl rfl (by unfold execOp;go_simp) ?_
     simp only[Act.put]
     clear hrun g4c g4f
     refine wG (fun W=>ThS wS V3 g3 g4 B [zI m.cells,zK bp op m.za.length cp,.slice ao m.order.length co,zI m.now,.slice at' m.zd.length ct,zI m.born,.slice as' m.zm.length cs,zI m.code] [zI m.cells,zK bp op m.za.length cp,.slice ao m.order.length co,zI m.now,.slice at' m.zd.length ct,zI m.born,.slice as' m.zm.length cs,zI m.code,.slice al (xY m.za).length cl,zI (yc m.za:Int)] now W (.slice a' (cc.length+1) c') (cc ++ [c])) hS ?_
     rintro W5 h5
     clear hS hB
     go_wp2
     go_roundg (nf - (q+1))
     case measure=>omega
     case rel=>exact⟨q+1,_,by omega,rfl,by go_num,by rw[HCS.out];exact h5⟩
    ·obtain rfl:q=nf:=by omega
     have hqz:¬((q:Int)<(q:Int)):=by omega
     go_wp2
     go_roundg (m.za.length - (k+1))
     case measure=>omega
     case rel=>exact⟨k+1,_,by omega,rfl,by go_num,by rw[HPA.out];exact hth⟩
  ·obtain rfl:k=m.za.length:=by omega
   have v7:¬((m.za.length:Int)<(m.za.length:Int)):=by omega
   have HFA:Hid ((yR m m.za.length).length=yc m.za):=qY hk
   obtain⟨⟨x0,x1,x2,x3,x4,x5,x6,x7⟩,_⟩:=jW hth.x1
   clear hcp HFR
   go_wp2
   clear x0 x1 x2 x3 x4 x5 x6 x7
   go_loopg [8,44,45,46,47,48,49,50,51,52,53,54,55,56] m.zd.length (fun g _ i _ _ _ _ _ _ _ _ _ _ _ _ wr=>∃(q:Nat) (v:Value),q<=m.zd.length/\g=m.zd.length - q/\i=zI q/\ThS wS V3 g3 g4 B [zI m.cells,.slice ap m.za.length cp,.slice ao m.order.length co,zI m.now,.slice at' m.zd.length ct,zI m.born,.slice as' m.zm.length cs,zI m.code] [zI m.cells,.slice ap m.za.length cp,.slice ao m.order.length co,zI m.now,.slice at' m.zd.length ct,zI m.born,.slice as' m.zm.length cs,zI m.code,.slice al (xY m.za).length cl,zI (yc m.za:Int)] now wr v (yR m m.za.length ++ qV m q))
   case atStart=>exact⟨0,_,Nat.zero_le _,rfl,rfl,by simpa [qV] using hth⟩
   case round =>
    clear hth
    obtain⟨q,v,hq,rfl,rfl,hth⟩:=hrel
    by_cases hqt:q<m.zd.length
    ·have hqz:(q:Int)<(m.zd.length:Int):=by omega
     have HCS:Hid (yR m m.za.length ++ qV m (q+1)=(yR m m.za.length ++ qV m q) ++ [xl m m.zd[q]]):=by show _=_;rw[Ur,ut hqt,List.append_assoc]
     have HLN:Hid ((yR m m.za.length ++ qV m q).length<=900000):=by show _<=_;rw[List.length_append,HFA.out,ki];omega
     obtain⟨cc,hcc⟩:∃cc,yR m m.za.length ++ qV m q=cc:=⟨_,rfl⟩
     rw[hcc] at hth HCS HLN
     obtain⟨bt,ot,U4,vs',hat,ZT⟩:=hct q hqt
     subst hat
     have htr:=ZT.below hth.b
     have HC0:=fun(W:World) (hp:Pl W _ _ _ _ _ m)=>HTW.out W (.slice al (xY m.za).length cl) U4 vs' q hqt hp
     obtain⟨T,hTe⟩:∃T,m.zd[q]=T:=⟨_,rfl⟩
     rw[hTe] at htr HC0 HCS
     obtain⟨c,hc⟩:∃c,xl m T=c:=⟨_,rfl⟩
     rw[hc] at HC0 HCS
     obtain⟨d0,d1,d2,d3,d4,d5,d6,d7,dt,ds⟩:=htr
     obtain⟨b1,k3,e1⟩:=dt.shape
     obtain⟨b2,k4,e2⟩:=ds.shape
     subst e1 e2
     clear hc hcc hTe ZT HTW hct
     go_upto_region 15 with fail
     refine yg (fun W=>zO wr W/\Bx W wr.heap.size 124 [.int .i64 T.page,.int .i64 T.place,.int .i64 T.left.m,.int .i64 T.left.pc,.slice b1 T.left.zh.length k3,.slice b2 T.left.zf.length k4,.int .i64 T.left.zi,.bool T.left.zy]) ⟨zR _ _,Bx.new _ _ _⟩ ?_
     rintro W7 ⟨t7,y7'⟩
     replace hth:=hth.below t7
     replace dt:=dt.below t7
     replace ds:=ds.below t7
     clear t7 d0 d1 d2 d3 d4 d5 d6 d7
     have HC:Hid (∀(W:World),zO W7 W->_):=fun W hW=>HC0 W ((hP3.below (hth.b3.mono (Nat.le_of_eq hth.e3))).below hW) (dt.below hW) (ds.below hW)
     clear HC0 dt ds
     obtain⟨a2,k2,hv2⟩:=hth.t.slice
     subst hv2
     have h0:=hth.x4.cell 0 rfl
     obtain⟨⟨x0,x1,x2,x3,x4,x5,x6,x7,x8,x9⟩,_⟩:=Ys hth.x3
     obtain⟨⟨y0,y1,y2,y3,y4,y5,y6,y7⟩,_⟩:=jW y7'
     refine XJ [[],[0],[],[],[2,3],[2,3,4],[0,1,2,3,4,5],[0,1,2,3,4,5,6],[0,1,2,3,4,5,6,7]] [[0],[1],[2],[3],[4],[4,5],[],[],[]] [[],[],[],[],[],[],[],[],[]] [jy (zJ g4 0),jy (.slice a2 cc.length k2),jy (.agg #[zI m.cells,.slice ap m.za.length cp,.slice ao m.order.length co,zI m.now,zK bt ot m.zd.length ct,zI m.born,.slice as' m.zm.length cs,zI m.code,.slice al (xY m.za).length cl,zI (yc m.za:Int)]),jy (.agg #[zI T.page,zI T.place,zI T.left.m,zI T.left.pc,.slice b1 T.left.zh.length k3,.slice b2 T.left.zf.length k4,zI T.left.zi,.bool T.left.zy]),fGh 4 (fun(x:Value × Value) l=>l=[.agg #[zI c.m,zI c.pc,x.1,x.2,zI c.zi,.bool c.zy]]) (fun x w1=>(∃a0 c0 a1 c1,x.1=.slice a0 c.zh.length c0/\x.2=.slice a1 c.zf.length c1)/\zl W7.heap.size w1 x.1 c.zh/\zl W7.heap.size w1 x.2 c.zf),fGh 5 (fun(x:(Value × Value) × Nat) l=>l=[.agg #[zI c.m,zI c.pc,x.1.1,x.1.2,zI c.zi,.bool c.zy],zK x.2 0 1 1]) (fun x w1=>∀j u,([zI c.m,zI c.pc,x.1.1,x.1.2,zI c.zi,.bool c.zy]:List Value)[j]?=some u->w1.cell? (zH x.2 j)=some u),JD fun _=>True,JD fun _=>True,JD fun _=>True] 6 2 rfl (by kernel_rfl) (by kernel_rfl) (by kernel_rfl) (by kernel_rfl) ?_ ?_
     ·refine zk (zk (zk (zk (zk (zk (jE) ?_) ?_) ?_) ?_) ?_) ?_
      ·intro a w val own hB hf zE hk
       have s4:=hf.at (d:=4) (v:=zJ g4 0) (by kernel_rfl) rfl
       exact zF (v:=zJ g4 0) hB
      ·intro a w val own hB hf zE hk
       have s48:=zU hk 0 48
       have ch:=zc hB h0
       exact zF (v:=.slice a2 cc.length k2) hB
      ·intro a w val own hB hf zE hk
       have s3:=hf.at (d:=3) (v:=zJ g3 0) (by kernel_rfl) rfl
       have cx0:=zc hB x0
       have cx1:=zc hB x1
       have cx2:=zc hB x2
       have cx3:=zc hB x3
       have cx4:=zc hB x4
       have cx5:=zc hB x5
       have cx6:=zc hB x6
       have cx7:=zc hB x7
       have cx8:=zc hB x8
       have cx9:=zc hB x9
       exact zF (v:=.agg #[zI m.cells,.slice ap m.za.length cp,.slice ao m.order.length co,zI m.now,zK bt ot m.zd.length ct,zI m.born,.slice as' m.zm.length cs,zI m.code,.slice al (xY m.za).length cl,zI (yc m.za:Int)]) hB
      ·intro a w val own hB hf zE hk
       have s8:=hf.at (d:=8) (v:=zJ wr.heap.size 0) (by kernel_rfl) rfl
       have cy0:=zc hB y0
       have cy1:=zc hB y1
       have cy2:=zc hB y2
       have cy3:=zc hB y3
       have cy4:=zc hB y4
       have cy5:=zc hB y5
       have cy6:=zc hB y6
       have cy7:=zc hB y7
       exact zF (v:=.agg #[zI T.page,zI T.place,zI T.left.m,zI T.left.pc,.slice b1 T.left.zh.length k3,.slice b2 T.left.zf.length k4,zI T.left.zi,.bool T.left.zy]) hB
      ·intro a w val own hB hf zE hk
       have s50:=zU hk 2 50
       have s51:=zU hk 3 51
       have VU:=hB.size
       refine uK hB rfl rfl (by unfold execOp;go_simp) ((HC.out w hB).mono ?_)
       rintro e w' ⟨v1,v2,rfl,r1,r2,hb'⟩
       refine⟨_,rfl,hb',(v1,v2),rfl,Made.new fun w1 hs _ hr=>⟨?_,?_,?_⟩⟩
       ·obtain⟨a0,c0,e0,_⟩:=r1.slice
        obtain⟨a1,c1,e1,_⟩:=r2.slice
        exact⟨a0,c0,a1,c1,e0,e1⟩
       ·exact(r1.kept hs fun g e=>hr g (r1.lt g e).1 (r1.lt g e).2).mono VU
       ·exact(r2.kept hs fun g e=>hr g (r2.lt g e).1 (r2.lt g e).2).mono VU
      ·intro a w val own hB hf zE hk
       obtain⟨kc,xc,ec,mc⟩:=hk 4 (show 4∈[2,3,4] by decide)
       have vc:=qI ec
       have s52:=kc 52 rfl
       rw[vc] at s52
       obtain⟨⟨a0,c0,a1,c1,q1,q2⟩,rc1,rc2⟩:=mc.here hB
       clear kc ec
       obtain⟨xa,xb⟩:=xc
       dsimp only at q1 q2
       subst q1 q2
       refine Z6 (v:=.slice (some ⟨w.heap.size,0,none⟩) 1 1) (w':=w.alloc (.cells #[.int .i64 c.m,.int .i64 c.pc,.slice a0 c.zh.length c0,.slice a1 c.zf.length c1,.int .i64 c.zi,.bool c.zy] 96)) hB rfl rfl (by unfold execOp;go_simp) (zR _ _) ⟨((.slice a0 c.zh.length c0,.slice a1 c.zf.length c1),w.heap.size),?_,Made.new fun w1 _ _ hr=>?_⟩
       ·show [val 4,_]=_
        rw[vc]
        rfl
       ·exact fun j u hu=>((Bx.new w 96 [.int .i64 c.m,.int .i64 c.pc,.slice a0 c.zh.length c0,.slice a1 c.zf.length c1,.int .i64 c.zi,.bool c.zy]).kept (hr _ zD (by simp))).cell j hu
     intro aE vI val own hB hf zE hk
     obtain⟨kc,xc,ec,mc⟩:=hk 4 (by decide)
     have vc:=qI ec
     have s52:=kc 52 rfl
     rw[vc] at s52
     obtain⟨⟨a0,c0,a1,c1,q1,q2⟩,rc1,rc2⟩:=mc.here hB
     clear kc ec
     obtain⟨kb,xb,eb,mb⟩:=hk 5 (by decide)
     have eb':[val 4,val 5]=_:=eb
     injection eb' with eba ebb
     have vb:=qI ebb
     have s53:=kb 53 rfl
     rw[vb] at s53
     obtain⟨⟨ya,yb⟩,H⟩:=xb
     have hxx:xc=(ya,yb):=by rw[vc] at eba;exact zez eba
     subst hxx
     have mh:=mb.here hB
     dsimp only at mh q1 q2 rc1 rc2
     obtain⟨kl,fl⟩:=hk 1 (by decide)
     have s49:=kl 49 rfl
     rw[Kt fl] at s49
     obtain⟨a',c',w4,hrun,g4c,g4f,hS⟩:=ThS.append (ty:=39) hth hB c _ _ rc1 rc2 H 1 mh HLN.out
     clear kl fl kb eb ebb vb vc eba mb mc mh q1 q2 rc1 rc2
     have hu:=ux hf [48,49,50,51,52,53,54,55] (by kernel_rfl)
     dsimp only at hu
     simp only[List.foldl_cons,List.foldl_nil,List.setIfInBounds_toArray,List.set_cons_succ,List.set_cons_zero] at hu
     rw[s49,s53] at hu
     generalize aE.tmps[48]?.getD undef=u48 at hu
     generalize aE.tmps[50]?.getD undef=u50 at hu
     generalize aE.tmps[51]?.getD undef=u51 at hu
     generalize aE.tmps[52]?.getD undef=u52 at hu
     generalize aE.tmps[54]?.getD undef=u54 at hu
     generalize aE.tmps[55]?.getD undef=u55 at hu
     obtain rfl:=ZW hu (show aE.defers=[] from hf.defers)
     clear hu hk zE hf s49 s53 s52
     refine jr (v:=.slice a' (cc.length+1) c') (w':=w4) rfl rfl (uL rfl (by go_simp) (by go_simp) hrun) ?_
     simp only[Act.put]
     refine jr (v:=zJ g4 0) (w':=w4) rfl rfl (by unfold execOp;go_simp) ?_
     simp only[Act.put]
     refine uc (w':=w4.setCell (zH g4 0) (.slice a' (cc.length+1) c')) rfl rfl (by unfold execOp;go_simp) ?_
     simp only[Act.put]
     clear hrun g4c g4f
     refine wG (fun W=>ThS wS V3 g3 g4 B [zI m.cells,.slice ap m.za.length cp,.slice ao m.order.length co,zI m.now,zK bt ot m.zd.length ct,zI m.born,.slice as' m.zm.length cs,zI m.code] [zI m.cells,.slice ap m.za.length cp,.slice ao m.order.length co,zI m.now,zK bt ot m.zd.length ct,zI m.born,.slice as' m.zm.length cs,zI m.code,.slice al (xY m.za).length cl,zI (yc m.za:Int)] now W (.slice a' (cc.length+1) c') (cc ++ [c])) hS ?_
     rintro W5 h5
     clear hS hB
     go_wp2
     go_roundg (m.zd.length - (q+1))
     case measure=>omega
     case rel=>exact⟨q+1,_,by omega,rfl,by go_num,by rw[HCS.out];exact h5⟩
    ·obtain rfl:q=m.zd.length:=by omega
     have hqz:¬((m.zd.length:Int)<(m.zd.length:Int)):=by omega
     obtain⟨a2,k2,hv2⟩:=hth.t.slice
     subst hv2
     have Kx:=hth.x4
     have uW:=hth.x2
     have hb9:=hth.b
     have ht9:=hth.t
     have q3:=hth.q3
     have q4:=hth.q4
     have qB:=hth.qB
     clear hth
     have HCS:Hid (yR m m.za.length ++ qV m m.zd.length=(yQ m).ze):=rfl
     obtain⟨cs9,hcs9⟩:∃cs9,yR m m.za.length ++ qV m m.zd.length=cs9:=⟨_,rfl⟩
     rw[hcs9] at Kx ht9 HCS
     obtain⟨n9,hn9⟩:∃n9,cs9.length=n9:=⟨_,rfl⟩
     rw[hn9] at Kx ht9
     have HNW:Hid (kF m=now):=YK
     clear hn9 hcs9 YK HFA HTW hct hP3
     have p0:=Kx.cell 0 rfl
     have r0:=uW.cell 0 rfl
     have f0:=uW.frozen 0
     have p1:=Kx.cell 1 rfl
     have r1:=uW.cell 1 rfl
     have f1:=uW.frozen 1
     have p2:=Kx.cell 2 rfl
     have r2:=uW.cell 2 rfl
     have f2:=uW.frozen 2
     have p3:=Kx.cell 3 rfl
     have r3:=uW.cell 3 rfl
     have f3:=uW.frozen 3
     have p4:=Kx.cell 4 rfl
     have r4:=uW.cell 4 rfl
     have f4:=uW.frozen 4
     go_wp2
     refine xW (fun W=>zO wS W/\Bx W (wS.heap.size+1) 44 [.slice a2 n9 k2,zI now,zI 0,zQ,zI 0]/\J1 B W (.slice a2 n9 k2) cs9) ?_ ?_
     ·have HW:=(((((Wr.refl1 (wS.heap.size+1) wr).set1 (o:=0) (.slice a2 n9 k2)).set1 (o:=1) (zI now)).set1 (o:=2) (zI 0)).set1 (o:=3) (zQ)).set1 (o:=4) (zI 0)
      exact⟨HW.below1 hb9 zD (Nat.le_succ _),((((uW.set 0 _).set 1 _).set 2 _).set 3 _).set 4 _,ht9.wr HW (by omega)⟩
     rintro W9 ⟨B9,x9,r9⟩
     have i0:=x9.cell 0 rfl
     have i1:=x9.cell 1 rfl
     have i2:=x9.cell 2 rfl
     have i3:=x9.cell 3 rfl
     have i4:=x9.cell 4 rfl
     exact bodyPost_ret (v:=.agg #[.slice a2 n9 k2,zI now,zI 0,zQ,zI 0]) (by simp[results,Tryz.results50,go_sem,i0,i1,i2,i3,i4]) rfl ⟨_,by rw[HNW.out],HCS.out ▸ r9.at,B9⟩
def wJ (ms:zM) (m:Mc):Bool :=
 yn ms && (qP m.za.length m.cells && (kz m && (Ke m && (qy m.born 1 30 && (decide ((Zx m:Int)<=m.born) && (yI ms.length m.zm && (qy m.code 0 3 && ((m.code == 1) == (m.now == -1)))))))))
noncomputable def vC (ms:zM) (m:Mc):Bool :=
 wJ ms m && ((List.range m.za.length).all (fun i=>jY ms m i (pgAt m (i:Int))) && ((List.range m.zd.length).all (fun j=>kj ms m j (uU m (j:Int))) && ZQ (yQ m).ze (yQ m).now))
theorem kY {ms:zM} {m:Mc} (h:wJ ms m=false):vC ms m=false:=by unfold vC;rw[h];rfl
theorem zcq {ms:zM} {m:Mc} {k:Nat} (hk:k<m.za.length) (h:jY ms m k m.za[k]=false):vC ms m=false:=by
 unfold vC
 rw[show(List.range m.za.length).all (fun i=>jY ms m i (pgAt m (i:Int)))=false from List.all_eq_false.2 ⟨k,List.mem_range.2 hk,by rw[kE hk,h];simp⟩]
 simp
theorem zcr {ms:zM} {m:Mc} {k:Nat} (hk:k<m.zd.length) (h:kj ms m k m.zd[k]=false):vC ms m=false:=by
 unfold vC
 rw[show(List.range m.zd.length).all (fun i=>kj ms m i (uU m (i:Int)))=false from List.all_eq_false.2 ⟨k,List.mem_range.2 hk,by rw[ut hk,h];simp⟩]
 simp
theorem UI {ms:zM} {m:Mc} (h0:wJ ms m=true) (h1:∀k,(hk:k<m.za.length)->jY ms m k m.za[k]=true) (h2:∀k,(hk:k<m.zd.length)->kj ms m k m.zd[k]=true):vC ms m=ZQ (yQ m).ze (yQ m).now:=by
 unfold vC
 rw[h0,show(List.range m.za.length).all (fun i=>jY ms m i (pgAt m (i:Int)))=true from List.all_eq_true.2 fun i hi=>by rw[kE (List.mem_range.1 hi)];exact h1 i (List.mem_range.1 hi),
  show(List.range m.zd.length).all (fun i=>kj ms m i (uU m (i:Int)))=true from List.all_eq_true.2 fun i hi=>by rw[ut (List.mem_range.1 hi)];exact h2 i (List.mem_range.1 hi)]
 simp
theorem Qy {ps:List Pg} {B:Nat} (h:∀i,(hi:i<ps.length)->ps[i].zg.length<=B):∀k,k<=ps.length->qc ps k<=k * B
 | 0,_=>by simp[uH]
 | k+1,hk=>by
  rw[xB (show k<ps.length from hk),Nat.succ_mul]
  have:=Qy h k (by omega)
  have:=h k hk
  omega
theorem zds {ms:zM} {n:Nat} {c:Cl} (hp:yn ms=true) (h:kf ms n c=true):c.zh.length<=1000/\c.zf.length<=1000:=by
 simp only[kf,Bool.and_eq_true,zx,decide_eq_true_iff] at h
 obtain⟨⟨⟨⟨h1,_⟩,h2⟩,h3⟩,_⟩:=h
 simp only[yn,Bool.and_eq_true] at hp
 obtain⟨k,hk⟩:=Int.eq_ofNat_of_zero_le h1.1
 rw[hk] at h2
 have hl:k<ms.length:=by omega
 have:=List.all_eq_true.1 hp.2 ms[k] (List.getElem_mem hl)
 simp only[qe,Bool.and_eq_true,zx,decide_eq_true_iff] at this
 simp only[Int.toNat_natCast,List.getD_eq_getElem?_getD,List.getElem?_eq_getElem hl,Option.getD_some] at h2
 omega
theorem XV {ms:zM} {n:Nat} {c:Cl} (h:kf ms n c=true):qy c.zi (-1) ((n:Int) - 1)=true/\yI n c.zh=true/\yI n c.zf=true:=by
 simp only[kf,Bool.and_eq_true] at h
 exact⟨h.2.1.1.1,h.2.1.1.2,h.2.1.2⟩
theorem JX {n:Nat} {l:yH} (h:yI n l=true) {q:Nat} (hq:q<l.length) (h2:l[q].1=2):qy l[q].2 0 ((n:Int) - 1)=true:=by
 have:=List.all_eq_true.1 h l[q] (List.getElem_mem hq)
 unfold qW at this
 rw[h2] at this
 simpa using this
theorem Ky {ms:zM} {m:Mc} (h:∀k,(hk:k<m.zd.length)->kj ms m k m.zd[k]=true) {j:Int} (hj:qy j 0 ((m.zd.length:Int) - 1)=true):qU m j=true:=by
 obtain⟨k,rfl,hk⟩:=zdi hj
 unfold qU
 rw[hj,ut hk,Bool.true_and]
 have:=h k hk
 unfold kj at this
 by_cases e:m.zd[k].page=-1
 ·simp[e]
 ·rw[if_neg e] at this
  rw[(Bool.and_eq_true_iff.1 this).1]
  simp
theorem zgp {ms:zM} {m:Mc} (hp:yn ms=true) (h1:∀k,(hk:k<m.za.length)->jY ms m k m.za[k]=true) (h2:∀k,(hk:k<m.zd.length)->kj ms m k m.zd[k]=true):zdm m:=by
 have fine:∀c,kf ms m.zd.length c=true->(c.zh.length<=1000/\c.zf.length<=1000)/\(∀q,(hq:q<c.zh.length)->c.zh[q].1=2->qU m c.zh[q].2=true)/\(∀q,(hq:q<c.zf.length)->c.zf[q].1=2->qU m c.zf[q].2=true):=fun c hc =>
  ⟨zds hp hc,fun q hq e=>Ky h2 (JX (XV hc).2.1 hq e),fun q hq e=>Ky h2 (JX (XV hc).2.2 hq e)⟩
 refine⟨fun i k hi hk=>?_,fun i hi=>?_,fun j hj=>?_⟩
 ·have:=h1 i hi
  unfold jY at this
  have:=List.all_eq_true.1 (Bool.and_eq_true_iff.1 this).1 k (List.mem_range.2 hk)
  unfold jJ at this
  have:=fine _ (Bool.and_eq_true_iff.1 this).1
  simp only[zax,List.getD_eq_getElem?_getD,List.getElem?_eq_getElem hk,Option.getD_some] at this
  exact this
 ·have:=h1 i hi
  unfold jY at this
  have:=(Bool.and_eq_true_iff.1 (Bool.and_eq_true_iff.1 this).2).2
  unfold uk at this
  rw[Bool.or_eq_true] at this ⊢
  rcases this with h | h
  ·exact Or.inl h
  ·exact Or.inr (Ky h2 (Bool.and_eq_true_iff.1 (Bool.and_eq_true_iff.1 h).1).2)
 ·have:=h2 j hj
  unfold kj at this
  by_cases e:m.zd[j].page=-1
  ·rw[if_pos e] at this
   have hc:=(Bool.and_eq_true_iff.1 this).2
   obtain⟨f1,f2,f3⟩:=fine _ hc
   refine⟨f1,fun _=>⟨?_,fun i hi hk=>by rw[f2 i hi hk];simp,fun i hi hk=>by rw[f3 i hi hk];simp⟩⟩
   have hs:=zx.1 (XV hc).1
   by_cases e1:m.zd[j].left.zi=-1
   ·rw[e1];rfl
   ·rw[Ky h2 (zx.2 ⟨by omega,hs.2⟩)];simp
  ·rw[if_neg e] at this
   have he:=(Bool.and_eq_true_iff.1 (Bool.and_eq_true_iff.1 this).2).2
   simp only[kO,Bool.and_eq_true,decide_eq_true_iff] at he
   exact⟨⟨by omega,by omega⟩,fun h=>absurd h e⟩
theorem uJ {P:Program} {f:FuncId} {args:Array Value} {X:Value} {W:World} (h:∀w,Calls P f args w fun e w'=>e=.returned X/\w'=w):∀w,Gr W w->Calls P f args w fun e w''=>e=.returned X/\Gr W w'' :=
 fun w hw=>(h w).mono fun _ _ ⟨he,hb⟩=>⟨he,hb ▸ hw⟩
theorem K5 (vq:Value) (ms:zM) (vp vo vt vs:Value) (m:Mc) (w:World) (hq:yD w vq ms) (h:yC w vp vo vt vs m) (hsm:m.small) (htn:m.zd.length<=800000) :
 Calls Tryz.prog 27 #[.agg #[vq],.agg (zu vp vo vt vs m).toArray] w fun e w'=>e=.returned (.bool (vC ms m))/\zO w w':=by
 have HSM:Hid m.small:=hsm
 clear hsm
 obtain⟨aq,cq,hvq,hlq,hcq⟩:=id hq
 subst hvq
 obtain⟨ap,cp,qz,hlp,hcp⟩:=id h.p
 obtain⟨ao,co,jw,hlo,hco⟩:=id h.o
 obtain⟨at',ct,jA,hlt',hct⟩:=id h.t
 obtain⟨as',cs,jG⟩:=h.s.shape
 subst qz jw jA jG
 unfold zu
 go_enter Tryz.func27,Tryz.ntmps27
 go_upto_region 1 with fail
 refine yg (fun W=>zO w W/\Bx W w.heap.size 25 [.slice aq ms.length cq]/\Bx W (w.heap.size+1) 34 [.int .i64 m.cells,.slice ap m.za.length cp,.slice ao m.order.length co,.int .i64 m.now,.slice at' m.zd.length ct,.int .i64 m.born,.slice as' m.zm.length cs,.int .i64 m.code]) ⟨(zR _ _).alloc (by simp) _,(Bx.new w _ _).alloc _,Bx.newAt _ _ _ (by simp)⟩ ?_
 rintro W ⟨hb,hx,hm⟩
 have x0:=hx.cell 0 rfl
 obtain⟨⟨m0,m1,m2,m3,m4,m5,m6,m7⟩,_⟩:=jW hm
 have HQ0:Hid (yD w (.slice aq ms.length cq) ms):=hq
 have HM0:Hid (yC w (.slice ap m.za.length cp) (.slice ao m.order.length co) (.slice at' m.zd.length ct) (.slice as' m.zm.length cs) m):=h
 clear hq h hcq hcp hco hct
 have zb:=hb.size
 go_wp2_with fail
 refine(YM _ ms _ (HQ0.out.below hb)).mono ?_
 rintro e W1 ⟨rfl,t1⟩
 have qk:=hb.trans (t1.mono zb)
 have V8:=hm.below t1
 have ZH:=hx.below t1
 have zb1:=qk.size
 clear t1 hm hx hb zb x0 m0 m1 m2 m3 m4 m5 m6 m7
 obtain⟨⟨m0,m1,m2,m3,m4,m5,m6,m7⟩,_⟩:=jW V8
 have x0:=ZH.cell 0 rfl
 cases h1:yn ms
 ·have HE:Hid (vC ms m=false):=kY (by unfold wJ;simp[h1])
  go_wp2
  go_ret
  exact⟨zp HE.out.symm,qk⟩
 have HOPS:Hid (∀i,(hi:i<ms.length)->ms[i].2.2.length<=1000000):=zgj h1
 obtain⟨f2,hf2⟩:∃f,qP m.za.length m.cells=f:=⟨_,rfl⟩
 have HR:=JP m.za.length m.cells W1
 rw[hf2] at HR
 go_wp2_with fail
 refine HR.mono ?_
 rintro e W2 ⟨rfl,hw⟩
 obtain rfl:=hw.symm
 clear hw HR
 cases f2
 ·have HE:Hid (vC ms m=false):=kY (by unfold wJ;simp[hf2])
  go_wp2
  go_ret
  exact⟨zp HE.out.symm,qk⟩
 have hpl:1<=m.za.length/\m.za.length<=4:=by
  have:=hf2
  simp only[qP,Bool.and_eq_true,zx] at this
  omega
 obtain⟨f3,hf3⟩:∃f,kz m=f:=⟨_,rfl⟩
 have HR:=za7 _ _ _ _ m W1 (HM0.out.below qk)
 rw[hf3] at HR
 unfold zu at HR
 go_wp2_with fail
 refine HR.mono ?_
 rintro e W3 ⟨rfl,t3⟩
 clear HR
 have qR:=qk.trans (t3.mono zb1)
 have Kw:=V8.below t3
 have QX:=ZH.below t3
 have zb3:=qR.size
 clear t3 V8 ZH qk zb1 x0 m0 m1 m2 m3 m4 m5 m6 m7
 obtain⟨⟨m0,m1,m2,m3,m4,m5,m6,m7⟩,_⟩:=jW Kw
 have x0:=QX.cell 0 rfl
 cases f3
 ·have HE:Hid (vC ms m=false):=kY (by unfold wJ;simp[hf3])
  go_wp2
  go_ret
  exact⟨zp HE.out.symm,qR⟩
 obtain⟨f4,hf4⟩:∃f,Ke m=f:=⟨_,rfl⟩
 have HR:=zd3 _ _ _ _ m W3 (HM0.out.below qR) hf3 hpl.1
 rw[hf4] at HR
 unfold zu at HR
 go_wp2_with fail
 refine HR.mono ?_
 rintro e W4 ⟨rfl,t4⟩
 clear HR
 have Za:=qR.trans (t4.mono zb3)
 have hm4:=Kw.below t4
 have Kx:=QX.below t4
 have zb4:=Za.size
 clear t4 Kw QX qR zb3 x0 m0 m1 m2 m3 m4 m5 m6 m7
 obtain⟨⟨m0,m1,m2,m3,m4,m5,m6,m7⟩,_⟩:=jW hm4
 have x0:=Kx.cell 0 rfl
 cases f4
 ·have HE:Hid (vC ms m=false):=kY (by unfold wJ;simp[hf4])
  go_wp2
  go_ret
  exact⟨zp HE.out.symm,Za⟩
 have hfn:yc m.za<=4 * 1048576:=by
  have:=Qy HSM.out.zg m.za.length zD
  have h4:m.za.length * 1048576<=4 * 1048576:=Nat.mul_le_mul_right _ hpl.2
  exact Nat.le_trans this h4
 have HCO:=jp (W:=W4) fun W' (hW:zO W4 W')=>zal _ _ _ _ m W' ((HM0.out.below Za).below hW) (by omega) (by omega) (by omega)
 unfold zu at HCO
 have HBO:=uJ (W:=W4) fun W'=>K3 m.born W'
 have HSO:=jp (W:=W4) fun W' (hW:zO W4 W')=>K7 _ _ ms m.zm W' ((HQ0.out.below Za).below hW) ((HM0.out.below Za).below hW).s
 have HKO:=uJ (W:=W4) fun W'=>K4 m.code m.now W'
 have hcl:Zx m<=4 * 1048576+800000:=by
  unfold Zx
  have:=za3 m.zd m.zd.length
  omega
 obtain⟨C,hC⟩:∃C,Zx m=C:=⟨_,rfl⟩
 obtain⟨f5,hf5⟩:∃f,qy m.born 1 30=f:=⟨_,rfl⟩
 obtain⟨f7,hf7⟩:∃f,yI ms.length m.zm=f:=⟨_,rfl⟩
 obtain⟨f8,hf8⟩:∃f,(qy m.code 0 3 && ((m.code == 1) == (m.now == -1)))=f:=⟨_,rfl⟩
 rw[hC] at HCO hcl
 rw[hf5] at HBO
 rw[hf7] at HSO
 rw[hf8] at HKO
 have HC:Hid (Zx m=C):=hC
 have H5:Hid (qy m.born 1 30=f5):=hf5
 have H7:Hid (yI ms.length m.zm=f7):=hf7
 have H8:Hid ((qy m.code 0 3 && ((m.code == 1) == (m.now == -1)))=f8):=hf8
 have H14:Hid (yn ms=true/\qP m.za.length m.cells=true/\kz m=true/\Ke m=true):=⟨h1,hf2,hf3,hf4⟩
 clear hC hf5 hf7 hf8 h1 hf2 hf3 hf4
 go_upto_region 3 with fail
 have L0:=Gr.cell m0
 have L1:=Gr.cell m1
 have L2:=Gr.cell m2
 have L3:=Gr.cell m3
 have L4:=Gr.cell m4
 have L5:=Gr.cell m5
 have L6:=Gr.cell m6
 have L7:=Gr.cell m7
 have LX:=Gr.cell x0
 cases f5
 ·have HE:Hid (vC ms m=false):=kY (by unfold wJ;simp[H5.out])
  clear x0 m0 m1 m2 m3 m4 m5 m6 m7
  refine WQ.region (by kernel_rfl) (by kernel_rfl) ?_
  iterate 26 (refine WQ.step (fun K hK=>?_);go_simp;first
   | (with_reducible refine hK _ ?_;clear hK K)
   | (with_reducible refine qC ?_;refine hK _ ?_;clear hK K)
   | (simp(contextual:=true) only [L5,Result.andThen_ok,true_and];with_reducible refine qC ?_;refine hK _ ?_;clear hK K)
   | (with_reducible refine yF HBO ?_;refine hK _ ?_;clear hK K)
   | (with_reducible refine yF HCO ?_;refine hK _ ?_;clear hK K)
   | (with_reducible refine yF HSO ?_;refine hK _ ?_;clear hK K)
   | (with_reducible refine yF HKO ?_;refine hK _ ?_;clear hK K))
  refine WQ.nil ?_
  intro W5 hG5
  have XK:=Za.trans (hG5.to.mono zb4)
  clear hG5 L0 L1 L2 L3 L4 L5 L6 L7 LX
  go_wp2
  go_ret
  exact⟨zp HE.out.symm,XK⟩
 by_cases hcc:m.born<(C:Int)
 ·have HE:Hid (vC ms m=false):=kY (by unfold wJ;simp[HC.out,Int.not_le.2 hcc])
  clear x0 m0 m1 m2 m3 m4 m5 m6 m7
  refine WQ.region (by kernel_rfl) (by kernel_rfl) ?_
  iterate 26 (refine WQ.step (fun K hK=>?_);go_simp;first
   | (with_reducible refine hK _ ?_;clear hK K)
   | (with_reducible refine qC ?_;refine hK _ ?_;clear hK K)
   | (simp(contextual:=true) only [L0,L1,L2,L3,L4,L5,L6,L7,Result.andThen_ok,true_and];with_reducible refine qC ?_;refine hK _ ?_;clear hK K)
   | (with_reducible refine yF HBO ?_;refine hK _ ?_;clear hK K)
   | (with_reducible refine yF HCO ?_;refine hK _ ?_;clear hK K)
   | (with_reducible refine yF HSO ?_;refine hK _ ?_;clear hK K)
   | (with_reducible refine yF HKO ?_;refine hK _ ?_;clear hK K))
  refine WQ.nil ?_
  intro W5 hG5
  have XK:=Za.trans (hG5.to.mono zb4)
  clear hG5 L0 L1 L2 L3 L4 L5 L6 L7 LX
  go_wp2
  go_ret
  exact⟨zp HE.out.symm,XK⟩
 have hcc2:(C:Int)<=m.born:=by omega
 cases f7
 ·have HE:Hid (vC ms m=false):=kY (by unfold wJ;simp[H7.out])
  clear x0 m0 m1 m2 m3 m4 m5 m6 m7
  refine WQ.region (by kernel_rfl) (by kernel_rfl) ?_
  iterate 26 (refine WQ.step (fun K hK=>?_);go_simp;first
   | (with_reducible refine hK _ ?_;clear hK K)
   | (with_reducible refine qC ?_;refine hK _ ?_;clear hK K)
   | (simp(contextual:=true) only [L0,L1,L2,L3,L4,L5,L6,L7,LX,Result.andThen_ok,true_and];with_reducible refine qC ?_;refine hK _ ?_;clear hK K)
   | (with_reducible refine yF HBO ?_;refine hK _ ?_;clear hK K)
   | (with_reducible refine yF HCO ?_;refine hK _ ?_;clear hK K)
   | (with_reducible refine yF HSO ?_;refine hK _ ?_;clear hK K)
   | (with_reducible refine yF HKO ?_;refine hK _ ?_;clear hK K))
  refine WQ.nil ?_
  intro W5 hG5
  have XK:=Za.trans (hG5.to.mono zb4)
  clear hG5 L0 L1 L2 L3 L4 L5 L6 L7 LX
  go_wp2
  go_ret
  exact⟨zp HE.out.symm,XK⟩
 cases f8
 ·have HE:Hid (vC ms m=false):=kY (by unfold wJ;rw[H8.out];simp)
  clear x0 m0 m1 m2 m3 m4 m5 m6 m7
  refine WQ.region (by kernel_rfl) (by kernel_rfl) ?_
  iterate 26 (refine WQ.step (fun K hK=>?_);go_simp;first
   | (with_reducible refine hK _ ?_;clear hK K)
   | (with_reducible refine qC ?_;refine hK _ ?_;clear hK K)
   | (simp(contextual:=true) only [L0,L1,L2,L3,L4,L5,L6,L7,LX,Result.andThen_ok,true_and];with_reducible refine qC ?_;refine hK _ ?_;clear hK K)
   | (with_reducible refine yF HBO ?_;refine hK _ ?_;clear hK K)
   | (with_reducible refine yF HCO ?_;refine hK _ ?_;clear hK K)
   | (with_reducible refine yF HSO ?_;refine hK _ ?_;clear hK K)
   | (with_reducible refine yF HKO ?_;refine hK _ ?_;clear hK K))
  refine WQ.nil ?_
  intro W5 hG5
  have XK:=Za.trans (hG5.to.mono zb4)
  clear hG5 L0 L1 L2 L3 L4 L5 L6 L7 LX
  go_wp2
  go_ret
  exact⟨zp HE.out.symm,XK⟩
 have HHD:Hid (wJ ms m=true):=by
  show _=_
  unfold wJ
  obtain⟨e1,e2,e3,e4⟩:=H14.out
  rw[e1,e2,e3,e4,H5.out,HC.out,H7.out,H8.out]
  simpa using hcc2
 have HFN:Hid (yc m.za<=30):=by
  have:=HC.out
  have h5:=zx.1 H5.out
  unfold Zx at this
  show _<=_
  omega
 clear x0 m0 m1 m2 m3 m4 m5 m6 m7
 refine WQ.region (by kernel_rfl) (by kernel_rfl) ?_
 iterate 26 (refine WQ.step (fun K hK=>?_);go_simp;first
  | (with_reducible refine hK _ ?_;clear hK K)
  | (with_reducible refine qC ?_;refine hK _ ?_;clear hK K)
  | (simp(contextual:=true) only [L0,L1,L2,L3,L4,L5,L6,L7,LX,Result.andThen_ok,true_and];with_reducible refine qC ?_;refine hK _ ?_;clear hK K)
  | (with_reducible refine yF HBO ?_;refine hK _ ?_;clear hK K)
  | (with_reducible refine yF HCO ?_;refine hK _ ?_;clear hK K)
  | (with_reducible refine yF HSO ?_;refine hK _ ?_;clear hK K)
  | (with_reducible refine yF HKO ?_;refine hK _ ?_;clear hK K))
 refine WQ.nil ?_
 intro W5 hG5
 have XK:=Za.trans (hG5.to.mono zb4)
 have hm5:=hm4.below hG5.to
 have hx5:=Kx.below hG5.to
 have zb5:=XK.size
 clear hG5 L0 L1 L2 L3 L4 L5 L6 L7 LX HBO HCO HSO HKO hm4 Kx Za zb4
 obtain⟨⟨m0,m1,m2,m3,m4,m5,m6,m7⟩,_⟩:=jW hm5
 have x0:=hx5.cell 0 rfl
 go_wp2_with fail
 go_loopg [5,58] m.za.length (fun d _ v wr=>∃k:Nat,k<=m.za.length/\d=m.za.length - k/\v=zI (k:Int)/\zO w wr/\zO W5 wr/\∀q,(hq:q<m.za.length)->q<k->jY ms m q m.za[q]=true)
 case atStart=>exact⟨0,Nat.zero_le _,rfl,rfl,XK,zS,fun q _ h=>absurd h yB⟩
 case round =>
  obtain⟨k,hk,rfl,rfl,hbr,hb5r,hall⟩:=hrel
  have HALL:Hid (∀q,(hq:q<m.za.length)->q<k->jY ms m q m.za[q]=true):=hall
  clear hall
  have hm6:=hm5.below hb5r
  have hx6:=hx5.below hb5r
  have zr:=hbr.size
  have z5r:=hb5r.size
  clear hm5 hx5 XK x0 m0 m1 m2 m3 m4 m5 m6 m7
  obtain⟨⟨m0,m1,m2,m3,m4,m5,m6,m7⟩,_⟩:=jW hm6
  have x0:=hx6.cell 0 rfl
  by_cases yt:k<m.za.length
  ·have v7:(k:Int)<(m.za.length:Int):=by omega
   obtain⟨f,hf⟩:∃f,jY ms m k m.za[k]=f:=⟨_,rfl⟩
   have HPO:=zcz _ ms _ _ _ _ m k wr (HQ0.out.below hbr) (HM0.out.below hbr) HOPS.out yt _ rfl (fun i hi=>Nat.le_trans (HSM.out.zg i hi) (by omega)) (fun q hq=>(HSM.out.zh k yt q hq).1)
   rw[hf] at HPO
   unfold zu at HPO
   have HF:Hid (jY ms m k m.za[k]=f):=hf
   clear hf
   go_wp2_with fail
   refine HPO.mono ?_
   rintro e W6 ⟨rfl,t6⟩
   have hb6:=hbr.trans (t6.mono zr)
   have hb56:=hb5r.trans (t6.mono z5r)
   clear HPO t6 hm6 hx6 x0 m0 m1 m2 m3 m4 m5 m6 m7
   cases f
   ·have HE:Hid (vC ms m=false):=zcq yt HF.out
    go_wp2
    go_ret
    exact⟨zp HE.out.symm,hb6⟩
   have HN:Hid (∀q,(hq:q<m.za.length)->q<k+1->jY ms m q m.za[q]=true):=fun q hq hqk=>by
    by_cases e:q=k
    ·subst e;exact HF.out
    ·exact HALL.out q hq (by omega)
   clear HALL HF
   go_wp2
   go_roundg (m.za.length - (k+1))
   case measure=>omega
   case rel=>exact⟨k+1,by omega,rfl,by go_num,hb6,hb56,HN.out⟩
  ·obtain rfl:k=m.za.length:=by omega
   have HPG:Hid (∀q,(hq:q<m.za.length)->jY ms m q m.za[q]=true):=fun q hq=>HALL.out q hq hq
   clear HALL
   go_wp2_with fail
   go_loopg [6,70] m.zd.length (fun d _ v wt=>∃k:Nat,k<=m.zd.length/\d=m.zd.length - k/\v=zI (k:Int)/\zO w wt/\zO wr wt/\∀q,(hq:q<m.zd.length)->q<k->kj ms m q m.zd[q]=true)
   case atStart=>exact⟨0,Nat.zero_le _,rfl,rfl,hbr,zS,fun q _ h=>absurd h yB⟩
   case round =>
    obtain⟨k,hk,rfl,rfl,hbt,hbrt,hall⟩:=hrel
    have HALL:Hid (∀q,(hq:q<m.zd.length)->q<k->kj ms m q m.zd[q]=true):=hall
    clear hall
    have hm7:=hm6.below hbrt
    have hx7:=hx6.below hbrt
    have zt:=hbt.size
    have zrt:=hbrt.size
    clear hm6 hx6 x0 m0 m1 m2 m3 m4 m5 m6 m7
    obtain⟨⟨m0,m1,m2,m3,m4,m5,m6,m7⟩,_⟩:=jW hm7
    have x0:=hx7.cell 0 rfl
    by_cases yt:k<m.zd.length
    ·have v7:(k:Int)<(m.zd.length:Int):=by omega
     obtain⟨f,hf⟩:∃f,kj ms m k m.zd[k]=f:=⟨_,rfl⟩
     have HPO:=zcN _ ms _ _ _ _ m k wr (HQ0.out.below hbt) (HM0.out.below hbt) HOPS.out yt _ rfl
     rw[hf] at HPO
     unfold zu at HPO
     have HF:Hid (kj ms m k m.zd[k]=f):=hf
     clear hf
     go_wp2_with fail
     refine HPO.mono ?_
     rintro e W6 ⟨rfl,t6⟩
     have hb6:=hbt.trans (t6.mono zt)
     have hb56:=hbrt.trans (t6.mono zrt)
     clear HPO t6 hm7 hx7 x0 m0 m1 m2 m3 m4 m5 m6 m7
     cases f
     ·have HE:Hid (vC ms m=false):=zcr yt HF.out
      go_wp2
      go_ret
      exact⟨zp HE.out.symm,hb6⟩
     have HN:Hid (∀q,(hq:q<m.zd.length)->q<k+1->kj ms m q m.zd[q]=true):=fun q hq hqk=>by
      by_cases e:q=k
      ·subst e;exact HF.out
      ·exact HALL.out q hq (by omega)
     clear HALL HF
     go_wp2
     go_roundg (m.zd.length - (k+1))
     case measure=>omega
     case rel=>exact⟨k+1,by omega,rfl,by go_num,hb6,hb56,HN.out⟩
    ·obtain rfl:k=m.zd.length:=by omega
     have HTW:Hid (∀q,(hq:q<m.zd.length)->kj ms m q m.zd[q]=true):=fun q hq=>HALL.out q hq hq
     have HE:Hid (vC ms m=ZQ (yQ m).ze (yQ m).now):=UI HHD.out HPG.out HTW.out
     have HTD:=zgp H14.out.1 HPG.out HTW.out
     have hf30:=HFN.out
     have HTO:=Z9 _ _ _ _ m wr (HM0.out.below hbt) HTD (by omega) (by omega)
     unfold zu at HTO
     have hcn:(yQ m).ze.length<=900000:=by
      show(yR m m.za.length ++ qV m m.zd.length).length<=_
      rw[List.length_append,qY zD,ki]
      show yc m.za+_<=_
      omega
     clear HALL HTD hf30
     go_wp2_with fail
     refine HTO.mono ?_
     rintro e W8 ⟨vc,rfl,hcs,t8⟩
     have hb8:=hbt.trans (t8.mono zt)
     have zb8:=hb8.size
     have HWO:=K8 vc (zQ) (yQ m) W8 ⟨hcs,⟨none,0,rfl,Nat.zero_le _,fun _ hi=>absurd hi yB⟩⟩ hcn
     clear HTO t8 hm7 hx7 x0 m0 m1 m2 m3 m4 m5 m6 m7 hcs
     obtain⟨wp',hwp⟩:∃f,ZQ (yQ m).ze (yQ m).now=f:=⟨_,rfl⟩
     rw[hwp] at HWO HE
     clear hwp
     have HWP:Hid (Calls Tryz.prog 67 #[.agg #[vc,zI (kF m),zI 0,zQ,zI 0]] W8 fun e w'=>e=.returned (.bool wp')/\zO W8 w'):=HWO
     clear HWO
     go_wp2_with fail
     refine HWP.out.mono ?_
     rintro e W9 ⟨rfl,t9⟩
     have hb9:=hb8.trans (t9.mono zb8)
     go_wp2
     go_ret
     exact⟨zp HE.out.symm,hb9⟩
end Go.Proofs.YtbjgjjkgfnfejaaGreatDoor
