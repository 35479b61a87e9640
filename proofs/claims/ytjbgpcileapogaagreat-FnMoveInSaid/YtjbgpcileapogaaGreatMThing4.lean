/-
  Calls of a machine as things of their own: thingOfFrame. (Written by mkmt4.py.)
-/
import Derived.Test.YtjbgpcileapogaaGreatMThing3
namespace Go.Proofs.YtjbgpcileapogaaGreat
open Go.RowKit
def zak (m:Mc) (i k:Nat):Int:=if 0<k then XN m (i:Int) ((k:Int) - 1) else xw m (uK m (i:Int)).base
def vk (m:Mc) (i k:Nat) (f:Fr):Cl:=⟨f.m,f.pc,f.zg.map (jm (jY m)),f.ze.map (jm (jY m)),zak m i k,false⟩
set_option maxRecDepth 100000 in
set_option maxHeartbeats 4000000 in
theorem QV (vp vo vt vs vl:Value) (m:Mc) (i k:Nat) (F:Fr) (wS:World) (h:Pl wS vp vo vt vs vl m) (hi:i<m.zd.length) (hk:k<m.zd[i].zk.length) (hF:m.zd[i].zk[k]=F)
 (hbs:(m.zd[i].base == -1 || qy m m.zd[i].base)=true) (hl:F.zg.length<=1000/\F.ze.length<=1000) (hos:(∀q,(hq:q<F.zg.length)->F.zg[q].1=2->qy m F.zg[q].2=true)/\(∀q,(hq:q<F.ze.length)->F.ze[q].1=2->qy m F.ze[q].2=true)) :
 Calls Tryz.prog 125 #[.agg (zI vp vo vt vs m ++ [vl,.int .i64 (zY m.zd:Int)]).toArray,.int .i64 (i:Int),.int .i64 (k:Int)] wS fun e w'=>∃u1 u2,e=.returned (.agg #[.int .i64 F.m,.int .i64 F.pc,u1,u2,.int .i64 (zak m i k),.bool false]) /\
  zj wS.heap.size w' u1 (F.zg.map (jm (jY m)))/\zj wS.heap.size w' u2 (F.ze.map (jm (jY m)))/\(∀g,u1.ownBlock=some g->u2.ownBlock≠some g)/\Below wS.heap.size wS w':=by
 have VV:=h
 have HOS:Hid ((∀q,(hq:q<F.zg.length)->F.zg[q].1=2->qy m F.zg[q].2=true)/\(∀q,(hq:q<F.ze.length)->F.ze[q].1=2->qy m F.ze[q].2=true)):=hos
 clear hos
 obtain⟨hM,hL,hN,hTn⟩:=h
 obtain⟨ap,cp,hvp,hlp,hcp⟩:=id hM.p
 obtain⟨ao,co,xz⟩:=hM.o.shape
 obtain⟨at',ct,xZ,hlt',hct⟩:=id hM.t
 obtain⟨as',cs,hvs⟩:=hM.s.shape
 obtain⟨al,cl,hvl,hll,hcl⟩:=id hL
 subst hvp xz xZ hvs hvl
 unfold zI
 simp only[List.cons_append,List.nil_append]
 obtain⟨bp,op,vf,hap,jN⟩:=hcp i hi
 subst hap
 obtain⟨af,cf,Z4,hlf,hcf⟩:=id jN.f
 subst Z4
 obtain⟨bf,of',v1,v2,haf,hfr⟩:=hcf k hk
 subst haf
 rw[hF] at hfr
 have g0:=jN.c0
 have g1:=jN.c1
 obtain⟨d0,d1,d2,d3,d4,dt,ds⟩:=hfr
 obtain⟨a1,k1,e1⟩:=dt.shape
 obtain⟨a2,k2,e2⟩:=ds.shape
 subst e1 e2
 have hsu:=xn hi
 have hsl:=ka m.zd (k:=i+1) hi
 have HS0:Hid (zak m i k=if 0<k then XN m (i:Int) ((k:Int) - 1) else xw m m.zd[i].base):=by show _=_;unfold zak;rw[kB hi]
 obtain⟨nf,hnf⟩:∃nf,m.zd[i].zk.length=nf:=⟨_,rfl⟩
 rw[hnf] at g1 hsu hk
 obtain⟨bs,hbe⟩:∃bs,m.zd[i].base=bs:=⟨_,rfl⟩
 rw[hbe] at g0 HS0 hbs
 have HBS:Hid ((bs == -1 || qy m bs)=true):=hbs
 have hnb:nf<=1099511627776:=by omega
 have hiz:(i:Int)<(m.zd.length:Int):=by omega
 have hkz:(k:Int)<(nf:Int):=by omega
 clear hcl hct hcp hcf jN hF hnf hsu hsl hbe hbs hlf
 have HRV:Hid (∀(W:World) (v:Value) (l:zL),Below wS.heap.size wS W->zR W v l->l.length<=1000->(∀q,(hq:q<l.length)->l[q].1=2->qy m l[q].2=true)->Calls Tryz.prog 144 #[v,.func (.func 165) #[.agg #[.int .i64 m.cells,.slice (some ⟨bp,op,none⟩) m.zd.length cp,.slice ao m.order.length co,.int .i64 m.now,.slice at' m.zh.length ct,.int .i64 m.born,.slice as' m.zl.length cs,.int .i64 m.code,.slice al (xl m.zd).length cl,.int .i64 (zY m.zd:Int)]] #[]] W fun e w'=>∃v',e=.returned v'/\zj W.heap.size w' v' (l.map (jm (jY m)))/\Below W.heap.size W w'):=fun W v l hW hv hl ho=>by
  have:=JR _ _ _ _ _ m v l W (VV.below hW) hv hl ho
  unfold zI at this
  simpa only [List.cons_append,List.nil_append] using this
 go_enter Tryz.func125,Tryz.ntmps125
 go_upto_region 1 with fail
 refine ye (fun W=>Below wS.heap.size wS W/\Bx W wS.heap.size 128 [.int .i64 m.cells,.slice (some ⟨bp,op,none⟩) m.zd.length cp,.slice ao m.order.length co,.int .i64 m.now,.slice at' m.zh.length ct,.int .i64 m.born,.slice as' m.zl.length cs,.int .i64 m.code,.slice al (xl m.zd).length cl,.int .i64 (zY m.zd:Int)]/\Bx W (wS.heap.size+1) 37 [.int .i64 0,.int .i64 0,.slice none 0 0,.slice none 0 0,.int .i64 0,.bool false]) ⟨(zB _ _).alloc (by simp) _,(Bx.new wS _ _).alloc _,Bx.newAt _ _ _ (by simp)⟩ ?_
 rintro W1 ⟨B1,Wl,y1'⟩
 have z1:=B1.size
 obtain⟨⟨x0,x1,x2,x3,x4,x5,x6,x7,x8,x9⟩,_⟩:=Zc Wl
 replace g0:=zc B1 g0
 replace g1:=zc B1 g1
 replace d0:=zc B1 d0
 replace d1:=zc B1 d1
 replace d2:=zc B1 d2
 replace d3:=zc B1 d3
 replace d4:=zc B1 d4
 go_upto_region 2 with fail
 refine ye (fun W=>Below W1.heap.size W1 W/\Bx W W1.heap.size 103 [.int .i64 F.m,.int .i64 F.pc,.int .i64 F.twin,.slice a1 F.zg.length k1,.slice a2 F.ze.length k2]) ⟨zB _ _,Bx.new _ _ _⟩ ?_
 rintro W2 ⟨t2,f2⟩
 have B2:=B1.trans (t2.mono z1)
 have x2':=Wl.below t2
 have y2':=y1'.below t2
 replace g0:=zc t2 g0
 replace g1:=zc t2 g1
 have hyl:=y1'.lt
 have z2:=B2.size
 clear t2 Wl y1' B1 d0 d1 d2 d3 d4 x0 x1 x2 x3 x4 x5 x6 x7 x8 x9
 obtain⟨⟨x0,x1,x2,x3,x4,x5,x6,x7,x8,x9⟩,_⟩:=Zc x2'
 have HC:=qe (W:=W2) fun W' (hW:Below W2.heap.size W2 W')=>wG _ _ _ _ _ m bs W' ((VV.below B2).below hW) HBS.out
 unfold zI at HC
 simp only[List.cons_append,List.nil_append] at HC
 obtain⟨cb,hcb⟩:∃cb,xw m bs=cb:=⟨_,rfl⟩
 rw[hcb] at HC HS0
 clear hcb
 have L0:=Gr.cell x0
 have L1:=Gr.cell x1
 have L2:=Gr.cell x2
 have L3:=Gr.cell x3
 have L4:=Gr.cell x4
 have L5:=Gr.cell x5
 have L6:=Gr.cell x6
 have L7:=Gr.cell x7
 have L8:=Gr.cell x8
 have L9:=Gr.cell x9
 have G0:=Gr.cell g0
 have G1:=Gr.cell g1
 clear x0 x1 x2 x3 x4 x5 x6 x7 x8 x9 g0 g1
 refine WQ.region (by kernel_rfl) (by kernel_rfl) ?_
 iterate 10 (refine WQ.step (fun K hK=>?_);go_simp;first
  | (with_reducible refine hK _ ?_;clear hK K)
  | (with_reducible refine yH ?_;refine hK _ ?_;clear hK K)
  | (simp(contextual:=true) only [L0,L1,L2,L3,L4,L5,L6,L7,L8,L9,G0,Result.andThen_ok,true_and];with_reducible refine yH ?_;refine hK _ ?_;clear hK K)
  | (with_reducible refine yp HC ?_;refine hK _ ?_;clear hK K))
 refine WQ.nil ?_
 intro W3 hG3
 have B3:=B2.trans (hG3.to.mono z2)
 have x3':=x2'.below hG3.to
 have y3':=y2'.below hG3.to
 have f3:=f2.below hG3.to
 have z3:=B3.size
 clear hG3 HC L0 L1 L2 L3 L4 L5 L6 L7 L8 L9 G0 G1 x2' y2' f2 B2 z2
 by_cases h0:0<k
 case neg =>
  have hkzero:k=0:=by omega
  have HSD:Hid (zak m i k=cb):=by show _=_;rw[HS0.out,if_neg h0]
  clear HS0
  subst hkzero
  have B4:=B3
  have x4':=x3'
  have y4:=y3'
  have f4:=f3
  clear B3 x3' y3' f3
  obtain⟨⟨x0,x1,x2,x3,x4,x5,x6,x7,x8,x9⟩,_⟩:=Zc x4'
  have q0:=f4.cell 0 rfl
  have q1:=f4.cell 1 rfl
  have q3:=f4.cell 3 rfl
  have q4:=f4.cell 4 rfl
  go_upto_region 5 with fail
  refine wQ [[],[0],[],[2],[],[4],[],[6],[4,5,6,7],[],[9],[],[11],[4,5,6,7,8,9,10,11,12],[],[0,1,2,3,4,5,6,7,8,9,10,11,12,13,14],[0,1,2,3,4,5,6,7,8,9,10,11,12,13,14,15]] [[0],[1],[2],[3],[4],[5],[6],[7],[8],[9],[10],[11],[12],[8,13],[14],[8,13,15],[]] [[],[],[],[],[],[],[],[],[],[],[],[],[],[],[],[],[]] [qb (.pointer (some ⟨W1.heap.size,0,none⟩)),qb (.int .i64 F.m),qb (.pointer (some ⟨W1.heap.size,1,none⟩)),qb (.int .i64 F.pc),qb (.pointer (some ⟨W1.heap.size,3,none⟩)),qb (.slice a1 F.zg.length k1),qb (.agg #[.int .i64 m.cells,.slice (some ⟨bp,op,none⟩) m.zd.length cp,.slice ao m.order.length co,.int .i64 m.now,.slice at' m.zh.length ct,.int .i64 m.born,.slice as' m.zl.length cs,.int .i64 m.code,.slice al (xl m.zd).length cl,.int .i64 (zY m.zd:Int)]),qb (.func (.func 165) #[.agg #[.int .i64 m.cells,.slice (some ⟨bp,op,none⟩) m.zd.length cp,.slice ao m.order.length co,.int .i64 m.now,.slice at' m.zh.length ct,.int .i64 m.born,.slice as' m.zl.length cs,.int .i64 m.code,.slice al (xl m.zd).length cl,.int .i64 (zY m.zd:Int)]] #[]),X2 8 (fun(x:Value) l=>l=[x]) (fun x w1=>(∃a c,x=.slice a F.zg.length c)/\zj W3.heap.size w1 x (F.zg.map (jm (jY m)))),qb (.pointer (some ⟨W1.heap.size,4,none⟩)),qb (.slice a2 F.ze.length k2),qb (.agg #[.int .i64 m.cells,.slice (some ⟨bp,op,none⟩) m.zd.length cp,.slice ao m.order.length co,.int .i64 m.now,.slice at' m.zh.length ct,.int .i64 m.born,.slice as' m.zl.length cs,.int .i64 m.code,.slice al (xl m.zd).length cl,.int .i64 (zY m.zd:Int)]),qb (.func (.func 165) #[.agg #[.int .i64 m.cells,.slice (some ⟨bp,op,none⟩) m.zd.length cp,.slice ao m.order.length co,.int .i64 m.now,.slice at' m.zh.length ct,.int .i64 m.born,.slice as' m.zl.length cs,.int .i64 m.code,.slice al (xl m.zd).length cl,.int .i64 (zY m.zd:Int)]] #[]),X2 13 (fun(x:Value × Value) l=>l=[x.1,x.2]) (fun x w1=>(∃a c,x.2=.slice a F.ze.length c)/\(∀g,x.1.ownBlock=some g->x.2.ownBlock≠some g)/\zj W3.heap.size w1 x.2 (F.ze.map (jm (jY m)))),qb (.int .i64 cb),wV fun l=>∃u1 u2:Value,l=[u1,u2,.agg #[.int .i64 F.m,.int .i64 F.pc,u1,u2,.int .i64 cb,.bool false]],wV fun _=>True] 16 rfl (by kernel_rfl) (by kernel_rfl) (by kernel_rfl) ?_ ?_
  ·refine zi (zi (zi (zi (zi (zi (zi (zi (zi (zi (zi (zi (zi (zi (zi (zi (qj) ?_) ?_) ?_) ?_) ?_) ?_) ?_) ?_) ?_) ?_) ?_) ?_) ?_) ?_) ?_) ?_
   ·intro a w val own hB hf zx hk
    have s7:=hf.at (d:=7) (v:=.pointer (some ⟨W1.heap.size,0,none⟩)) (by kernel_rfl) rfl
    exact zs (v:=.pointer (some ⟨W1.heap.size,0,none⟩)) hB
   ·intro a w val own hB hf zx hk
    obtain⟨k0,f0⟩:=hk 0 (show 0∈[0] by decide)
    have Wk:=k0 35 rfl
    rw[zu f0] at Wk
    clear k0 f0
    have cq:=zc hB q0
    exact zs (v:=.int .i64 F.m) hB
   ·intro a w val own hB hf zx hk
    have s7:=hf.at (d:=7) (v:=.pointer (some ⟨W1.heap.size,0,none⟩)) (by kernel_rfl) rfl
    exact zs (v:=.pointer (some ⟨W1.heap.size,1,none⟩)) hB
   ·intro a w val own hB hf zx hk
    obtain⟨k2,f2⟩:=hk 2 (show 2∈[2] by decide)
    have s37:=k2 37 rfl
    rw[zu f2] at s37
    clear k2 f2
    have cq:=zc hB q1
    exact zs (v:=.int .i64 F.pc) hB
   ·intro a w val own hB hf zx hk
    have s7:=hf.at (d:=7) (v:=.pointer (some ⟨W1.heap.size,0,none⟩)) (by kernel_rfl) rfl
    exact zs (v:=.pointer (some ⟨W1.heap.size,3,none⟩)) hB
   ·intro a w val own hB hf zx hk
    obtain⟨k4,f4⟩:=hk 4 (show 4∈[4] by decide)
    have s39:=k4 39 rfl
    rw[zu f4] at s39
    clear k4 f4
    have cq:=zc hB q3
    exact zs (v:=.slice a1 F.zg.length k1) hB
   ·intro a w val own hB hf zx hk
    have s3:=hf.at (d:=3) (v:=.pointer (some ⟨wS.heap.size,0,none⟩)) (by kernel_rfl) rfl
    have cx0:=zc hB x0
    have cx1:=zc hB x1
    have cx2:=zc hB x2
    have cx3:=zc hB x3
    have cx4:=zc hB x4
    have cx5:=zc hB x5
    have cx6:=zc hB x6
    have cx7:=zc hB x7
    have cx8:=zc hB x8
    have cx9:=zc hB x9
    exact zs (v:=.agg #[.int .i64 m.cells,.slice (some ⟨bp,op,none⟩) m.zd.length cp,.slice ao m.order.length co,.int .i64 m.now,.slice at' m.zh.length ct,.int .i64 m.born,.slice as' m.zl.length cs,.int .i64 m.code,.slice al (xl m.zd).length cl,.int .i64 (zY m.zd:Int)]) hB
   ·intro a w val own hB hf zx hk
    obtain⟨k6,f6⟩:=hk 6 (show 6∈[6] by decide)
    have s41:=k6 41 rfl
    rw[zu f6] at s41
    clear k6 f6
    exact zs (v:=.func (.func 165) #[.agg #[.int .i64 m.cells,.slice (some ⟨bp,op,none⟩) m.zd.length cp,.slice ao m.order.length co,.int .i64 m.now,.slice at' m.zh.length ct,.int .i64 m.born,.slice as' m.zl.length cs,.int .i64 m.code,.slice al (xl m.zd).length cl,.int .i64 (zY m.zd:Int)]] #[]) hB
   ·intro a w val own hB hf zx hk
    obtain⟨k5,f5⟩:=hk 5 (show 5∈[4,5,6,7] by decide)
    have s40:=k5 40 rfl
    rw[zu f5] at s40
    clear k5 f5
    obtain⟨k7,f7⟩:=hk 7 (show 7∈[4,5,6,7] by decide)
    have s42:=k7 42 rfl
    rw[zu f7] at s42
    clear k7 f7
    have hB':=B4.trans (hB.mono B4.size)
    have Zp:=hB.size
    refine jg hB rfl rfl (by unfold execOp;go_simp) ((HRV.out w _ F.zg hB' (dt.below hB') hl.1 HOS.out.1).mono ?_)
    rintro e w' ⟨v',rfl,r1,hb'⟩
    refine⟨_,rfl,hb',v',rfl,Made.new fun w1 hs _ hr=>⟨?_,?_⟩⟩
    ·obtain⟨a0,c0,e0,_⟩:=r1.slice
     exact⟨a0,c0,by simpa using e0⟩
    ·exact(r1.kept hs fun g e=>hr g (r1.lt g e).1 (r1.lt g e).2).mono Zp
   ·intro a w val own hB hf zx hk
    have s7:=hf.at (d:=7) (v:=.pointer (some ⟨W1.heap.size,0,none⟩)) (by kernel_rfl) rfl
    exact zs (v:=.pointer (some ⟨W1.heap.size,4,none⟩)) hB
   ·intro a w val own hB hf zx hk
    obtain⟨k9,f9⟩:=hk 9 (show 9∈[9] by decide)
    have s44:=k9 44 rfl
    rw[zu f9] at s44
    clear k9 f9
    have cq:=zc hB q4
    exact zs (v:=.slice a2 F.ze.length k2) hB
   ·intro a w val own hB hf zx hk
    have s3:=hf.at (d:=3) (v:=.pointer (some ⟨wS.heap.size,0,none⟩)) (by kernel_rfl) rfl
    have cx0:=zc hB x0
    have cx1:=zc hB x1
    have cx2:=zc hB x2
    have cx3:=zc hB x3
    have cx4:=zc hB x4
    have cx5:=zc hB x5
    have cx6:=zc hB x6
    have cx7:=zc hB x7
    have cx8:=zc hB x8
    have cx9:=zc hB x9
    exact zs (v:=.agg #[.int .i64 m.cells,.slice (some ⟨bp,op,none⟩) m.zd.length cp,.slice ao m.order.length co,.int .i64 m.now,.slice at' m.zh.length ct,.int .i64 m.born,.slice as' m.zl.length cs,.int .i64 m.code,.slice al (xl m.zd).length cl,.int .i64 (zY m.zd:Int)]) hB
   ·intro a w val own hB hf zx hk
    obtain⟨k11,f11⟩:=hk 11 (show 11∈[11] by decide)
    have s46:=k11 46 rfl
    rw[zu f11] at s46
    clear k11 f11
    exact zs (v:=.func (.func 165) #[.agg #[.int .i64 m.cells,.slice (some ⟨bp,op,none⟩) m.zd.length cp,.slice ao m.order.length co,.int .i64 m.now,.slice at' m.zh.length ct,.int .i64 m.born,.slice as' m.zl.length cs,.int .i64 m.code,.slice al (xl m.zd).length cl,.int .i64 (zY m.zd:Int)]] #[]) hB
   ·intro a w val own hB hf zx hk
    obtain⟨k10,f10⟩:=hk 10 (show 10∈[4,5,6,7,8,9,10,11,12] by decide)
    have s45:=k10 45 rfl
    rw[zu f10] at s45
    clear k10 f10
    obtain⟨k12,f12⟩:=hk 12 (show 12∈[4,5,6,7,8,9,10,11,12] by decide)
    have s47:=k12 47 rfl
    rw[zu f12] at s47
    clear k12 f12
    obtain⟨k8,x8,e8,m8⟩:=hk 8 (show 8∈[4,5,6,7,8,9,10,11,12] by decide)
    have v8:=yB e8
    obtain⟨_,r8⟩:=m8.here hB
    clear k8 e8
    have hB':=B4.trans (hB.mono B4.size)
    have Zp:=hB.size
    refine jg hB rfl rfl (by unfold execOp;go_simp) ((HRV.out w _ F.ze hB' (ds.below hB') hl.2 HOS.out.2).mono ?_)
    rintro e w' ⟨v',rfl,r1,hb'⟩
    refine⟨_,rfl,hb',(x8,v'),?_,Made.new fun w1 hs _ hr=>⟨?_,fun g e e2=>?_,?_⟩⟩
    ·show [val 8,_]=_
     rw[v8]
     rfl
    ·obtain⟨a0,c0,e0,_⟩:=r1.slice
     exact⟨a0,c0,by simpa using e0⟩
    ·have l1:=(r8.lt g e).2
     have l2:=(r1.lt g e2).1
     omega
    ·exact(r1.kept hs fun g e=>hr g (r1.lt g e).1 (r1.lt g e).2).mono Zp
   ·intro a w val own hB hf zx hk
    have s8:=hf.at (d:=8) (v:=.int .i64 cb) (by kernel_rfl) rfl
    exact zs (v:=.int .i64 cb) hB
   ·intro a w val own hB hf zx hk
    obtain⟨k1,f1⟩:=hk 1 (show 1∈[0,1,2,3,4,5,6,7,8,9,10,11,12,13,14] by decide)
    have s36:=k1 36 rfl
    rw[zu f1] at s36
    clear k1 f1
    obtain⟨k3,f3⟩:=hk 3 (show 3∈[0,1,2,3,4,5,6,7,8,9,10,11,12,13,14] by decide)
    have s38:=k3 38 rfl
    rw[zu f3] at s38
    clear k3 f3
    obtain⟨k8,x8,e8,m8⟩:=hk 8 (show 8∈[0,1,2,3,4,5,6,7,8,9,10,11,12,13,14] by decide)
    have v8:=yB e8
    have s43:=k8 43 rfl
    rw[v8] at s43
    obtain⟨⟨a8,c8,q8⟩,r8⟩:=m8.here hB
    clear k8 e8
    obtain⟨k13,x13,e13,m13⟩:=hk 13 (show 13∈[0,1,2,3,4,5,6,7,8,9,10,11,12,13,14] by decide)
    have Wv:[val 8,val 13]=_:=e13
    injection Wv with Vc Jl
    have v13:=yB Jl
    have s48:=k13 48 rfl
    rw[v13] at s48
    obtain⟨⟨VY,c13,q13⟩,Wm,r13⟩:=m13.here hB
    clear k13 e13 Jl
    obtain⟨k14,f14⟩:=hk 14 (show 14∈[0,1,2,3,4,5,6,7,8,9,10,11,12,13,14] by decide)
    have s49:=k14 49 rfl
    rw[zu f14] at s49
    clear k14 f14
    obtain⟨y1,y2⟩:=x13
    dsimp only at q13
    subst q8 q13
    refine zs (v:=.agg #[.int .i64 F.m,.int .i64 F.pc,.slice a8 F.zg.length c8,.slice VY F.ze.length c13,.int .i64 cb,.bool false]) hB rfl rfl (by unfold execOp;go_simp) ⟨.slice a8 F.zg.length c8,.slice VY F.ze.length c13,?_⟩
    show [val 8,val 13,_]=_
    rw[v8,v13]
    rfl
  intro aE qF val own hB hf zx hk
  obtain⟨k8,x8,e8,m8⟩:=hk 8 (by decide)
  have v8:=yB e8
  have s43:=k8 43 rfl
  rw[v8] at s43
  obtain⟨⟨a8,c8,q8⟩,r8⟩:=m8.here hB
  clear k8 e8
  obtain⟨k13,x13,e13,m13⟩:=hk 13 (by decide)
  have Wv:[val 8,val 13]=_:=e13
  injection Wv with Vc Jl
  have v13:=yB Jl
  have s48:=k13 48 rfl
  rw[v13] at s48
  obtain⟨⟨VY,c13,q13⟩,Wm,r13⟩:=m13.here hB
  clear k13 e13 Jl
  obtain⟨y1,y2⟩:=x13
  dsimp only at q13 Wm r13 Vc v13
  have hxy:y1=x8:=by rw[<-Vc,v8]
  subst hxy
  obtain⟨k15,u1,u2,e15⟩:=hk 15 (by decide)
  have e15':[val 8,val 13,val 15]=_:=e15
  injection e15' with ea eb
  injection eb with eb ec
  have v15:=yB ec
  have s50:=k15 50 rfl
  rw[v8] at ea
  rw[v13] at eb
  subst ea eb
  rw[v15] at s50
  subst q8 q13
  clear k15 e15 ec v15 v8 v13 Vc
  have s6:=hf.at (d:=6) (v:=.pointer (some ⟨wS.heap.size+1,0,none⟩)) (by kernel_rfl) rfl
  have Q1:=y4.below hB
  have p0:=Q1.cell 0 rfl
  have pf0:=Q1.frozen 0
  have p1:=Q1.cell 1 rfl
  have pf1:=Q1.frozen 1
  have p2:=Q1.cell 2 rfl
  have pf2:=Q1.frozen 2
  have p3:=Q1.cell 3 rfl
  have pf3:=Q1.frozen 3
  have p4:=Q1.cell 4 rfl
  have pf4:=Q1.frozen 4
  have p5:=Q1.cell 5 rfl
  have pf5:=Q1.frozen 5
  refine xx (w':=YC qF (wS.heap.size+1) 0 [.int .i64 F.m,.int .i64 F.pc,.slice a8 F.zg.length c8,.slice VY F.ze.length c13,.int .i64 cb,.bool false]) rfl rfl (by unfold execOp;simp only[YC];go_simp) ?_
  simp only[Act.put,YC]
  obtain⟨u,hu0,hv⟩:=Qy aE.tmps (n:=51) hf.size
  have hu:aE.tmps=(u 0 :: u 1 :: u 2 :: u 3 :: u 4 :: u 5 :: u 6 :: u 7 :: u 8 :: u 9 :: u 10 :: u 11 :: u 12 :: u 13 :: u 14 :: u 15 :: u 16 :: u 17 :: u 18 :: u 19 :: u 20 :: u 21 :: u 22 :: u 23 :: u 24 :: u 25 :: u 26 :: u 27 :: u 28 :: u 29 :: u 30 :: u 31 :: u 32 :: u 33 :: u 34 :: u 35 :: u 36 :: u 37 :: u 38 :: u 39 :: u 40 :: u 41 :: u 42 :: u 43 :: u 44 :: u 45 :: u 46 :: u 47 :: u 48 :: u 49 :: u 50 :: []).toArray:=hu0
  rw[(hv 6).trans s6] at hu
  obtain rfl:=kX hu (show aE.defers=[] from hf.defers)
  clear hu hu0 hv hk zx hf s6 s50 s43 s48
  have zB:=hB.size
  have hy4:wS.heap.size+1<W3.heap.size:=y4.lt
  refine kH (fun W=>Below wS.heap.size wS W/\Bx W (wS.heap.size+1) 37 [.int .i64 F.m,.int .i64 F.pc,.slice a8 F.zg.length c8,.slice VY F.ze.length c13,.int .i64 cb,.bool false]/\zj W3.heap.size W (.slice a8 F.zg.length c8) (F.zg.map (jm (jY m)))/\zj W3.heap.size W (.slice VY F.ze.length c13) (F.ze.map (jm (jY m)))) ?_ ?_
  ·have HW:=((((((Wr.refl1 (wS.heap.size+1) qF).set1 (o:=0) (.int .i64 F.m)).set1 (o:=1) (.int .i64 F.pc)).set1 (o:=2) (.slice a8 F.zg.length c8)).set1 (o:=3) (.slice VY F.ze.length c13)).set1 (o:=4) (.int .i64 cb)).set1 (o:=5) (.bool false)
   exact⟨HW.below1 (B4.trans (hB.mono B4.size)) zD (Nat.le_succ _),(((((Q1.set 0 _).set 1 _).set 2 _).set 3 _).set 4 _).set 5 _,HW.pair r8 (fun g e e2=>by have:=(r8.lt g e).1;omega),HW.pair r13 (fun g e e2=>by have:=(r13.lt g e).1;omega)⟩
  rintro W9 ⟨B9,x9,r9,s9⟩
  try go_wp2
  have i0:=x9.cell 0 rfl
  have i1:=x9.cell 1 rfl
  have i2:=x9.cell 2 rfl
  have i3:=x9.cell 3 rfl
  have i4:=x9.cell 4 rfl
  have i5:=x9.cell 5 rfl
  exact bodyPost_ret (v:=.agg #[.int .i64 F.m,.int .i64 F.pc,.slice a8 F.zg.length c8,.slice VY F.ze.length c13,.int .i64 cb,.bool false]) (by simp[results,Tryz.results125,go_sem,i0,i1,i2,i3,i4,i5]) rfl ⟨_,_,by rw[HSD.out],r9.mono B4.size,s9.mono B4.size,Wm,B9⟩
 have h0z:(0:Int)<(k:Int):=by omega
 have hwn:IntKind.i64.wrap ((k:Int) - 1)=(k:Int) - 1:=by rw[IntKind.wrap_i64];omega
 have HC:=Zw _ _ _ _ _ m i ((k:Int) - 1) W3 (VV.below B3) hi (by omega) (by omega)
 unfold zI at HC
 simp only[List.cons_append,List.nil_append] at HC
 obtain⟨sd,hsd⟩:∃sd,XN m (i:Int) ((k:Int) - 1)=sd:=⟨_,rfl⟩
 rw[hsd] at HC HS0
 have HSD:Hid (zak m i k=sd):=by show _=_;rw[HS0.out,if_pos h0]
 clear HS0 hsd
 obtain⟨⟨x0,x1,x2,x3,x4,x5,x6,x7,x8,x9⟩,_⟩:=Zc x3'
 go_wp2_with fail
 refine HC.mono ?_
 rintro e W4 ⟨rfl,t4⟩
 have B4:=B3.trans (t4.mono z3)
 have x4':=x3'.below t4
 have y4:=y3'.below t4
 have f4:=f3.below t4
 clear HC t4 x3' y3' f3 B3 z3 x0 x1 x2 x3 x4 x5 x6 x7 x8 x9
 obtain⟨⟨x0,x1,x2,x3,x4,x5,x6,x7,x8,x9⟩,_⟩:=Zc x4'
 have q0:=f4.cell 0 rfl
 have q1:=f4.cell 1 rfl
 have q3:=f4.cell 3 rfl
 have q4:=f4.cell 4 rfl
 go_upto_region 5 with fail
 refine wQ [[],[0],[],[2],[],[4],[],[6],[4,5,6,7],[],[9],[],[11],[4,5,6,7,8,9,10,11,12],[],[0,1,2,3,4,5,6,7,8,9,10,11,12,13,14],[0,1,2,3,4,5,6,7,8,9,10,11,12,13,14,15]] [[0],[1],[2],[3],[4],[5],[6],[7],[8],[9],[10],[11],[12],[8,13],[14],[8,13,15],[]] [[],[],[],[],[],[],[],[],[],[],[],[],[],[],[],[],[]] [qb (.pointer (some ⟨W1.heap.size,0,none⟩)),qb (.int .i64 F.m),qb (.pointer (some ⟨W1.heap.size,1,none⟩)),qb (.int .i64 F.pc),qb (.pointer (some ⟨W1.heap.size,3,none⟩)),qb (.slice a1 F.zg.length k1),qb (.agg #[.int .i64 m.cells,.slice (some ⟨bp,op,none⟩) m.zd.length cp,.slice ao m.order.length co,.int .i64 m.now,.slice at' m.zh.length ct,.int .i64 m.born,.slice as' m.zl.length cs,.int .i64 m.code,.slice al (xl m.zd).length cl,.int .i64 (zY m.zd:Int)]),qb (.func (.func 165) #[.agg #[.int .i64 m.cells,.slice (some ⟨bp,op,none⟩) m.zd.length cp,.slice ao m.order.length co,.int .i64 m.now,.slice at' m.zh.length ct,.int .i64 m.born,.slice as' m.zl.length cs,.int .i64 m.code,.slice al (xl m.zd).length cl,.int .i64 (zY m.zd:Int)]] #[]),X2 8 (fun(x:Value) l=>l=[x]) (fun x w1=>(∃a c,x=.slice a F.zg.length c)/\zj W4.heap.size w1 x (F.zg.map (jm (jY m)))),qb (.pointer (some ⟨W1.heap.size,4,none⟩)),qb (.slice a2 F.ze.length k2),qb (.agg #[.int .i64 m.cells,.slice (some ⟨bp,op,none⟩) m.zd.length cp,.slice ao m.order.length co,.int .i64 m.now,.slice at' m.zh.length ct,.int .i64 m.born,.slice as' m.zl.length cs,.int .i64 m.code,.slice al (xl m.zd).length cl,.int .i64 (zY m.zd:Int)]),qb (.func (.func 165) #[.agg #[.int .i64 m.cells,.slice (some ⟨bp,op,none⟩) m.zd.length cp,.slice ao m.order.length co,.int .i64 m.now,.slice at' m.zh.length ct,.int .i64 m.born,.slice as' m.zl.length cs,.int .i64 m.code,.slice al (xl m.zd).length cl,.int .i64 (zY m.zd:Int)]] #[]),X2 13 (fun(x:Value × Value) l=>l=[x.1,x.2]) (fun x w1=>(∃a c,x.2=.slice a F.ze.length c)/\(∀g,x.1.ownBlock=some g->x.2.ownBlock≠some g)/\zj W4.heap.size w1 x.2 (F.ze.map (jm (jY m)))),qb (.int .i64 sd),wV fun l=>∃u1 u2:Value,l=[u1,u2,.agg #[.int .i64 F.m,.int .i64 F.pc,u1,u2,.int .i64 sd,.bool false]],wV fun _=>True] 16 rfl (by kernel_rfl) (by kernel_rfl) (by kernel_rfl) ?_ ?_
 ·refine zi (zi (zi (zi (zi (zi (zi (zi (zi (zi (zi (zi (zi (zi (zi (zi (qj) ?_) ?_) ?_) ?_) ?_) ?_) ?_) ?_) ?_) ?_) ?_) ?_) ?_) ?_) ?_) ?_
  ·intro a w val own hB hf zx hk
   have s7:=hf.at (d:=7) (v:=.pointer (some ⟨W1.heap.size,0,none⟩)) (by kernel_rfl) rfl
   exact zs (v:=.pointer (some ⟨W1.heap.size,0,none⟩)) hB
  ·intro a w val own hB hf zx hk
   obtain⟨k0,f0⟩:=hk 0 (show 0∈[0] by decide)
   have Wk:=k0 35 rfl
   rw[zu f0] at Wk
   clear k0 f0
   have cq:=zc hB q0
   exact zs (v:=.int .i64 F.m) hB
  ·intro a w val own hB hf zx hk
   have s7:=hf.at (d:=7) (v:=.pointer (some ⟨W1.heap.size,0,none⟩)) (by kernel_rfl) rfl
   exact zs (v:=.pointer (some ⟨W1.heap.size,1,none⟩)) hB
  ·intro a w val own hB hf zx hk
   obtain⟨k2,f2⟩:=hk 2 (show 2∈[2] by decide)
   have s37:=k2 37 rfl
   rw[zu f2] at s37
   clear k2 f2
   have cq:=zc hB q1
   exact zs (v:=.int .i64 F.pc) hB
  ·intro a w val own hB hf zx hk
   have s7:=hf.at (d:=7) (v:=.pointer (some ⟨W1.heap.size,0,none⟩)) (by kernel_rfl) rfl
   exact zs (v:=.pointer (some ⟨W1.heap.size,3,none⟩)) hB
  ·intro a w val own hB hf zx hk
   obtain⟨k4,f4⟩:=hk 4 (show 4∈[4] by decide)
   have s39:=k4 39 rfl
   rw[zu f4] at s39
   clear k4 f4
   have cq:=zc hB q3
   exact zs (v:=.slice a1 F.zg.length k1) hB
  ·intro a w val own hB hf zx hk
   have s3:=hf.at (d:=3) (v:=.pointer (some ⟨wS.heap.size,0,none⟩)) (by kernel_rfl) rfl
   have cx0:=zc hB x0
   have cx1:=zc hB x1
   have cx2:=zc hB x2
   have cx3:=zc hB x3
   have cx4:=zc hB x4
   have cx5:=zc hB x5
   have cx6:=zc hB x6
   have cx7:=zc hB x7
   have cx8:=zc hB x8
   have cx9:=zc hB x9
   exact zs (v:=.agg #[.int .i64 m.cells,.slice (some ⟨bp,op,none⟩) m.zd.length cp,.slice ao m.order.length co,.int .i64 m.now,.slice at' m.zh.length ct,.int .i64 m.born,.slice as' m.zl.length cs,.int .i64 m.code,.slice al (xl m.zd).length cl,.int .i64 (zY m.zd:Int)]) hB
  ·intro a w val own hB hf zx hk
   obtain⟨k6,f6⟩:=hk 6 (show 6∈[6] by decide)
   have s41:=k6 41 rfl
   rw[zu f6] at s41
   clear k6 f6
   exact zs (v:=.func (.func 165) #[.agg #[.int .i64 m.cells,.slice (some ⟨bp,op,none⟩) m.zd.length cp,.slice ao m.order.length co,.int .i64 m.now,.slice at' m.zh.length ct,.int .i64 m.born,.slice as' m.zl.length cs,.int .i64 m.code,.slice al (xl m.zd).length cl,.int .i64 (zY m.zd:Int)]] #[]) hB
  ·intro a w val own hB hf zx hk
   obtain⟨k5,f5⟩:=hk 5 (show 5∈[4,5,6,7] by decide)
   have s40:=k5 40 rfl
   rw[zu f5] at s40
   clear k5 f5
   obtain⟨k7,f7⟩:=hk 7 (show 7∈[4,5,6,7] by decide)
   have s42:=k7 42 rfl
   rw[zu f7] at s42
   clear k7 f7
   have hB':=B4.trans (hB.mono B4.size)
   have Zp:=hB.size
   refine jg hB rfl rfl (by unfold execOp;go_simp) ((HRV.out w _ F.zg hB' (dt.below hB') hl.1 HOS.out.1).mono ?_)
   rintro e w' ⟨v',rfl,r1,hb'⟩
   refine⟨_,rfl,hb',v',rfl,Made.new fun w1 hs _ hr=>⟨?_,?_⟩⟩
   ·obtain⟨a0,c0,e0,_⟩:=r1.slice
    exact⟨a0,c0,by simpa using e0⟩
   ·exact(r1.kept hs fun g e=>hr g (r1.lt g e).1 (r1.lt g e).2).mono Zp
  ·intro a w val own hB hf zx hk
   have s7:=hf.at (d:=7) (v:=.pointer (some ⟨W1.heap.size,0,none⟩)) (by kernel_rfl) rfl
   exact zs (v:=.pointer (some ⟨W1.heap.size,4,none⟩)) hB
  ·intro a w val own hB hf zx hk
   obtain⟨k9,f9⟩:=hk 9 (show 9∈[9] by decide)
   have s44:=k9 44 rfl
   rw[zu f9] at s44
   clear k9 f9
   have cq:=zc hB q4
   exact zs (v:=.slice a2 F.ze.length k2) hB
  ·intro a w val own hB hf zx hk
   have s3:=hf.at (d:=3) (v:=.pointer (some ⟨wS.heap.size,0,none⟩)) (by kernel_rfl) rfl
   have cx0:=zc hB x0
   have cx1:=zc hB x1
   have cx2:=zc hB x2
   have cx3:=zc hB x3
   have cx4:=zc hB x4
   have cx5:=zc hB x5
   have cx6:=zc hB x6
   have cx7:=zc hB x7
   have cx8:=zc hB x8
   have cx9:=zc hB x9
   exact zs (v:=.agg #[.int .i64 m.cells,.slice (some ⟨bp,op,none⟩) m.zd.length cp,.slice ao m.order.length co,.int .i64 m.now,.slice at' m.zh.length ct,.int .i64 m.born,.slice as' m.zl.length cs,.int .i64 m.code,.slice al (xl m.zd).length cl,.int .i64 (zY m.zd:Int)]) hB
  ·intro a w val own hB hf zx hk
   obtain⟨k11,f11⟩:=hk 11 (show 11∈[11] by decide)
   have s46:=k11 46 rfl
   rw[zu f11] at s46
   clear k11 f11
   exact zs (v:=.func (.func 165) #[.agg #[.int .i64 m.cells,.slice (some ⟨bp,op,none⟩) m.zd.length cp,.slice ao m.order.length co,.int .i64 m.now,.slice at' m.zh.length ct,.int .i64 m.born,.slice as' m.zl.length cs,.int .i64 m.code,.slice al (xl m.zd).length cl,.int .i64 (zY m.zd:Int)]] #[]) hB
  ·intro a w val own hB hf zx hk
   obtain⟨k10,f10⟩:=hk 10 (show 10∈[4,5,6,7,8,9,10,11,12] by decide)
   have s45:=k10 45 rfl
   rw[zu f10] at s45
   clear k10 f10
   obtain⟨k12,f12⟩:=hk 12 (show 12∈[4,5,6,7,8,9,10,11,12] by decide)
   have s47:=k12 47 rfl
   rw[zu f12] at s47
   clear k12 f12
   obtain⟨k8,x8,e8,m8⟩:=hk 8 (show 8∈[4,5,6,7,8,9,10,11,12] by decide)
   have v8:=yB e8
   obtain⟨_,r8⟩:=m8.here hB
   clear k8 e8
   have hB':=B4.trans (hB.mono B4.size)
   have Zp:=hB.size
   refine jg hB rfl rfl (by unfold execOp;go_simp) ((HRV.out w _ F.ze hB' (ds.below hB') hl.2 HOS.out.2).mono ?_)
   rintro e w' ⟨v',rfl,r1,hb'⟩
   refine⟨_,rfl,hb',(x8,v'),?_,Made.new fun w1 hs _ hr=>⟨?_,fun g e e2=>?_,?_⟩⟩
   ·show [val 8,_]=_
    rw[v8]
    rfl
   ·obtain⟨a0,c0,e0,_⟩:=r1.slice
    exact⟨a0,c0,by simpa using e0⟩
   ·have l1:=(r8.lt g e).2
    have l2:=(r1.lt g e2).1
    omega
   ·exact(r1.kept hs fun g e=>hr g (r1.lt g e).1 (r1.lt g e).2).mono Zp
  ·intro a w val own hB hf zx hk
   have s8:=hf.at (d:=8) (v:=.int .i64 sd) (by kernel_rfl) rfl
   exact zs (v:=.int .i64 sd) hB
  ·intro a w val own hB hf zx hk
   obtain⟨k1,f1⟩:=hk 1 (show 1∈[0,1,2,3,4,5,6,7,8,9,10,11,12,13,14] by decide)
   have s36:=k1 36 rfl
   rw[zu f1] at s36
   clear k1 f1
   obtain⟨k3,f3⟩:=hk 3 (show 3∈[0,1,2,3,4,5,6,7,8,9,10,11,12,13,14] by decide)
   have s38:=k3 38 rfl
   rw[zu f3] at s38
   clear k3 f3
   obtain⟨k8,x8,e8,m8⟩:=hk 8 (show 8∈[0,1,2,3,4,5,6,7,8,9,10,11,12,13,14] by decide)
   have v8:=yB e8
   have s43:=k8 43 rfl
   rw[v8] at s43
   obtain⟨⟨a8,c8,q8⟩,r8⟩:=m8.here hB
   clear k8 e8
   obtain⟨k13,x13,e13,m13⟩:=hk 13 (show 13∈[0,1,2,3,4,5,6,7,8,9,10,11,12,13,14] by decide)
   have Wv:[val 8,val 13]=_:=e13
   injection Wv with Vc Jl
   have v13:=yB Jl
   have s48:=k13 48 rfl
   rw[v13] at s48
   obtain⟨⟨VY,c13,q13⟩,Wm,r13⟩:=m13.here hB
   clear k13 e13 Jl
   obtain⟨k14,f14⟩:=hk 14 (show 14∈[0,1,2,3,4,5,6,7,8,9,10,11,12,13,14] by decide)
   have s49:=k14 49 rfl
   rw[zu f14] at s49
   clear k14 f14
   obtain⟨y1,y2⟩:=x13
   dsimp only at q13
   subst q8 q13
   refine zs (v:=.agg #[.int .i64 F.m,.int .i64 F.pc,.slice a8 F.zg.length c8,.slice VY F.ze.length c13,.int .i64 sd,.bool false]) hB rfl rfl (by unfold execOp;go_simp) ⟨.slice a8 F.zg.length c8,.slice VY F.ze.length c13,?_⟩
   show [val 8,val 13,_]=_
   rw[v8,v13]
   rfl
 intro aE qF val own hB hf zx hk
 obtain⟨k8,x8,e8,m8⟩:=hk 8 (by decide)
 have v8:=yB e8
 have s43:=k8 43 rfl
 rw[v8] at s43
 obtain⟨⟨a8,c8,q8⟩,r8⟩:=m8.here hB
 clear k8 e8
 obtain⟨k13,x13,e13,m13⟩:=hk 13 (by decide)
 have Wv:[val 8,val 13]=_:=e13
 injection Wv with Vc Jl
 have v13:=yB Jl
 have s48:=k13 48 rfl
 rw[v13] at s48
 obtain⟨⟨VY,c13,q13⟩,Wm,r13⟩:=m13.here hB
 clear k13 e13 Jl
 obtain⟨y1,y2⟩:=x13
 dsimp only at q13 Wm r13 Vc v13
 have hxy:y1=x8:=by rw[<-Vc,v8]
 subst hxy
 obtain⟨k15,u1,u2,e15⟩:=hk 15 (by decide)
 have e15':[val 8,val 13,val 15]=_:=e15
 injection e15' with ea eb
 injection eb with eb ec
 have v15:=yB ec
 have s50:=k15 50 rfl
 rw[v8] at ea
 rw[v13] at eb
 subst ea eb
 rw[v15] at s50
 subst q8 q13
 clear k15 e15 ec v15 v8 v13 Vc
 have s6:=hf.at (d:=6) (v:=.pointer (some ⟨wS.heap.size+1,0,none⟩)) (by kernel_rfl) rfl
 have Q1:=y4.below hB
 have p0:=Q1.cell 0 rfl
 have pf0:=Q1.frozen 0
 have p1:=Q1.cell 1 rfl
 have pf1:=Q1.frozen 1
 have p2:=Q1.cell 2 rfl
 have pf2:=Q1.frozen 2
 have p3:=Q1.cell 3 rfl
 have pf3:=Q1.frozen 3
 have p4:=Q1.cell 4 rfl
 have pf4:=Q1.frozen 4
 have p5:=Q1.cell 5 rfl
 have pf5:=Q1.frozen 5
 refine xx (w':=YC qF (wS.heap.size+1) 0 [.int .i64 F.m,.int .i64 F.pc,.slice a8 F.zg.length c8,.slice VY F.ze.length c13,.int .i64 sd,.bool false]) rfl rfl (by unfold execOp;simp only[YC];go_simp) ?_
 simp only[Act.put,YC]
 obtain⟨u,hu0,hv⟩:=Qy aE.tmps (n:=51) hf.size
 have hu:aE.tmps=(u 0 :: u 1 :: u 2 :: u 3 :: u 4 :: u 5 :: u 6 :: u 7 :: u 8 :: u 9 :: u 10 :: u 11 :: u 12 :: u 13 :: u 14 :: u 15 :: u 16 :: u 17 :: u 18 :: u 19 :: u 20 :: u 21 :: u 22 :: u 23 :: u 24 :: u 25 :: u 26 :: u 27 :: u 28 :: u 29 :: u 30 :: u 31 :: u 32 :: u 33 :: u 34 :: u 35 :: u 36 :: u 37 :: u 38 :: u 39 :: u 40 :: u 41 :: u 42 :: u 43 :: u 44 :: u 45 :: u 46 :: u 47 :: u 48 :: u 49 :: u 50 :: []).toArray:=hu0
 rw[(hv 6).trans s6] at hu
 obtain rfl:=kX hu (show aE.defers=[] from hf.defers)
 clear hu hu0 hv hk zx hf s6 s50 s43 s48
 have zB:=hB.size
 have hy4:wS.heap.size+1<W4.heap.size:=y4.lt
 refine kH (fun W=>Below wS.heap.size wS W/\Bx W (wS.heap.size+1) 37 [.int .i64 F.m,.int .i64 F.pc,.slice a8 F.zg.length c8,.slice VY F.ze.length c13,.int .i64 sd,.bool false]/\zj W4.heap.size W (.slice a8 F.zg.length c8) (F.zg.map (jm (jY m)))/\zj W4.heap.size W (.slice VY F.ze.length c13) (F.ze.map (jm (jY m)))) ?_ ?_
 ·have HW:=((((((Wr.refl1 (wS.heap.size+1) qF).set1 (o:=0) (.int .i64 F.m)).set1 (o:=1) (.int .i64 F.pc)).set1 (o:=2) (.slice a8 F.zg.length c8)).set1 (o:=3) (.slice VY F.ze.length c13)).set1 (o:=4) (.int .i64 sd)).set1 (o:=5) (.bool false)
  exact⟨HW.below1 (B4.trans (hB.mono B4.size)) zD (Nat.le_succ _),(((((Q1.set 0 _).set 1 _).set 2 _).set 3 _).set 4 _).set 5 _,HW.pair r8 (fun g e e2=>by have:=(r8.lt g e).1;omega),HW.pair r13 (fun g e e2=>by have:=(r13.lt g e).1;omega)⟩
 rintro W9 ⟨B9,x9,r9,s9⟩
 try go_wp2
 have i0:=x9.cell 0 rfl
 have i1:=x9.cell 1 rfl
 have i2:=x9.cell 2 rfl
 have i3:=x9.cell 3 rfl
 have i4:=x9.cell 4 rfl
 have i5:=x9.cell 5 rfl
 exact bodyPost_ret (v:=.agg #[.int .i64 F.m,.int .i64 F.pc,.slice a8 F.zg.length c8,.slice VY F.ze.length c13,.int .i64 sd,.bool false]) (by simp[results,Tryz.results125,go_sem,i0,i1,i2,i3,i4,i5]) rfl ⟨_,_,by rw[HSD.out],r9.mono B4.size,s9.mono B4.size,Wm,B9⟩
end Go.Proofs.YtjbgpcileapogaaGreat
