/-
  The program's MachView of a machine all of which tells of what is there: callsAreThere, pageToldIsThere, twinToldIsThere, toldIsThere answer true. (Written by mktd.py.)
-/
import Derived.Test.YtjbgpcileapogaaGreatMPut
import Derived.Test.YtjbgpcileapogaaGreatMNewS
namespace Go.Proofs.YtjbgpcileapogaaGreat
open Go.RowKit
def jz (n:Nat) (l:zL):Prop:=∀q,(hq:q<l.length)->l[q].1=2->yO l[q].2 0 ((n:Int) - 1)=true
structure YK (m:Mc):Prop where
 fr:∀i k,(hi:i<m.zd.length)->(hk:k<m.zd[i].zk.length)->(m.zd[i].zk[k].twin == -1 || yO m.zd[i].zk[k].twin 0 ((m.zh.length:Int) - 1))=true/\jz m.zh.length m.zd[i].zk[k].zg/\jz m.zh.length m.zd[i].zk[k].ze
 bs:∀i,(hi:i<m.zd.length)->(m.zd[i].base == -1 || yO m.zd[i].base 0 ((m.zh.length:Int) - 1))=true
 tw:∀j,(hj:j<m.zh.length)->(m.zh[j].page≠-1->Uj m m.zh[j].page m.zh[j].place=true)/\(m.zh[j].page=-1->(m.zh[j].left.zf == -1 || yO m.zh[j].left.zf 0 ((m.zh.length:Int) - 1))=true/\jz m.zh.length m.zh[j].left.zg/\jz m.zh.length m.zh[j].left.ze)
theorem zcg {j:Int} {n:Nat} (w:World) (h:yO j 0 ((n:Int) - 1)=true):Calls Tryz.prog 61 #[.int .i64 j,.int .i64 n] w fun e w'=>e=.returned (.bool true)/\w'=w:=by
 have:=yd j n w
 rwa [h] at this
theorem Vp {j:Int} {n:Nat} (w:World) (h:(j == -1 || yO j 0 ((n:Int) - 1))=true):Calls Tryz.prog 112 #[.int .i64 j,.int .i64 n] w fun e w'=>e=.returned (.bool true)/\w'=w:=by
 have:=yM j n w
 rwa [h] at this
set_option maxRecDepth 100000 in
set_option maxHeartbeats 4000000 in
theorem jI (vp vo vt vs:Value) (m:Mc) (v:Value) (l:zL) (w:World) (h:yF w vp vo vt vs m) (hv:zR w v l) (hT:jz m.zh.length l) :
 Calls Tryz.prog 169 #[.agg (zI vp vo vt vs m).toArray,v] w fun e w'=>e=.returned (.bool true)/\Below w.heap.size w w':=by
 have HT:Hid (jz m.zh.length l):=hT
 clear hT
 obtain⟨av,cv,hvv,hlv,hcv⟩:=hv
 subst hvv
 unfold maxLen at hlv
 obtain⟨ap,cp,hvp,hlp,hcp⟩:=id h.p
 obtain⟨ao,co,xz,hlo,hco⟩:=id h.o
 obtain⟨at',ct,xZ,hlt',hct⟩:=id h.t
 obtain⟨as',cs,hvs⟩:=h.s.shape
 subst hvp xz xZ hvs
 unfold zI
 go_enter Tryz.func169,Tryz.ntmps169
 go_upto_region 1 with fail
 refine ye (fun W=>Below w.heap.size w W/\Bx W w.heap.size 42 [.int .i64 m.cells,.slice ap m.zd.length cp,.slice ao m.order.length co,.int .i64 m.now,.slice at' m.zh.length ct,.int .i64 m.born,.slice as' m.zl.length cs,.int .i64 m.code]) ⟨zB _ _,Bx.new w _ _⟩ ?_
 rintro W ⟨hb,hm⟩
 obtain⟨⟨m0,m1,m2,m3,m4,m5,m6,m7⟩,_⟩:=xy hm
 have zb:=hb.size
 clear hcp hco hct hlp hlo hlt'
 go_wp2_with fail
 go_loopg [6,9] l.length (fun d _ v wr=>∃k:Nat,k<=l.length/\d=l.length - k/\v=.int .i64 (k:Int)/\Below w.heap.size w wr/\Below W.heap.size W wr)
 case atStart=>exact⟨0,Nat.zero_le _,rfl,rfl,hb,zC⟩
 case round =>
  obtain⟨k,hk,rfl,rfl,hbr,hbW⟩:=hrel
  have zr:=hbr.size
  have zW:=hbW.size
  have hmr:=hm.below hbW
  by_cases hlt:k<l.length
  ·obtain⟨b,o,rfl,c0,c1⟩:=hcv k hlt
   have d0:=zc hbr c0
   have d1:=zc hbr c1
   have HTk:=HT.out k hlt
   obtain⟨L,hL⟩:∃L,l[k]=L:=⟨_,rfl⟩
   rw[hL] at d0 d1 HTk
   have hkz:(k:Int)<(l.length:Int):=by omega
   clear hcv c0 c1 hL
   go_upto_region 4 with fail
   refine ye (fun W'=>Below wr.heap.size wr W'/\Bx W' wr.heap.size 98 [.int .i64 L.1,.int .i64 L.2]) ⟨zB _ _,Bx.new _ _ _⟩ ?_
   rintro W2 ⟨t2,y2⟩
   have hb2:=hbr.trans (t2.mono zr)
   have hb3:=hbW.trans (t2.mono zW)
   have hm2:=hmr.below t2
   have z2:=hb2.size
   have z3:=hb3.size
   clear t2 hmr d0 d1 m0 m1 m2 m3 m4 m5 m6 m7
   obtain⟨⟨m0,m1,m2,m3,m4,m5,m6,m7⟩,_⟩:=xy hm2
   have y0:=y2.cell 0 rfl
   have y1:=y2.cell 1 rfl
   by_cases h2:L.1=2
   ·have HP:=zcg W2 (HTk h2)
    rw[h2] at y0
    clear HTk
    go_wp2_with fail
    refine HP.mono ?_
    rintro e W3 ⟨rfl,hw⟩
    obtain rfl:=hw.symm
    clear hw HP
    go_wp2
    go_roundg (l.length - (k+1))
    case measure=>omega
    case rel=>exact⟨k+1,by omega,rfl,by go_num,hb2,hb3⟩
   ·have h2b:(L.1 == 2)=false:=by simpa using h2
    clear HTk
    go_wp2
    go_roundg (l.length - (k+1))
    case measure=>omega
    case rel=>exact⟨k+1,by omega,rfl,by go_num,hb2,hb3⟩
  ·obtain rfl:k=l.length:=by omega
   go_wp2
   go_ret
   exact⟨rfl,hbr⟩
set_option maxRecDepth 100000 in
set_option maxHeartbeats 4000000 in
theorem ZV (vp vo vt vs:Value) (m:Mc) (i:Nat) (w:World) (h:yF w vp vo vt vs m) (hi:i<m.zd.length) (hT:YK m) (af:Option Addr) (cf:Nat) (hf:xU w (.slice af m.zd[i].zk.length cf) m.zd[i].zk) :
 Calls Tryz.prog 136 #[.agg (zI vp vo vt vs m).toArray,.agg #[.int .i64 m.zd[i].base,.slice af m.zd[i].zk.length cf]] w fun e w'=>e=.returned (.bool true)/\Below w.heap.size w w':=by
 have HT:Hid (YK m):=hT
 clear hT
 have HM:Hid (yF w vp vo vt vs m):=h
 obtain⟨P,hP⟩:∃P,m.zd[i]=P:=⟨_,rfl⟩
 have hbs:=HT.out.bs i hi
 have hfr:∀k,(hk:k<P.zk.length)->(P.zk[k].twin == -1 || yO P.zk[k].twin 0 ((m.zh.length:Int) - 1))=true/\jz m.zh.length P.zk[k].zg/\jz m.zh.length P.zk[k].ze:=fun k hk=>by
  have e:=hP
  subst e
  exact HT.out.fr i k hi hk
 rw[hP] at hf hbs ⊢
 have HBS:Hid ((P.base == -1 || yO P.base 0 ((m.zh.length:Int) - 1))=true):=hbs
 clear hP hbs HT
 obtain⟨_,_,e0,hlf,hcf⟩:=hf
 cases e0
 unfold maxLen at hlf
 obtain⟨ap,cp,hvp,hlp,hcp⟩:=id h.p
 obtain⟨ao,co,xz,hlo,hco⟩:=id h.o
 obtain⟨at',ct,xZ,hlt',hct⟩:=id h.t
 obtain⟨as',cs,hvs⟩:=h.s.shape
 subst hvp xz xZ hvs
 unfold zI
 go_enter Tryz.func136,Tryz.ntmps136
 go_upto_region 1 with fail
 refine ye (fun W=>Below w.heap.size w W/\Bx W w.heap.size 42 [.int .i64 m.cells,.slice ap m.zd.length cp,.slice ao m.order.length co,.int .i64 m.now,.slice at' m.zh.length ct,.int .i64 m.born,.slice as' m.zl.length cs,.int .i64 m.code]/\Bx W (w.heap.size+1) 101 [.int .i64 P.base,.slice af P.zk.length cf]) ⟨(zB _ _).alloc (by simp) _,(Bx.new w _ _).alloc _,Bx.newAt _ _ _ (by simp)⟩ ?_
 rintro W ⟨hb,hm,hx⟩
 obtain⟨⟨m0,m1,m2,m3,m4,m5,m6,m7⟩,_⟩:=xy hm
 have x0:=hx.cell 0 rfl
 have x1:=hx.cell 1 rfl
 have zb:=hb.size
 clear hcp hco hct hlp hlo hlt'
 go_wp2_with fail
 go_loopg [6,10] P.zk.length (fun d _ v wr=>∃k:Nat,k<=P.zk.length/\d=P.zk.length - k/\v=.int .i64 (k:Int)/\Below w.heap.size w wr/\Below W.heap.size W wr)
 case atStart=>exact⟨0,Nat.zero_le _,rfl,rfl,hb,zC⟩
 case round =>
  obtain⟨k,hk,rfl,rfl,hbr,hbW⟩:=hrel
  have zr:=hbr.size
  have zW:=hbW.size
  have hmr:=hm.below hbW
  have hxr:=hx.below hbW
  clear m0 m1 m2 m3 m4 m5 m6 m7 x0 x1
  by_cases hlt:k<P.zk.length
  ·obtain⟨bf,of,v1,v2,rfl,hF⟩:=hcf k hlt
   obtain⟨HF1,HF2,HF3⟩:=hfr k hlt
   obtain⟨F,hFe⟩:∃F,P.zk[k]=F:=⟨_,rfl⟩
   rw[hFe] at hF HF1 HF2 HF3
   obtain⟨d0,d1,d2,d3,d4,dt,ds⟩:=hF.below hbr
   obtain⟨a1,k1,e1⟩:=dt.shape
   obtain⟨a2,k2,e2⟩:=ds.shape
   subst e1 e2
   have hkz:(k:Int)<(P.zk.length:Int):=by omega
   clear hcf hfr hF hFe
   go_upto_region 4 with fail
   refine ye (fun W'=>Below wr.heap.size wr W'/\Bx W' wr.heap.size 103 [.int .i64 F.m,.int .i64 F.pc,.int .i64 F.twin,.slice a1 F.zg.length k1,.slice a2 F.ze.length k2]) ⟨zB _ _,Bx.new _ _ _⟩ ?_
   rintro W2 ⟨t2,y2⟩
   have hb2:=hbr.trans (t2.mono zr)
   have hb3:=hbW.trans (t2.mono zW)
   have hm2:=hmr.below t2
   have dt2:=dt.below t2
   have ds2:=ds.below t2
   have z2:=hb2.size
   have z3:=hb3.size
   clear t2 hmr hxr dt ds d0 d1 d2 d3 d4
   obtain⟨⟨m0,m1,m2,m3,m4,m5,m6,m7⟩,_⟩:=xy hm2
   have y2':=y2.cell 2 rfl
   have y3:=y2.cell 3 rfl
   have y4:=y2.cell 4 rfl
   have HP:=Vp W2 HF1
   go_wp2_with fail
   refine HP.mono ?_
   rintro e W3 ⟨rfl,hw⟩
   obtain rfl:=hw.symm
   clear hw HP
   have HQ:=jI _ _ _ _ m _ F.zg W2 (HM.out.below hb2) dt2 HF2
   unfold zI at HQ
   go_wp2_with fail
   refine HQ.mono ?_
   rintro e W3 ⟨rfl,t3⟩
   have hb4:=hb2.trans (t3.mono z2)
   have hb5:=hb3.trans (t3.mono z3)
   have Xc:=hm2.below t3
   have ds3:=ds2.below t3
   have y24:=zc t3 y4
   have z4:=hb4.size
   have z5:=hb5.size
   clear HQ t3 hm2 dt2 ds2 m0 m1 m2 m3 m4 m5 m6 m7 y2' y3 y4 y2
   obtain⟨⟨m0,m1,m2,m3,m4,m5,m6,m7⟩,_⟩:=xy Xc
   have HR:=jI _ _ _ _ m _ F.ze W3 (HM.out.below hb4) ds3 HF3
   unfold zI at HR
   go_wp2_with fail
   refine HR.mono ?_
   rintro e W4 ⟨rfl,t4⟩
   have hb6:=hb4.trans (t4.mono z4)
   have hb7:=hb5.trans (t4.mono z5)
   clear HR t4 m0 m1 m2 m3 m4 m5 m6 m7
   go_wp2
   go_roundg (P.zk.length - (k+1))
   case measure=>omega
   case rel=>exact⟨k+1,by omega,rfl,by go_num,hb6,hb7⟩
  ·obtain rfl:k=P.zk.length:=by omega
   obtain⟨⟨m0,m1,m2,m3,m4,m5,m6,m7⟩,_⟩:=xy hmr
   have x0:=hxr.cell 0 rfl
   clear hcf hfr
   go_wp2_with fail
   refine(Vp _ HBS.out).mono ?_
   rintro e W2 ⟨rfl,hw⟩
   obtain rfl:=hw.symm
   go_wp2
   go_ret
   exact⟨rfl,hbr⟩
set_option maxRecDepth 100000 in
set_option maxHeartbeats 4000000 in
theorem ZX (vp vo vt vs:Value) (m:Mc) (j:Nat) (w:World) (h:yF w vp vo vt vs m) (hj:j<m.zh.length) (hT:YK m) (w1 w2:Value) (h1:zR w w1 m.zh[j].left.zg) (h2:zR w w2 m.zh[j].left.ze) :
 Calls Tryz.prog 137 #[.agg (zI vp vo vt vs m).toArray,.agg #[.int .i64 m.zh[j].page,.int .i64 m.zh[j].place,.int .i64 m.zh[j].left.m,.int .i64 m.zh[j].left.pc,w1,w2,.int .i64 m.zh[j].left.zf,.bool m.zh[j].left.zv]] w fun e w'=>e=.returned (.bool true)/\Below w.heap.size w w':=by
 have HM:Hid (yF w vp vo vt vs m):=h
 obtain⟨hT1,hT2⟩:=hT.tw j hj
 obtain⟨T,hTe⟩:∃T,m.zh[j]=T:=⟨_,rfl⟩
 rw[hTe] at h1 h2 hT1 hT2 ⊢
 have HT1:Hid (T.page≠-1->Uj m T.page T.place=true):=hT1
 have HT2:Hid (T.page=-1->(T.left.zf == -1 || yO T.left.zf 0 ((m.zh.length:Int) - 1))=true/\jz m.zh.length T.left.zg/\jz m.zh.length T.left.ze):=hT2
 clear hT hT1 hT2 hTe
 obtain⟨a1,k1,e1⟩:=h1.shape
 obtain⟨a2,k2,e2⟩:=h2.shape
 subst e1 e2
 obtain⟨ap,cp,hvp,hlp,hcp⟩:=id h.p
 obtain⟨ao,co,xz,hlo,hco⟩:=id h.o
 obtain⟨at',ct,xZ,hlt',hct⟩:=id h.t
 obtain⟨as',cs,hvs⟩:=h.s.shape
 subst hvp xz xZ hvs
 unfold zI
 go_enter Tryz.func137,Tryz.ntmps137
 go_upto_region 1 with fail
 refine ye (fun W=>Below w.heap.size w W/\Bx W w.heap.size 42 [.int .i64 m.cells,.slice ap m.zd.length cp,.slice ao m.order.length co,.int .i64 m.now,.slice at' m.zh.length ct,.int .i64 m.born,.slice as' m.zl.length cs,.int .i64 m.code]/\Bx W (w.heap.size+1) 90 [.int .i64 T.page,.int .i64 T.place,.int .i64 T.left.m,.int .i64 T.left.pc,.slice a1 T.left.zg.length k1,.slice a2 T.left.ze.length k2,.int .i64 T.left.zf,.bool T.left.zv]) ⟨(zB _ _).alloc (by simp) _,(Bx.new w _ _).alloc _,Bx.newAt _ _ _ (by simp)⟩ ?_
 rintro W ⟨hb,hm,hx⟩
 obtain⟨⟨m0,m1,m2,m3,m4,m5,m6,m7⟩,_⟩:=xy hm
 obtain⟨⟨x0,x1,x2,x3,x4,x5,x6,x7⟩,_⟩:=xy hx
 have zb:=hb.size
 clear hcp hco hct hlp hlo hlt'
 by_cases hp:T.page=-1
 ·obtain⟨t1,t2,tq⟩:=HT2.out hp
  rw[hp] at x0
  have HP:=Vp W t1
  go_wp2_with fail
  refine HP.mono ?_
  rintro e W3 ⟨rfl,hw⟩
  obtain rfl:=hw.symm
  clear hw HP
  have HQ:=jI _ _ _ _ m _ T.left.zg W (HM.out.below hb) (h1.below hb) t2
  unfold zI at HQ
  go_wp2_with fail
  refine HQ.mono ?_
  rintro e W3 ⟨rfl,t3⟩
  have hb3:=hb.trans (t3.mono zb)
  have Xc:=hm.below t3
  have hx3:=hx.below t3
  have z3:=hb3.size
  clear HQ t3 hm hx m0 m1 m2 m3 m4 m5 m6 m7 x0 x1 x2 x3 x4 x5 x6 x7
  obtain⟨⟨m0,m1,m2,m3,m4,m5,m6,m7⟩,_⟩:=xy Xc
  obtain⟨⟨x0,x1,x2,x3,x4,x5,x6,x7⟩,_⟩:=xy hx3
  have HR:=jI _ _ _ _ m _ T.left.ze W3 (HM.out.below hb3) (h2.below hb3) (by assumption)
  unfold zI at HR
  go_wp2_with fail
  refine HR.mono ?_
  rintro e W4 ⟨rfl,t4⟩
  have hb4:=hb3.trans (t4.mono z3)
  clear HR t4
  go_wp2
  go_ret
  exact⟨rfl,hb4⟩
 ·have hpb:(T.page == -1)=false:=by simpa using hp
  have HF:=Xe _ _ _ _ m T.page T.place W (HM.out.below hb)
  rw[HT1.out hp] at HF
  unfold zI at HF
  go_wp2_with fail
  refine HF.mono ?_
  rintro e W2 ⟨rfl,t2⟩
  have hb2:=hb.trans (t2.mono zb)
  go_wp2
  go_ret
  exact⟨rfl,hb2⟩
set_option maxRecDepth 100000 in
set_option maxHeartbeats 4000000 in
theorem XW (vp vo vt vs:Value) (m:Mc) (w:World) (h:yF w vp vo vt vs m) (hT:YK m) :
 Calls Tryz.prog 80 #[.agg (zI vp vo vt vs m).toArray] w fun e w'=>e=.returned (.bool true)/\Below w.heap.size w w':=by
 have HT:Hid (YK m):=hT
 clear hT
 have HM:Hid (yF w vp vo vt vs m):=h
 obtain⟨ap,cp,hvp,hlp,hcp⟩:=id h.p
 obtain⟨ao,co,xz,hlo,hco⟩:=id h.o
 obtain⟨at',ct,xZ,hlt',hct⟩:=id h.t
 obtain⟨as',cs,hvs⟩:=h.s.shape
 subst hvp xz xZ hvs
 unfold zI
 go_enter Tryz.func80,Tryz.ntmps80
 go_upto_region 1 with fail
 refine ye (fun W=>Below w.heap.size w W/\Bx W w.heap.size 42 [.int .i64 m.cells,.slice ap m.zd.length cp,.slice ao m.order.length co,.int .i64 m.now,.slice at' m.zh.length ct,.int .i64 m.born,.slice as' m.zl.length cs,.int .i64 m.code]) ⟨zB _ _,Bx.new w _ _⟩ ?_
 rintro W ⟨hb,hm⟩
 obtain⟨⟨m0,m1,m2,m3,m4,m5,m6,m7⟩,_⟩:=xy hm
 have zb:=hb.size
 unfold maxLen at hlp hlt'
 clear hco
 go_wp2_with fail
 go_loopg [4,10] m.zd.length (fun d _ v wr=>∃k:Nat,k<=m.zd.length/\d=m.zd.length - k/\v=.int .i64 (k:Int)/\Below w.heap.size w wr/\Below W.heap.size W wr)
 case atStart=>exact⟨0,Nat.zero_le _,rfl,rfl,hb,zC⟩
 case round =>
  obtain⟨k,hk,rfl,rfl,hbr,hbW⟩:=hrel
  have zr:=hbr.size
  have zW:=hbW.size
  have hmr:=hm.below hbW
  clear m0 m1 m2 m3 m4 m5 m6 m7
  obtain⟨⟨m0,m1,m2,m3,m4,m5,m6,m7⟩,_⟩:=xy hmr
  by_cases hlt:k<m.zd.length
  ·obtain⟨bp,op,vf,rfl,jN⟩:=hcp k hlt
   obtain⟨af,cf,Z4⟩:=jN.f.shape
   subst Z4
   have g0:=zc hbr jN.c0
   have g1:=zc hbr jN.c1
   have HFA:Hid (xU w (.slice af m.zd[k].zk.length cf) m.zd[k].zk):=jN.f
   have hkz:(k:Int)<(m.zd.length:Int):=by omega
   clear jN hcp hct
   go_upto_region 4 with fail
   refine ye (fun W'=>Below wr.heap.size wr W'/\Bx W' wr.heap.size 101 [.int .i64 m.zd[k].base,.slice af m.zd[k].zk.length cf]) ⟨zB _ _,Bx.new _ _ _⟩ ?_
   rintro W2 ⟨t2,y2⟩
   have hb2:=hbr.trans (t2.mono zr)
   have hb3:=hbW.trans (t2.mono zW)
   have hm2:=hmr.below t2
   have z2:=hb2.size
   have z3:=hb3.size
   clear t2 hmr g0 g1 m0 m1 m2 m3 m4 m5 m6 m7
   obtain⟨⟨m0,m1,m2,m3,m4,m5,m6,m7⟩,_⟩:=xy hm2
   have y0:=y2.cell 0 rfl
   have y1:=y2.cell 1 rfl
   have HC:=ZV _ _ _ _ m k W2 (HM.out.below hb2) hlt HT.out af cf (HFA.out.below hb2)
   unfold zI at HC
   go_wp2_with fail
   refine HC.mono ?_
   rintro e W3 ⟨rfl,t3⟩
   have hb4:=hb2.trans (t3.mono z2)
   have hb5:=hb3.trans (t3.mono z3)
   clear HC t3 m0 m1 m2 m3 m4 m5 m6 m7 y0 y1 y2
   go_wp2
   go_roundg (m.zd.length - (k+1))
   case measure=>omega
   case rel=>exact⟨k+1,by omega,rfl,by go_num,hb4,hb5⟩
  ·obtain rfl:k=m.zd.length:=by omega
   clear hcp
   go_wp2_with fail
   go_loopg [6,22] m.zh.length (fun d _ v wt=>∃k:Nat,k<=m.zh.length/\d=m.zh.length - k/\v=.int .i64 (k:Int)/\Below w.heap.size w wt/\Below wr.heap.size wr wt)
   case atStart=>exact⟨0,Nat.zero_le _,rfl,rfl,hbr,zC⟩
   case round =>
    obtain⟨k,hk,rfl,rfl,hbt,Wi⟩:=hrel
    have zt:=hbt.size
    have zT:=Wi.size
    have hmt:=hmr.below Wi
    clear m0 m1 m2 m3 m4 m5 m6 m7
    obtain⟨⟨m0,m1,m2,m3,m4,m5,m6,m7⟩,_⟩:=xy hmt
    by_cases hlt:k<m.zh.length
    ·obtain⟨bt,ot,w1,w2,rfl,Z3⟩:=hct k hlt
     have h1:=Z3.t
     have h2:=Z3.s
     obtain⟨d0,d1,d2,d3,d4,d5,d6,d7,dt,ds⟩:=Z3.below hbt
     obtain⟨a1,k1,e1⟩:=dt.shape
     obtain⟨a2,k2,e2⟩:=ds.shape
     subst e1 e2
     have H1:Hid (zR w (.slice a1 m.zh[k].left.zg.length k1) m.zh[k].left.zg/\zR w (.slice a2 m.zh[k].left.ze.length k2) m.zh[k].left.ze):=⟨h1,h2⟩
     have hkz:(k:Int)<(m.zh.length:Int):=by omega
     have HCT:Hid (∀W2,Below w.heap.size w W2->Calls Tryz.prog 137 #[.agg (zI (.slice ap m.zd.length cp) (.slice ao m.order.length co) (.slice (some ⟨bt,ot,none⟩) m.zh.length ct) (.slice as' m.zl.length cs) m).toArray,.agg #[.int .i64 m.zh[k].page,.int .i64 m.zh[k].place,.int .i64 m.zh[k].left.m,.int .i64 m.zh[k].left.pc,.slice a1 m.zh[k].left.zg.length k1,.slice a2 m.zh[k].left.ze.length k2,.int .i64 m.zh[k].left.zf,.bool m.zh[k].left.zv]] W2 fun e w'=>e=.returned (.bool true)/\Below W2.heap.size W2 w'):=fun W2 hW=>ZX _ _ _ _ m k W2 (HM.out.below hW) hlt HT.out _ _ (H1.out.1.below hW) (H1.out.2.below hW)
     obtain⟨T,hTe⟩:∃T,m.zh[k]=T:=⟨_,rfl⟩
     rw[hTe] at d0 d1 d2 d3 d4 d5 d6 d7 HCT
     clear hct Z3 dt ds h1 h2 H1 hTe
     go_upto_region 10 with fail
     refine ye (fun W'=>Below wr.heap.size wr W'/\Bx W' wr.heap.size 90 [.int .i64 T.page,.int .i64 T.place,.int .i64 T.left.m,.int .i64 T.left.pc,.slice a1 T.left.zg.length k1,.slice a2 T.left.ze.length k2,.int .i64 T.left.zf,.bool T.left.zv]) ⟨zB _ _,Bx.new _ _ _⟩ ?_
     rintro W2 ⟨t2,y2⟩
     have hb2:=hbt.trans (t2.mono zt)
     have hb3:=Wi.trans (t2.mono zT)
     have hm2:=hmt.below t2
     have z2:=hb2.size
     have z3:=hb3.size
     clear t2 hmt d0 d1 d2 d3 d4 d5 d6 d7 m0 m1 m2 m3 m4 m5 m6 m7
     obtain⟨⟨m0,m1,m2,m3,m4,m5,m6,m7⟩,_⟩:=xy hm2
     obtain⟨⟨y0,y1,y2',y3,y4,y5,y6,y7⟩,_⟩:=xy y2
     have HC:=HCT.out W2 hb2
     clear HCT
     unfold zI at HC
     go_wp2_with fail
     refine HC.mono ?_
     rintro e W3 ⟨rfl,t3⟩
     have hb4:=hb2.trans (t3.mono z2)
     have hb5:=hb3.trans (t3.mono z3)
     clear HC t3 m0 m1 m2 m3 m4 m5 m6 m7 y0 y1 y2 y2' y3 y4 y5 y6 y7
     go_wp2
     go_roundg (m.zh.length - (k+1))
     case measure=>omega
     case rel=>exact⟨k+1,by omega,rfl,by go_num,hb4,hb5⟩
    ·obtain rfl:k=m.zh.length:=by omega
     go_wp2
     go_ret
     exact⟨rfl,hbt⟩
set_option maxRecDepth 100000 in
set_option maxHeartbeats 4000000 in
theorem QF (vp vo vt vs:Value) (m:Mc) (w:World) (h:yF w vp vo vt vs m) (hT:YK m) (hD:zaQ m) (hn:m.zd.length<=1048576) (hN:zY m.zd+m.zh.length<=31) (hsh:(yW m).short) :
 Calls Tryz.prog 25 #[.agg (zI vp vo vt vs m).toArray] w fun e w'=>(∃v V,e=.returned v/\yu w.heap.size w' v (j5 (yW m)) V)/\Below w.heap.size w w':=by
 have HM:Hid (yF w vp vo vt vs m):=h
 have hcn:(yW m).za.length<=31:=by
  show(yK m m.zd.length ++ yX m m.zh.length).length<=_
  rw[List.length_append,jA zD,um]
  exact hN
 obtain⟨ap,cp,hvp,hlp,hcp⟩:=id h.p
 obtain⟨ao,co,xz,hlo,hco⟩:=id h.o
 obtain⟨at',ct,xZ,hlt',hct⟩:=id h.t
 obtain⟨as',cs,hvs⟩:=h.s.shape
 subst hvp xz xZ hvs
 unfold zI
 go_enter Tryz.func25,Tryz.ntmps25
 go_upto_region 1 with fail
 refine ye (fun W=>Below w.heap.size w W/\Bx W w.heap.size 42 [.int .i64 m.cells,.slice ap m.zd.length cp,.slice ao m.order.length co,.int .i64 m.now,.slice at' m.zh.length ct,.int .i64 m.born,.slice as' m.zl.length cs,.int .i64 m.code]) ⟨zB _ _,Bx.new w _ _⟩ ?_
 rintro W ⟨hb,hm⟩
 obtain⟨⟨m0,m1,m2,m3,m4,m5,m6,m7⟩,_⟩:=xy hm
 have zb:=hb.size
 clear hcp hco hct
 have HP:=XW _ _ _ _ m W (HM.out.below hb) hT
 unfold zI at HP
 go_wp2_with fail
 refine HP.mono ?_
 rintro e W2 ⟨rfl,t2⟩
 have hb2:=hb.trans (t2.mono zb)
 have hm2:=hm.below t2
 have z2:=hb2.size
 clear HP t2 hm m0 m1 m2 m3 m4 m5 m6 m7
 obtain⟨⟨m0,m1,m2,m3,m4,m5,m6,m7⟩,_⟩:=xy hm2
 have HQ:=Qm _ _ _ _ m W2 (HM.out.below hb2) hD hn (by omega)
 unfold zI at HQ
 go_wp2_with fail
 refine HQ.mono ?_
 rintro e W3 ⟨vc,rfl,hc,t3⟩
 have hb3:=hb2.trans (t3.mono z2)
 have z3:=hb3.size
 have HV:Hid (Calls Tryz.prog 26 #[.agg #[vc,.int .i64 (un m),.int .i64 0,.slice none 0 0,.int .i64 0]] W3 fun e w'=>(∃v V,e=.returned v/\yu W3.heap.size w' v (j5 (yW m)) V)/\Below W3.heap.size W3 w') :=
  wX vc (.slice none 0 0) (yW m) W3 ⟨hc,⟨none,0,rfl,Nat.zero_le _,fun _ hi=>absurd hi zF⟩⟩ hsh hcn
 clear HQ t3 hm2 m0 m1 m2 m3 m4 m5 m6 m7
 go_wp2_with fail
 refine HV.out.mono ?_
 rintro e W4 ⟨⟨v,V,rfl,hv⟩,t4⟩
 have hb4:=hb3.trans (t4.mono z3)
 have hv2:=hv.mono z3
 have hvs:=hv2
 obtain⟨x1,x2,x3⟩:=hvs.at.shape
 subst x3
 have HO:Hid (yu w.heap.size W4 (.slice x1 (j5 (yW m)).length x2) (j5 (yW m)) V):=hv2
 clear hv hvs hv2
 go_wp2
 go_ret
 exact⟨⟨_,V,rfl,HO.out⟩,hb4⟩
def vy (ms:zM) (m:Mc):Bool :=
 yt ms && (yQ m.zd.length m.cells && (ju m && (XM m && (yO m.born 1 30 && (decide ((vB m:Int)<=m.born) && (yk ms.length m.zl && (yO m.code 0 3 && ((m.code == 1) == (m.now == -1)))))))))
noncomputable def jq (ms:zM) (m:Mc):Bool :=
 vy ms m && ((List.range m.zd.length).all (fun i=>xg ms m i (uK m (i:Int))) && ((List.range m.zh.length).all (fun j=>qW ms m j (jM m (j:Int))) && j6 (yW m).za (yW m).now))
theorem jU {ms:zM} {m:Mc} (h:vy ms m=false):jq ms m=false:=by unfold jq;rw[h];rfl
theorem WP {ms:zM} {m:Mc} {k:Nat} (hk:k<m.zd.length) (h:xg ms m k m.zd[k]=false):jq ms m=false:=by
 unfold jq
 rw[show(List.range m.zd.length).all (fun i=>xg ms m i (uK m (i:Int)))=false from List.all_eq_false.2 ⟨k,List.mem_range.2 hk,by rw[kB hk,h];simp⟩]
 simp
theorem WR {ms:zM} {m:Mc} {k:Nat} (hk:k<m.zh.length) (h:qW ms m k m.zh[k]=false):jq ms m=false:=by
 unfold jq
 rw[show(List.range m.zh.length).all (fun i=>qW ms m i (jM m (i:Int)))=false from List.all_eq_false.2 ⟨k,List.mem_range.2 hk,by rw[vQ hk,h];simp⟩]
 simp
theorem QH {ms:zM} {m:Mc} (h0:vy ms m=true) (h1:∀k,(hk:k<m.zd.length)->xg ms m k m.zd[k]=true) (h2:∀k,(hk:k<m.zh.length)->qW ms m k m.zh[k]=true):jq ms m=j6 (yW m).za (yW m).now:=by
 unfold jq
 rw[h0,show(List.range m.zd.length).all (fun i=>xg ms m i (uK m (i:Int)))=true from List.all_eq_true.2 fun i hi=>by rw[kB (List.mem_range.1 hi)];exact h1 i (List.mem_range.1 hi),
  show(List.range m.zh.length).all (fun i=>qW ms m i (jM m (i:Int)))=true from List.all_eq_true.2 fun i hi=>by rw[vQ (List.mem_range.1 hi)];exact h2 i (List.mem_range.1 hi)]
 simp
theorem UH {ms:zM} {m:Mc} (h:jq ms m=true):vy ms m=true/\(∀k,(hk:k<m.zd.length)->xg ms m k m.zd[k]=true)/\(∀k,(hk:k<m.zh.length)->qW ms m k m.zh[k]=true)/\j6 (yW m).za (yW m).now=true:=by
 unfold jq at h
 simp only[Bool.and_eq_true,List.all_eq_true,List.mem_range] at h
 exact⟨h.1,fun k hk=>by have:=h.2.1 k hk;rwa [kB hk] at this,fun k hk=>by have:=h.2.2.1 k hk;rwa [vQ hk] at this,h.2.2.2⟩
theorem Z1 {ps:List Pg} {B:Nat} (h:∀i,(hi:i<ps.length)->ps[i].zk.length<=B):∀k,k<=ps.length->yC ps k<=k * B
 | 0,_=>by simp[wj]
 | k+1,hk=>by
  rw[xn (show k<ps.length from hk),Nat.succ_mul]
  have:=Z1 h k (by omega)
  have:=h k hk
  omega
theorem zaU {ms:zM} {n:Nat} {c:Cl} (hp:yt ms=true) (h:yT ms n c=true):c.zg.length<=1000/\c.ze.length<=1000:=by
 simp only[yT,Bool.and_eq_true,zH,decide_eq_true_iff] at h
 obtain⟨⟨⟨⟨h1,_⟩,h2⟩,h3⟩,_⟩:=h
 simp only[yt,Bool.and_eq_true] at hp
 obtain⟨k,hk⟩:=Int.eq_ofNat_of_zero_le h1.1
 rw[hk] at h2
 have hl:k<ms.length:=by omega
 have:=List.all_eq_true.1 hp.2 ms[k] (List.getElem_mem hl)
 simp only[yG,Bool.and_eq_true,zH,decide_eq_true_iff] at this
 simp only[Int.toNat_natCast,List.getD_eq_getElem?_getD,List.getElem?_eq_getElem hl,Option.getD_some] at h2
 omega
theorem uu {ms:zM} {n:Nat} {c:Cl} (h:yT ms n c=true):yO c.zf (-1) ((n:Int) - 1)=true/\yk n c.zg=true/\yk n c.ze=true:=by
 simp only[yT,Bool.and_eq_true] at h
 exact⟨h.2.1.1.1,h.2.1.1.2,h.2.1.2⟩
theorem wh {n:Nat} {l:zL} (h:yk n l=true) {q:Nat} (hq:q<l.length) (h2:l[q].1=2):yO l[q].2 0 ((n:Int) - 1)=true:=by
 have:=List.all_eq_true.1 h l[q] (List.getElem_mem hq)
 unfold yN at this
 rw[h2] at this
 simpa using this
theorem X8 {ms:zM} {m:Mc} (h:∀k,(hk:k<m.zh.length)->qW ms m k m.zh[k]=true) {j:Int} (hj:yO j 0 ((m.zh.length:Int) - 1)=true):qy m j=true:=by
 obtain⟨k,rfl,hk⟩:=zaL hj
 unfold qy
 rw[hj,vQ hk,Bool.true_and]
 have:=h k hk
 unfold qW at this
 by_cases e:m.zh[k].page=-1
 ·simp[e]
 ·rw[if_neg e] at this
  rw[(Bool.and_eq_true_iff.1 this).1]
  simp
theorem VO {ms:zM} {m:Mc} (hp:yt ms=true) (h1:∀k,(hk:k<m.zd.length)->xg ms m k m.zd[k]=true) (h2:∀k,(hk:k<m.zh.length)->qW ms m k m.zh[k]=true):zaQ m:=by
 have fine:∀c,yT ms m.zh.length c=true->(c.zg.length<=1000/\c.ze.length<=1000)/\(∀q,(hq:q<c.zg.length)->c.zg[q].1=2->qy m c.zg[q].2=true)/\(∀q,(hq:q<c.ze.length)->c.ze[q].1=2->qy m c.ze[q].2=true):=fun c hc =>
  ⟨zaU hp hc,fun q hq e=>X8 h2 (wh (uu hc).2.1 hq e),fun q hq e=>X8 h2 (wh (uu hc).2.2 hq e)⟩
 refine⟨fun i k hi hk=>?_,fun i hi=>?_,fun j hj=>?_⟩
 ·have:=h1 i hi
  unfold xg at this
  have:=List.all_eq_true.1 (Bool.and_eq_true_iff.1 this).1 k (List.mem_range.2 hk)
  unfold xP at this
  have:=fine _ (Bool.and_eq_true_iff.1 this).1
  simp only[Uk,List.getD_eq_getElem?_getD,List.getElem?_eq_getElem hk,Option.getD_some] at this
  exact this
 ·have:=h1 i hi
  unfold xg at this
  have:=(Bool.and_eq_true_iff.1 (Bool.and_eq_true_iff.1 this).2).2
  unfold kj at this
  rw[Bool.or_eq_true] at this ⊢
  rcases this with h | h
  ·exact Or.inl h
  ·exact Or.inr (X8 h2 (Bool.and_eq_true_iff.1 (Bool.and_eq_true_iff.1 h).1).2)
 ·have:=h2 j hj
  unfold qW at this
  by_cases e:m.zh[j].page=-1
  ·rw[if_pos e] at this
   have hc:=(Bool.and_eq_true_iff.1 this).2
   obtain⟨f1,f2,f3⟩:=fine _ hc
   refine⟨f1,fun _=>⟨?_,fun i hi hk=>by rw[f2 i hi hk];simp,fun i hi hk=>by rw[f3 i hi hk];simp⟩⟩
   have hs:=zH.1 (uu hc).1
   by_cases e1:m.zh[j].left.zf=-1
   ·rw[e1];rfl
   ·rw[X8 h2 (zH.2 ⟨by omega,hs.2⟩)];simp
  ·rw[if_neg e] at this
   have he:=(Bool.and_eq_true_iff.1 (Bool.and_eq_true_iff.1 this).2).2
   simp only[js,Bool.and_eq_true,decide_eq_true_iff] at he
   exact⟨⟨by omega,by omega⟩,fun h=>absurd h e⟩
theorem qL {P:Program} {f:FuncId} {args:Array Value} {X:Value} {W:World} (h:∀w,Calls P f args w fun e w'=>e=.returned X/\w'=w):∀w,Gr W w->Calls P f args w fun e w''=>e=.returned X/\Gr W w'' :=
 fun w hw=>(h w).mono fun _ _ ⟨he,hb⟩=>⟨he,hb ▸ hw⟩
set_option maxRecDepth 100000 in
set_option maxHeartbeats 4000000 in
theorem Jx (vq:Value) (ms:zM) (vp vo vt vs:Value) (m:Mc) (w:World) (hq:yy w vq ms) (h:yF w vp vo vt vs m) (hsm:m.small) (htn:m.zh.length<=800000) :
 Calls Tryz.prog 23 #[.agg #[vq],.agg (zI vp vo vt vs m).toArray] w fun e w'=>e=.returned (.bool (jq ms m))/\Below w.heap.size w w':=by
 have HSM:Hid m.small:=hsm
 clear hsm
 obtain⟨aq,cq,hvq,hlq,hcq⟩:=id hq
 subst hvq
 obtain⟨ap,cp,hvp,hlp,hcp⟩:=id h.p
 obtain⟨ao,co,xz,hlo,hco⟩:=id h.o
 obtain⟨at',ct,xZ,hlt',hct⟩:=id h.t
 obtain⟨as',cs,hvs⟩:=h.s.shape
 subst hvp xz xZ hvs
 unfold zI
 go_enter Tryz.func23,Tryz.ntmps23
 go_upto_region 1 with fail
 refine ye (fun W=>Below w.heap.size w W/\Bx W w.heap.size 25 [.slice aq ms.length cq]/\Bx W (w.heap.size+1) 42 [.int .i64 m.cells,.slice ap m.zd.length cp,.slice ao m.order.length co,.int .i64 m.now,.slice at' m.zh.length ct,.int .i64 m.born,.slice as' m.zl.length cs,.int .i64 m.code]) ⟨(zB _ _).alloc (by simp) _,(Bx.new w _ _).alloc _,Bx.newAt _ _ _ (by simp)⟩ ?_
 rintro W ⟨hb,hx,hm⟩
 have x0:=hx.cell 0 rfl
 obtain⟨⟨m0,m1,m2,m3,m4,m5,m6,m7⟩,_⟩:=xy hm
 have HQ0:Hid (yy w (.slice aq ms.length cq) ms):=hq
 have HM0:Hid (yF w (.slice ap m.zd.length cp) (.slice ao m.order.length co) (.slice at' m.zh.length ct) (.slice as' m.zl.length cs) m):=h
 clear hq h hcq hcp hco hct
 have zb:=hb.size
 go_wp2_with fail
 refine(Zq _ ms _ (HQ0.out.below hb)).mono ?_
 rintro e W1 ⟨rfl,t1⟩
 have hb1:=hb.trans (t1.mono zb)
 have hm1:=hm.below t1
 have hx1:=hx.below t1
 have zb1:=hb1.size
 clear t1 hm hx hb zb x0 m0 m1 m2 m3 m4 m5 m6 m7
 obtain⟨⟨m0,m1,m2,m3,m4,m5,m6,m7⟩,_⟩:=xy hm1
 have x0:=hx1.cell 0 rfl
 cases h1:yt ms
 ·have HE:Hid (jq ms m=false):=jU (by unfold vy;simp[h1])
  go_wp2
  go_ret
  exact⟨zm HE.out.symm,hb1⟩
 have HOPS:Hid (∀i,(hi:i<ms.length)->ms[i].2.2.length<=1000000):=zaH h1
 obtain⟨f2,hf2⟩:∃f,yQ m.zd.length m.cells=f:=⟨_,rfl⟩
 have HR:=Xr m.zd.length m.cells W1
 rw[hf2] at HR
 go_wp2_with fail
 refine HR.mono ?_
 rintro e W2 ⟨rfl,hw⟩
 obtain rfl:=hw.symm
 clear hw HR
 cases f2
 ·have HE:Hid (jq ms m=false):=jU (by unfold vy;simp[hf2])
  go_wp2
  go_ret
  exact⟨zm HE.out.symm,hb1⟩
 have hpl:1<=m.zd.length/\m.zd.length<=4:=by
  have:=hf2
  simp only[yQ,Bool.and_eq_true,zH] at this
  omega
 obtain⟨f3,hf3⟩:∃f,ju m=f:=⟨_,rfl⟩
 have HR:=UQ _ _ _ _ m W1 (HM0.out.below hb1)
 rw[hf3] at HR
 unfold zI at HR
 go_wp2_with fail
 refine HR.mono ?_
 rintro e W3 ⟨rfl,t3⟩
 clear HR
 have hb3:=hb1.trans (t3.mono zb1)
 have Xc:=hm1.below t3
 have hx3:=hx1.below t3
 have zb3:=hb3.size
 clear t3 hm1 hx1 hb1 zb1 x0 m0 m1 m2 m3 m4 m5 m6 m7
 obtain⟨⟨m0,m1,m2,m3,m4,m5,m6,m7⟩,_⟩:=xy Xc
 have x0:=hx3.cell 0 rfl
 cases f3
 ·have HE:Hid (jq ms m=false):=jU (by unfold vy;simp[hf3])
  go_wp2
  go_ret
  exact⟨zm HE.out.symm,hb3⟩
 obtain⟨f4,hf4⟩:∃f,XM m=f:=⟨_,rfl⟩
 have HR:=zbc _ _ _ _ m W3 (HM0.out.below hb3) hf3 hpl.1
 rw[hf4] at HR
 unfold zI at HR
 go_wp2_with fail
 refine HR.mono ?_
 rintro e W4 ⟨rfl,t4⟩
 clear HR
 have hb4:=hb3.trans (t4.mono zb3)
 have Ur:=Xc.below t4
 have hx4:=hx3.below t4
 have zb4:=hb4.size
 clear t4 Xc hx3 hb3 zb3 x0 m0 m1 m2 m3 m4 m5 m6 m7
 obtain⟨⟨m0,m1,m2,m3,m4,m5,m6,m7⟩,_⟩:=xy Ur
 have x0:=hx4.cell 0 rfl
 cases f4
 ·have HE:Hid (jq ms m=false):=jU (by unfold vy;simp[hf4])
  go_wp2
  go_ret
  exact⟨zm HE.out.symm,hb4⟩
 have hfn:zY m.zd<=4 * 1048576:=by
  have:=Z1 HSM.out.zk m.zd.length zD
  have h4:m.zd.length * 1048576<=4 * 1048576:=Nat.mul_le_mul_right _ hpl.2
  exact Nat.le_trans this h4
 have HCO:=qe (W:=W4) fun W' (hW:Below W4.heap.size W4 W')=>V9 _ _ _ _ m W' ((HM0.out.below hb4).below hW) (by omega) (by omega) (by omega)
 unfold zI at HCO
 have HBO:=qL (W:=W4) fun W'=>jk m.born W'
 have HSO:=qe (W:=W4) fun W' (hW:Below W4.heap.size W4 W')=>Zr _ _ ms m.zl W' ((HQ0.out.below hb4).below hW) ((HM0.out.below hb4).below hW).s
 have HKO:=qL (W:=W4) fun W'=>uF m.code m.now W'
 have hcl:vB m<=4 * 1048576+800000:=by
  unfold vB
  have:=UM m.zh m.zh.length
  omega
 obtain⟨C,hC⟩:∃C,vB m=C:=⟨_,rfl⟩
 obtain⟨f5,hf5⟩:∃f,yO m.born 1 30=f:=⟨_,rfl⟩
 obtain⟨f7,hf7⟩:∃f,yk ms.length m.zl=f:=⟨_,rfl⟩
 obtain⟨f8,hf8⟩:∃f,(yO m.code 0 3 && ((m.code == 1) == (m.now == -1)))=f:=⟨_,rfl⟩
 rw[hC] at HCO hcl
 rw[hf5] at HBO
 rw[hf7] at HSO
 rw[hf8] at HKO
 have HC:Hid (vB m=C):=hC
 have H5:Hid (yO m.born 1 30=f5):=hf5
 have H7:Hid (yk ms.length m.zl=f7):=hf7
 have H8:Hid ((yO m.code 0 3 && ((m.code == 1) == (m.now == -1)))=f8):=hf8
 have H14:Hid (yt ms=true/\yQ m.zd.length m.cells=true/\ju m=true/\XM m=true):=⟨h1,hf2,hf3,hf4⟩
 clear hC hf5 hf7 hf8 h1 hf2 hf3 hf4
 go_upto_region 3 with fail
 have L0:=Gr.cell m0
 have L1:=Gr.cell m1
 have L2:=Gr.cell m2
 have L3:=Gr.cell m3
 have L4:=Gr.cell m4
 have L5:=Gr.cell m5
 have L6:=Gr.cell m6
 have L7:=Gr.cell m7
 have LX:=Gr.cell x0
 cases f5
 ·have HE:Hid (jq ms m=false):=jU (by unfold vy;simp[H5.out])
  clear x0 m0 m1 m2 m3 m4 m5 m6 m7
  refine WQ.region (by kernel_rfl) (by kernel_rfl) ?_
  iterate 26 (refine WQ.step (fun K hK=>?_);go_simp;first
   | (with_reducible refine hK _ ?_;clear hK K)
   | (with_reducible refine yH ?_;refine hK _ ?_;clear hK K)
   | (simp(contextual:=true) only [L5,Result.andThen_ok,true_and];with_reducible refine yH ?_;refine hK _ ?_;clear hK K)
   | (with_reducible refine yp HBO ?_;refine hK _ ?_;clear hK K)
   | (with_reducible refine yp HCO ?_;refine hK _ ?_;clear hK K)
   | (with_reducible refine yp HSO ?_;refine hK _ ?_;clear hK K)
   | (with_reducible refine yp HKO ?_;refine hK _ ?_;clear hK K))
  refine WQ.nil ?_
  intro W5 Wh
  have hb5:=hb4.trans (Wh.to.mono zb4)
  clear Wh L0 L1 L2 L3 L4 L5 L6 L7 LX
  go_wp2
  go_ret
  exact⟨zm HE.out.symm,hb5⟩
 by_cases hcc:m.born<(C:Int)
 ·have HE:Hid (jq ms m=false):=jU (by unfold vy;simp[HC.out,Int.not_le.2 hcc])
  clear x0 m0 m1 m2 m3 m4 m5 m6 m7
  refine WQ.region (by kernel_rfl) (by kernel_rfl) ?_
  iterate 26 (refine WQ.step (fun K hK=>?_);go_simp;first
   | (with_reducible refine hK _ ?_;clear hK K)
   | (with_reducible refine yH ?_;refine hK _ ?_;clear hK K)
   | (simp(contextual:=true) only [L0,L1,L2,L3,L4,L5,L6,L7,Result.andThen_ok,true_and];with_reducible refine yH ?_;refine hK _ ?_;clear hK K)
   | (with_reducible refine yp HBO ?_;refine hK _ ?_;clear hK K)
   | (with_reducible refine yp HCO ?_;refine hK _ ?_;clear hK K)
   | (with_reducible refine yp HSO ?_;refine hK _ ?_;clear hK K)
   | (with_reducible refine yp HKO ?_;refine hK _ ?_;clear hK K))
  refine WQ.nil ?_
  intro W5 Wh
  have hb5:=hb4.trans (Wh.to.mono zb4)
  clear Wh L0 L1 L2 L3 L4 L5 L6 L7 LX
  go_wp2
  go_ret
  exact⟨zm HE.out.symm,hb5⟩
 have hcc2:(C:Int)<=m.born:=by omega
 cases f7
 ·have HE:Hid (jq ms m=false):=jU (by unfold vy;simp[H7.out])
  clear x0 m0 m1 m2 m3 m4 m5 m6 m7
  refine WQ.region (by kernel_rfl) (by kernel_rfl) ?_
  iterate 26 (refine WQ.step (fun K hK=>?_);go_simp;first
   | (with_reducible refine hK _ ?_;clear hK K)
   | (with_reducible refine yH ?_;refine hK _ ?_;clear hK K)
   | (simp(contextual:=true) only [L0,L1,L2,L3,L4,L5,L6,L7,LX,Result.andThen_ok,true_and];with_reducible refine yH ?_;refine hK _ ?_;clear hK K)
   | (with_reducible refine yp HBO ?_;refine hK _ ?_;clear hK K)
   | (with_reducible refine yp HCO ?_;refine hK _ ?_;clear hK K)
   | (with_reducible refine yp HSO ?_;refine hK _ ?_;clear hK K)
   | (with_reducible refine yp HKO ?_;refine hK _ ?_;clear hK K))
  refine WQ.nil ?_
  intro W5 Wh
  have hb5:=hb4.trans (Wh.to.mono zb4)
  clear Wh L0 L1 L2 L3 L4 L5 L6 L7 LX
  go_wp2
  go_ret
  exact⟨zm HE.out.symm,hb5⟩
 cases f8
 ·have HE:Hid (jq ms m=false):=jU (by unfold vy;rw[H8.out];simp)
  clear x0 m0 m1 m2 m3 m4 m5 m6 m7
  refine WQ.region (by kernel_rfl) (by kernel_rfl) ?_
  iterate 26 (refine WQ.step (fun K hK=>?_);go_simp;first
   | (with_reducible refine hK _ ?_;clear hK K)
   | (with_reducible refine yH ?_;refine hK _ ?_;clear hK K)
   | (simp(contextual:=true) only [L0,L1,L2,L3,L4,L5,L6,L7,LX,Result.andThen_ok,true_and];with_reducible refine yH ?_;refine hK _ ?_;clear hK K)
   | (with_reducible refine yp HBO ?_;refine hK _ ?_;clear hK K)
   | (with_reducible refine yp HCO ?_;refine hK _ ?_;clear hK K)
   | (with_reducible refine yp HSO ?_;refine hK _ ?_;clear hK K)
   | (with_reducible refine yp HKO ?_;refine hK _ ?_;clear hK K))
  refine WQ.nil ?_
  intro W5 Wh
  have hb5:=hb4.trans (Wh.to.mono zb4)
  clear Wh L0 L1 L2 L3 L4 L5 L6 L7 LX
  go_wp2
  go_ret
  exact⟨zm HE.out.symm,hb5⟩
 have HHD:Hid (vy ms m=true):=by
  show _=_
  unfold vy
  obtain⟨e1,e2,e3,e4⟩:=H14.out
  rw[e1,e2,e3,e4,H5.out,HC.out,H7.out,H8.out]
  simpa using hcc2
 have HFN:Hid (zY m.zd<=30):=by
  have:=HC.out
  have h5:=zH.1 H5.out
  unfold vB at this
  show _<=_
  omega
 clear x0 m0 m1 m2 m3 m4 m5 m6 m7
 refine WQ.region (by kernel_rfl) (by kernel_rfl) ?_
 iterate 26 (refine WQ.step (fun K hK=>?_);go_simp;first
  | (with_reducible refine hK _ ?_;clear hK K)
  | (with_reducible refine yH ?_;refine hK _ ?_;clear hK K)
  | (simp(contextual:=true) only [L0,L1,L2,L3,L4,L5,L6,L7,LX,Result.andThen_ok,true_and];with_reducible refine yH ?_;refine hK _ ?_;clear hK K)
  | (with_reducible refine yp HBO ?_;refine hK _ ?_;clear hK K)
  | (with_reducible refine yp HCO ?_;refine hK _ ?_;clear hK K)
  | (with_reducible refine yp HSO ?_;refine hK _ ?_;clear hK K)
  | (with_reducible refine yp HKO ?_;refine hK _ ?_;clear hK K))
 refine WQ.nil ?_
 intro W5 Wh
 have hb5:=hb4.trans (Wh.to.mono zb4)
 have hm5:=Ur.below Wh.to
 have hx5:=hx4.below Wh.to
 have zb5:=hb5.size
 clear Wh L0 L1 L2 L3 L4 L5 L6 L7 LX HBO HCO HSO HKO Ur hx4 hb4 zb4
 obtain⟨⟨m0,m1,m2,m3,m4,m5,m6,m7⟩,_⟩:=xy hm5
 have x0:=hx5.cell 0 rfl
 go_wp2_with fail
 go_loopg [5,58] m.zd.length (fun d _ v wr=>∃k:Nat,k<=m.zd.length/\d=m.zd.length - k/\v=.int .i64 (k:Int)/\Below w.heap.size w wr/\Below W5.heap.size W5 wr/\∀q,(hq:q<m.zd.length)->q<k->xg ms m q m.zd[q]=true)
 case atStart=>exact⟨0,Nat.zero_le _,rfl,rfl,hb5,zC,fun q _ h=>absurd h zF⟩
 case round =>
  obtain⟨k,hk,rfl,rfl,hbr,hb5r,hall⟩:=hrel
  have HALL:Hid (∀q,(hq:q<m.zd.length)->q<k->xg ms m q m.zd[q]=true):=hall
  clear hall
  have hm6:=hm5.below hb5r
  have hx6:=hx5.below hb5r
  have zr:=hbr.size
  have z5r:=hb5r.size
  clear hm5 hx5 hb5 x0 m0 m1 m2 m3 m4 m5 m6 m7
  obtain⟨⟨m0,m1,m2,m3,m4,m5,m6,m7⟩,_⟩:=xy hm6
  have x0:=hx6.cell 0 rfl
  by_cases hlt:k<m.zd.length
  ·have hkz:(k:Int)<(m.zd.length:Int):=by omega
   obtain⟨f,hf⟩:∃f,xg ms m k m.zd[k]=f:=⟨_,rfl⟩
   have HPO:=zab _ ms _ _ _ _ m k wr (HQ0.out.below hbr) (HM0.out.below hbr) HOPS.out hlt _ rfl (fun i hi=>Nat.le_trans (HSM.out.zk i hi) (by omega)) (fun q hq=>(HSM.out.zg k hlt q hq).1)
   rw[hf] at HPO
   unfold zI at HPO
   have HF:Hid (xg ms m k m.zd[k]=f):=hf
   clear hf
   go_wp2_with fail
   refine HPO.mono ?_
   rintro e W6 ⟨rfl,t6⟩
   have hb6:=hbr.trans (t6.mono zr)
   have hb56:=hb5r.trans (t6.mono z5r)
   clear HPO t6 hm6 hx6 x0 m0 m1 m2 m3 m4 m5 m6 m7
   cases f
   ·have HE:Hid (jq ms m=false):=WP hlt HF.out
    go_wp2
    go_ret
    exact⟨zm HE.out.symm,hb6⟩
   have HN:Hid (∀q,(hq:q<m.zd.length)->q<k+1->xg ms m q m.zd[q]=true):=fun q hq hqk=>by
    by_cases e:q=k
    ·subst e;exact HF.out
    ·exact HALL.out q hq (by omega)
   clear HALL HF
   go_wp2
   go_roundg (m.zd.length - (k+1))
   case measure=>omega
   case rel=>exact⟨k+1,by omega,rfl,by go_num,hb6,hb56,HN.out⟩
  ·obtain rfl:k=m.zd.length:=by omega
   have HPG:Hid (∀q,(hq:q<m.zd.length)->xg ms m q m.zd[q]=true):=fun q hq=>HALL.out q hq hq
   clear HALL
   go_wp2_with fail
   go_loopg [6,70] m.zh.length (fun d _ v wt=>∃k:Nat,k<=m.zh.length/\d=m.zh.length - k/\v=.int .i64 (k:Int)/\Below w.heap.size w wt/\Below wr.heap.size wr wt/\∀q,(hq:q<m.zh.length)->q<k->qW ms m q m.zh[q]=true)
   case atStart=>exact⟨0,Nat.zero_le _,rfl,rfl,hbr,zC,fun q _ h=>absurd h zF⟩
   case round =>
    obtain⟨k,hk,rfl,rfl,hbt,hbrt,hall⟩:=hrel
    have HALL:Hid (∀q,(hq:q<m.zh.length)->q<k->qW ms m q m.zh[q]=true):=hall
    clear hall
    have hm7:=hm6.below hbrt
    have hx7:=hx6.below hbrt
    have zt:=hbt.size
    have zrt:=hbrt.size
    clear hm6 hx6 x0 m0 m1 m2 m3 m4 m5 m6 m7
    obtain⟨⟨m0,m1,m2,m3,m4,m5,m6,m7⟩,_⟩:=xy hm7
    have x0:=hx7.cell 0 rfl
    by_cases hlt:k<m.zh.length
    ·have hkz:(k:Int)<(m.zh.length:Int):=by omega
     obtain⟨f,hf⟩:∃f,qW ms m k m.zh[k]=f:=⟨_,rfl⟩
     have HPO:=zap _ ms _ _ _ _ m k wr (HQ0.out.below hbt) (HM0.out.below hbt) HOPS.out hlt _ rfl
     rw[hf] at HPO
     unfold zI at HPO
     have HF:Hid (qW ms m k m.zh[k]=f):=hf
     clear hf
     go_wp2_with fail
     refine HPO.mono ?_
     rintro e W6 ⟨rfl,t6⟩
     have hb6:=hbt.trans (t6.mono zt)
     have hb56:=hbrt.trans (t6.mono zrt)
     clear HPO t6 hm7 hx7 x0 m0 m1 m2 m3 m4 m5 m6 m7
     cases f
     ·have HE:Hid (jq ms m=false):=WR hlt HF.out
      go_wp2
      go_ret
      exact⟨zm HE.out.symm,hb6⟩
     have HN:Hid (∀q,(hq:q<m.zh.length)->q<k+1->qW ms m q m.zh[q]=true):=fun q hq hqk=>by
      by_cases e:q=k
      ·subst e;exact HF.out
      ·exact HALL.out q hq (by omega)
     clear HALL HF
     go_wp2
     go_roundg (m.zh.length - (k+1))
     case measure=>omega
     case rel=>exact⟨k+1,by omega,rfl,by go_num,hb6,hb56,HN.out⟩
    ·obtain rfl:k=m.zh.length:=by omega
     have HTW:Hid (∀q,(hq:q<m.zh.length)->qW ms m q m.zh[q]=true):=fun q hq=>HALL.out q hq hq
     have HE:Hid (jq ms m=j6 (yW m).za (yW m).now):=QH HHD.out HPG.out HTW.out
     have HTD:=VO H14.out.1 HPG.out HTW.out
     have hf30:=HFN.out
     have HTO:=Qm _ _ _ _ m wr (HM0.out.below hbt) HTD (by omega) (by omega)
     unfold zI at HTO
     have hcn:(yW m).za.length<=900000:=by
      show(yK m m.zd.length ++ yX m m.zh.length).length<=_
      rw[List.length_append,jA zD,um]
      show zY m.zd+_<=_
      omega
     clear HALL HTD hf30
     go_wp2_with fail
     refine HTO.mono ?_
     rintro e W8 ⟨vc,rfl,hcs,t8⟩
     have hb8:=hbt.trans (t8.mono zt)
     have zb8:=hb8.size
     have HWO:=Zs vc (.slice none 0 0) (yW m) W8 ⟨hcs,⟨none,0,rfl,Nat.zero_le _,fun _ hi=>absurd hi zF⟩⟩ hcn
     clear HTO t8 hm7 hx7 x0 m0 m1 m2 m3 m4 m5 m6 m7 hcs
     obtain⟨wp',hwp⟩:∃f,j6 (yW m).za (yW m).now=f:=⟨_,rfl⟩
     rw[hwp] at HWO HE
     clear hwp
     have HWP:Hid (Calls Tryz.prog 79 #[.agg #[vc,.int .i64 (un m),.int .i64 0,.slice none 0 0,.int .i64 0]] W8 fun e w'=>e=.returned (.bool wp')/\Below W8.heap.size W8 w'):=HWO
     clear HWO
     go_wp2_with fail
     refine HWP.out.mono ?_
     rintro e W9 ⟨rfl,t9⟩
     have hb9:=hb8.trans (t9.mono zb8)
     go_wp2
     go_ret
     exact⟨zm HE.out.symm,hb9⟩
theorem zbf {n k:Nat} (hk:k<n):(k:Int)∈zX n n:=by
 unfold zX
 rw[List.mem_map]
 by_cases h:k=0
 ·exact⟨n - 1,List.mem_range.2 (by omega),by rw[show n - 1+1=n by omega,Nat.mod_self];subst h;rfl⟩
 ·exact⟨k - 1,List.mem_range.2 (by omega),by rw[show k - 1+1=k by omega,Nat.mod_eq_of_lt hk]⟩
def VU:Mc:=⟨0,[],[],0,[],0,[],0⟩
theorem zaO (w:World):yF w (.slice none 0 0) (.slice none 0 0) (.slice none 0 0) (.slice none 0 0) VU :=
 ⟨⟨none,0,rfl,Nat.zero_le _,fun _ h=>absurd h zF⟩,⟨none,0,rfl,Nat.zero_le _,fun _ h=>absurd h zF⟩,jH.nil w,VD w none 0⟩
end Go.Proofs.YtjbgpcileapogaaGreat
