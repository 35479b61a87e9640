/-
  What is seen of a heap, by the program: renumbered.
-/
import Derived.Test.YtjbgpcileapogaaGreatPiece
namespace Go.Proofs.YtjbgpcileapogaaGreat
open Go.RowKit
set_option maxRecDepth 100000 in
set_option maxHeartbeats 2000000 in
theorem JS (A:Nat->Prop) (B bo n:Nat) (ps:List Nat) (vp vn vt vs:Value) (c:Cl) (w:World) (h:Qs A B bo n ps vp vn w) (hps:jc n ps) (hn:n<=1000) (ht:zR w vt c.zg) (hs:zR w vs c.ze) (hb:c.zg.length<=1000/\c.ze.length<=1000) :
 Calls Tryz.prog 85 #[.agg (qt vt vs c),.func (.func 141) #[.pointer (some ⟨bo,0,none⟩)] #[]] w fun e w'=>∃Ku vs',e=.returned (.agg (qt Ku vs' (vr ps c)))/\zj w.heap.size w' Ku (c.zg.map (VH ps))/\zj w.heap.size w' vs' (c.ze.map (VH ps))/\(∀g,Ku.ownBlock=some g->vs'.ownBlock≠some g)/\Below w.heap.size w w':=by
 obtain⟨at',XD,xZ⟩:=ht.shape
 obtain⟨as',cs',hvs⟩:=hs.shape
 subst xZ hvs
 unfold qt vr
 obtain⟨hb1,hb2⟩:=hb
 have hA:Below w.heap.size w ((w.alloc (.cells #[.int .i64 c.m,.int .i64 c.pc,.slice at' c.zg.length XD,.slice as' c.ze.length cs',.int .i64 c.zf,.bool c.zv] 37)).alloc (.cells #[.int .i64 0,.int .i64 0,.slice none 0 0,.slice none 0 0,.int .i64 0,.bool false] 37)):=(zB _ _).alloc (by simp) _
 have bc:=(jx w 37 (.int .i64 c.m) (.int .i64 c.pc) (.slice at' c.zg.length XD) (.slice as' c.ze.length cs') (.int .i64 c.zf) (.bool c.zv)).alloc (.cells #[.int .i64 0,.int .i64 0,.slice none 0 0,.slice none 0 0,.int .i64 0,.bool false] 37)
 have bz:=jx (w.alloc (.cells #[.int .i64 c.m,.int .i64 c.pc,.slice at' c.zg.length XD,.slice as' c.ze.length cs',.int .i64 c.zf,.bool c.zv] 37)) 37 (.int .i64 0) (.int .i64 0) (.slice none 0 0) (.slice none 0 0) (.int .i64 0) (.bool false)
 simp only[World.size_alloc] at bz
 have HLT:Hid (bo<w.heap.size/\(∀g,vp.ownBlock=some g->g<w.heap.size)/\(∀g,vn.ownBlock=some g->g<w.heap.size)):=⟨h.box.lt,fun g e=>(h.p.lt g e).2,fun g e=>(h.n.lt g e).2⟩
 go_enter Tryz.func85,Tryz.ntmps85
 go_upto_region 1 with fail
 generalize (w.alloc (.cells #[.int .i64 c.m,.int .i64 c.pc,.slice at' c.zg.length XD,.slice as' c.ze.length cs',.int .i64 c.zf,.bool c.zv] 37)).alloc (.cells #[.int .i64 0,.int .i64 0,.slice none 0 0,.slice none 0 0,.int .i64 0,.bool false] 37)=W1 at *
 have zA:=hA.size
 have yA:=bz.lt
 have hO1:=h.below hA
 obtain⟨⟨x0,x1,x2,x3,x4,x5⟩,f0,f1,f2,f3,f4,f5⟩:=zZ bc
 have nb:bo≠w.heap.size/\vp.ownBlock≠some w.heap.size/\vn.ownBlock≠some w.heap.size:=⟨by have:=HLT.out.1;omega,fun e=>by have:=HLT.out.2.1 _ e;omega,fun e=>by have:=HLT.out.2.2 _ e;omega⟩
 go_upto_region 2 with(go_at_call 141;refine(Qb A B bo n ps vp vn _ _ hO1 hps hn).mono ?_;rintro e w' ⟨rfl,hw⟩;obtain rfl:=hw.symm)
 have bc2:=ZD bc (.int .i64 (qg ps c.zf))
 have bz2:=vN (k:=w.heap.size) (o:=4) bz (by omega) (.int .i64 (qg ps c.zf))
 have hO2:=hO1.set (p:=⟨w.heap.size,4,none⟩) (.int .i64 (qg ps c.zf)) nb.1 nb.2.1 nb.2.2
 have B2:=hA.setCell (p:=⟨w.heap.size,4,none⟩) zD (.int .i64 (qg ps c.zf))
 have z2:(W1.setCell ⟨w.heap.size,4,none⟩ (.int .i64 (qg ps c.zf))).heap.size≥W1.heap.size:=by simp[World.setCell]
 generalize W1.setCell ⟨w.heap.size,4,none⟩ (.int .i64 (qg ps c.zf))=w2 at *
 clear bc bz hO1 hA x0 x1 x2 x3 x4 x5 f0 f1 f2 f3 f4 f5
 obtain⟨⟨x0,x1,x2,x3,x4,x5⟩,f0,f1,f2,f3,f4,f5⟩:=zZ bc2
 have ht2:=ht.below B2
 have y2:=bz2.lt
 go_upto_region 3 with(go_at_call 144;refine(uM A B bo n ps vp vn _ c.zg _ hO2 hps hn ht2 hb1).mono ?_;rintro e w3 ⟨v3,rfl,hr3,hb3⟩;obtain⟨a3,c3,hv3,_⟩:=hr3.slice;rw[List.length_map] at hv3;subst hv3;have bc3:=zz hb3 bc2;obtain⟨⟨y0,y1,y2,y3,y4,y5⟩,k0,k1,k2,k3,k4,k5⟩:=zZ bc3)
 have bz3:=zz hb3 bz2
 have hO3:=hO2.below hb3
 have B3:=B2.trans (hb3.mono B2.size)
 have z3:=hb3.size
 clear bc2 bz2 hO2 B2 hb3 x0 x1 x2 x3 x4 x5 f0 f1 f2 f3 f4 f5 y0 y1 y2 y3 y4 y5 k0 k1 k2 k3 k4 k5 ht2
 have nt3:(Value.slice a3 c.zg.length c3).ownBlock≠some w.heap.size:=fun e=>by have:=(hr3.lt _ e).1;omega
 have bc4:=ZB bc3 (.slice a3 c.zg.length c3)
 have bz4:=vN (k:=w.heap.size) (o:=2) bz3 (by omega) (.slice a3 c.zg.length c3)
 have hO4:=hO3.set (p:=⟨w.heap.size,2,none⟩) (.slice a3 c.zg.length c3) nb.1 nb.2.1 nb.2.2
 have P4:=hr3.set_other (p:=⟨w.heap.size,2,none⟩) (.slice a3 c.zg.length c3) nt3
 have B4:=B3.setCell (p:=⟨w.heap.size,2,none⟩) zD (.slice a3 c.zg.length c3)
 have z4:(w3.setCell ⟨w.heap.size,2,none⟩ (.slice a3 c.zg.length c3)).heap.size≥w3.heap.size:=by simp[World.setCell]
 generalize w3.setCell ⟨w.heap.size,2,none⟩ (.slice a3 c.zg.length c3)=w4 at *
 clear bc3 bz3 hO3 hr3 B3
 obtain⟨⟨x0,x1,x2,x3,x4,x5⟩,f0,f1,f2,f3,f4,f5⟩:=zZ bc4
 have hs4:=hs.below B4
 go_upto_region 4 with(go_at_call 144;refine(uM A B bo n ps vp vn _ c.ze _ hO4 hps hn hs4 hb2).mono ?_;rintro e w5 ⟨v5,rfl,hr5,hb5⟩;obtain⟨a5,c5,hv5,_⟩:=hr5.slice;rw[List.length_map] at hv5;subst hv5;have bc5:=zz hb5 bc4;obtain⟨⟨y0,y1,y2,y3,y4,y5⟩,k0,k1,k2,k3,k4,k5⟩:=zZ bc5)
 have bz5:=zz hb5 bz4
 have P5:=P4.below hb5
 have B5:=B4.trans (hb5.mono B4.size)
 have z5:=hb5.size
 have hap:∀q,(Value.slice a3 c.zg.length c3).ownBlock=some q->(Value.slice a5 c.ze.length c5).ownBlock≠some q:=fun q e e2=>by have h1:=(P4.lt q e).2;have h2:=(hr5.lt q e2).1;omega
 clear bc4 bz4 hO4 B4 hb5 x0 x1 x2 x3 x4 x5 f0 f1 f2 f3 f4 f5 y0 y1 y2 y3 y4 y5 k0 k1 k2 k3 k4 k5 hs4 P4
 have ns5:(Value.slice a5 c.ze.length c5).ownBlock≠some w.heap.size:=fun e=>by have:=(hr5.lt _ e).1;omega
 have bc6:=ZC bc5 (.slice a5 c.ze.length c5)
 have bz6:=vN (k:=w.heap.size) (o:=3) bz5 (by omega) (.slice a5 c.ze.length c5)
 have P6:=P5.set_other (p:=⟨w.heap.size,3,none⟩) (.slice a5 c.ze.length c5) nt3
 have Q6:=hr5.set_other (p:=⟨w.heap.size,3,none⟩) (.slice a5 c.ze.length c5) ns5
 have B6:=B5.setCell (p:=⟨w.heap.size,3,none⟩) zD (.slice a5 c.ze.length c5)
 generalize w5.setCell ⟨w.heap.size,3,none⟩ (.slice a5 c.ze.length c5)=w6 at *
 clear bc5 bz5 P5 hr5 B5
 have nt1:(Value.slice a3 c.zg.length c3).ownBlock≠some (w.heap.size+1):=fun e=>by have:=(P6.lt _ e).1;omega
 have ns1:(Value.slice a5 c.ze.length c5).ownBlock≠some (w.heap.size+1):=fun e=>by have:=(Q6.lt _ e).1;omega
 obtain⟨⟨x0,x1,x2,x3,x4,x5⟩,xf⟩:=zZ bc6
 obtain⟨⟨y0,y1,y2,y3,y4,y5⟩,k0,k1,k2,k3,k4,k5⟩:=zZ bz6
 clear xf
 have R9:=JY (ZD (ZC (ZB (Qj (JX bz6 (.int .i64 c.m)) (.int .i64 c.pc)) (.slice a3 c.zg.length c3)) (.slice a5 c.ze.length c5)) (.int .i64 (qg ps c.zf))) (.bool c.zv)
 have P9:=(((((P6.set_other (p:=⟨w.heap.size+1,0,none⟩) (.int .i64 c.m) nt1).set_other (p:=⟨w.heap.size+1,1,none⟩) (.int .i64 c.pc) nt1).set_other (p:=⟨w.heap.size+1,2,none⟩) (.slice a3 c.zg.length c3) nt1).set_other (p:=⟨w.heap.size+1,3,none⟩) (.slice a5 c.ze.length c5) nt1).set_other (p:=⟨w.heap.size+1,4,none⟩) (.int .i64 (qg ps c.zf)) nt1).set_other (p:=⟨w.heap.size+1,5,none⟩) (.bool c.zv) nt1
 have Q9:=(((((Q6.set_other (p:=⟨w.heap.size+1,0,none⟩) (.int .i64 c.m) ns1).set_other (p:=⟨w.heap.size+1,1,none⟩) (.int .i64 c.pc) ns1).set_other (p:=⟨w.heap.size+1,2,none⟩) (.slice a3 c.zg.length c3) ns1).set_other (p:=⟨w.heap.size+1,3,none⟩) (.slice a5 c.ze.length c5) ns1).set_other (p:=⟨w.heap.size+1,4,none⟩) (.int .i64 (qg ps c.zf)) ns1).set_other (p:=⟨w.heap.size+1,5,none⟩) (.bool c.zv) ns1
 have B9:=(((((B6.setCell (p:=⟨w.heap.size+1,0,none⟩) (Nat.le_succ _) (.int .i64 c.m)).setCell (p:=⟨w.heap.size+1,1,none⟩) (Nat.le_succ _) (.int .i64 c.pc)).setCell (p:=⟨w.heap.size+1,2,none⟩) (Nat.le_succ _) (.slice a3 c.zg.length c3)).setCell (p:=⟨w.heap.size+1,3,none⟩) (Nat.le_succ _) (.slice a5 c.ze.length c5)).setCell (p:=⟨w.heap.size+1,4,none⟩) (Nat.le_succ _) (.int .i64 (qg ps c.zf))).setCell (p:=⟨w.heap.size+1,5,none⟩) (Nat.le_succ _) (.bool c.zv)
 go_wp2
 generalize (((((w6.setCell ⟨w.heap.size+1,0,none⟩ (.int .i64 c.m)).setCell ⟨w.heap.size+1,1,none⟩ (.int .i64 c.pc)).setCell ⟨w.heap.size+1,2,none⟩ (.slice a3 c.zg.length c3)).setCell ⟨w.heap.size+1,3,none⟩ (.slice a5 c.ze.length c5)).setCell ⟨w.heap.size+1,4,none⟩ (.int .i64 (qg ps c.zf))).setCell ⟨w.heap.size+1,5,none⟩ (.bool c.zv)=W9 at *
 obtain⟨⟨q0,q1,q2,q3,q4,q5⟩,_⟩:=zZ R9
 exact bodyPost_ret (v:=.agg #[.int .i64 c.m,.int .i64 c.pc,.slice a3 c.zg.length c3,.slice a5 c.ze.length c5,.int .i64 (qg ps c.zf),.bool c.zv]) (by simp[results,Tryz.results85,go_sem,q0,q1,q2,q3,q4,q5]) rfl ⟨_,_,rfl,P9.mono (by omega),Q9.mono (by omega),hap,B9⟩
def je (fs:List Fr) (k:Nat):Nat:=((fs.take k).map fun f=>10+f.zg.length).sum
theorem YO {fs:List Fr} {k:Nat} (h:k<fs.length):je fs (k+1)=je fs k+(10+fs[k].zg.length):=by
 unfold je
 rw[List.take_add_one,List.getElem?_eq_getElem h,List.map_append,List.sum_append]
 simp
theorem Je {fs:List Fr} (ht:∀i,(hi:i<fs.length)->fs[i].zg.length<=1048576):∀k,k<=fs.length->je fs k<=k * 1048586
 | 0,_=>Nat.zero_le _
 | k+1,h=>by
  rw[YO (show k<fs.length from h)]
  have:=Je ht k (by omega)
  have:=ht k h
  omega
def xg (ms:zM) (m:Mc) (i:Nat) (p:Pg):Bool :=
 (List.range p.zk.length).all (fun k=>xP ms m i k (p.zk.getD k Fr.none)) && (decide ((je p.zk p.zk.length:Int)<=m.cells) && kj m p)
theorem zcw {ms:zM} {m:Mc} {i:Nat} {p:Pg} {k:Nat} (hk:k<p.zk.length) (h:xP ms m i k p.zk[k]=false):xg ms m i p=false:=by
 unfold xg
 rw[Bool.and_eq_false_iff]
 left
 rw[List.all_eq_false]
 exact⟨k,List.mem_range.2 hk,by simp[hk,h]⟩
theorem zbi {ms:zM} {m:Mc} {i:Nat} {p:Pg} (h:∀k,(hk:k<p.zk.length)->xP ms m i k p.zk[k]=true):xg ms m i p=(decide ((je p.zk p.zk.length:Int)<=m.cells) && kj m p):=by
 unfold xg
 have:(List.range p.zk.length).all (fun k=>xP ms m i k (p.zk.getD k Fr.none))=true:=List.all_eq_true.2 fun k hk=>by
  have hk':=List.mem_range.1 hk
  simp[hk',h k hk']
 rw[this,Bool.true_and]
set_option maxRecDepth 100000 in
set_option maxHeartbeats 4000000 in
theorem zab (vq:Value) (ms:zM) (vp vo vt vs:Value) (m:Mc) (i:Nat) (w:World) (hq:yy w vq ms) (h:yF w vp vo vt vs m) (hops:∀i,(h:i<ms.length)->ms[i].2.2.length<=1000000) (hi:i<m.zd.length) (P:Pg) (hP0:m.zd[i]=P) (hsm:∀i,(hi:i<m.zd.length)->m.zd[i].zk.length<=1099511627776) (htl:∀k,(hk:k<P.zk.length)->P.zk[k].zg.length<=1048576) :
 Calls Tryz.prog 77 #[.agg #[vq],.agg (zI vp vo vt vs m).toArray,.int .i64 (i:Int)] w fun e w'=>e=.returned (.bool (xg ms m i P))/\Below w.heap.size w w':=by
 have HP:Hid (m.zd[i]=P):=hP0
 clear hP0
 have HOPS:Hid (∀i,(h:i<ms.length)->ms[i].2.2.length<=1000000):=hops
 have HSM:Hid (∀i,(hi:i<m.zd.length)->m.zd[i].zk.length<=1099511627776):=hsm
 have HTL:Hid (∀k,(hk:k<P.zk.length)->P.zk[k].zg.length<=1048576):=htl
 clear hops hsm htl
 obtain⟨aq,cq,hvq,hlq,hcq⟩:=id hq
 subst hvq
 obtain⟨ap,cp,hvp,hlp,hcp⟩:=id h.p
 obtain⟨ao,co,xz,hlo,hco⟩:=id h.o
 obtain⟨at',ct,xZ,hlt',hct⟩:=id h.t
 obtain⟨as',cs,hvs⟩:=h.s.shape
 subst hvp xz xZ hvs
 unfold zI
 go_enter Tryz.func77,Tryz.ntmps77
 go_upto_region 1 with fail
 refine ye (fun W=>Below w.heap.size w W/\Bx W w.heap.size 25 [.slice aq ms.length cq]/\Bx W (w.heap.size+1) 42 [.int .i64 m.cells,.slice ap m.zd.length cp,.slice ao m.order.length co,.int .i64 m.now,.slice at' m.zh.length ct,.int .i64 m.born,.slice as' m.zl.length cs,.int .i64 m.code]) ⟨(zB _ _).alloc (by simp) _,(Bx.new w _ _).alloc _,Bx.newAt _ _ _ (by simp)⟩ ?_
 rintro W ⟨hb,hx,hm⟩
 have x0:=hx.cell 0 rfl
 obtain⟨⟨m0,m1,m2,m3,m4,m5,m6,m7⟩,_⟩:=xy hm
 obtain⟨bp,op,vf,hap,jN⟩:=hcp i hi
 subst hap
 rw[HP.out] at jN
 obtain⟨af,cf,Z4,hlf,hcf⟩:=id jN.f
 have g0:=zc hb jN.c0
 have g1:=zc hb jN.c1
 rw[Z4] at g1
 have hnb:P.zk.length<=1099511627776:=by have:=HSM.out i hi;rw[HP.out] at this;exact this
 have hiz:(i:Int)<(m.zd.length:Int):=by omega
 have zb:=hb.size
 have HFR:Hid (∀k,(hk:k<P.zk.length)->∃hk':k<m.zd[i].zk.length,m.zd[i].zk[k]=P.zk[k]):=fun k hk=>by
  have e:=HP.out
  subst e
  exact⟨hk,rfl⟩
 have hMW:=h.below hb
 have hQW:=hq.below hb
 have HG:Hid (zby w bp (op+i * 2) vf P):=jN
 clear jN hcp
 go_wp2_with fail
 go_loopg [7,8,9,17] P.zk.length (fun d c _ _ v wr=>∃k:Nat,k<=P.zk.length/\d=P.zk.length - k/\v=.int .i64 (k:Int)/\c=.int .i64 (je P.zk k:Int)/\Below W.heap.size W wr/\∀q,(hq:q<P.zk.length)->q<k->xP ms m i q P.zk[q]=true)
 case atStart=>exact⟨0,Nat.zero_le _,rfl,rfl,rfl,zC,fun q _ h=>absurd h zF⟩
 case round =>
  obtain⟨k,hk,rfl,rfl,rfl,hbr,hall⟩:=hrel
  have HALL:Hid (∀q,(hq:q<P.zk.length)->q<k->xP ms m i q P.zk[q]=true):=hall
  clear hall
  have hxr:=hx.below hbr
  have hmr:=hm.below hbr
  have zr:=hbr.size
  have HBR:Hid (Below W.heap.size W wr):=hbr
  by_cases hlt:k<P.zk.length
  ·obtain⟨bf,of,vt1,vs1,haf,hfr⟩:=hcf k hlt
   subst haf
   obtain⟨d0,d1,d2,d3,d4,dt,ds⟩:=(hfr.below hb).below hbr
   obtain⟨a1,k1,e1⟩:=dt.shape
   obtain⟨a2,k2,e2⟩:=ds.shape
   rw[e1] at d3
   rw[e2] at d4
   have hkz:(k:Int)<(P.zk.length:Int):=by omega
   have hcs:=YO hlt
   have hcl:=Je HTL.out (k+1) hlt
   have htk:=HTL.out k hlt
   have hcb:je P.zk (k+1)<=1152932500506378240:=Nat.le_trans hcl (by omega)
   obtain⟨F,hF⟩:∃F,P.zk[k]=F:=⟨_,rfl⟩
   rw[hF] at d0 d1 d2 d3 d4 hcs htk
   obtain⟨C,hC⟩:∃C,je P.zk k=C:=⟨_,rfl⟩
   rw[hC] at hcs
   have HCS:Hid (je P.zk (k+1)=C+(10+F.zg.length)):=hcs
   have hcb2:C+(10+F.zg.length)<=1152932500506378240:=by omega
   rw[hC]
   obtain⟨hk',hFe⟩:=HFR.out k hlt
   have HFE:Hid (m.zd[i].zk[k]=F):=hFe.trans hF
   have HFF:Hid (P.zk[k]=F):=hF
   clear hcs hcl hcb hC hF hFe e1 e2 dt ds hfr hcf
   go_upto_region 5 with fail
   refine ye (fun W'=>Below wr.heap.size wr W'/\Bx W' wr.heap.size 103 [.int .i64 F.m,.int .i64 F.pc,.int .i64 F.twin,.slice a1 F.zg.length k1,.slice a2 F.ze.length k2]) ⟨zB _ _,Bx.new _ _ _⟩ ?_
   rintro W2 ⟨t2,y2⟩
   have hb2:Below W.heap.size W W2:=HBR.out.trans (t2.mono zr)
   have hm2:=hmr.below t2
   have hx2:=hxr.below t2
   have z2:=hb2.size
   clear t2 hmr hxr d0 d1 d2 d3 d4 m0 m1 m2 m3 m4 m5 m6 m7 x0 g0 g1
   obtain⟨⟨m0,m1,m2,m3,m4,m5,m6,m7⟩,_⟩:=xy hm2
   have x0:=hx2.cell 0 rfl
   obtain⟨f,hf⟩:∃f,xP ms m i k F=f:=⟨_,rfl⟩
   have HFO:=Ul _ ms _ _ _ _ m i k W2 (hQW.below hb2) (hMW.below hb2) HOPS.out hi hk' F HFE.out
   rw[hf] at HFO
   unfold zI at HFO
   go_wp2_with fail
   refine HFO.mono ?_
   rintro e W3 ⟨rfl,t3⟩
   have hb3:Below W.heap.size W W3:=hb2.trans (t3.mono z2)
   have y3:=y2.below t3
   clear HFO t3 hm2 hx2 y2 hb2 z2 m0 m1 m2 m3 m4 m5 m6 m7 x0
   cases f
   ·have HE:Hid (xg ms m i P=false):=zcw hlt (by rw[HFF.out];exact hf)
    have hbe:=hb.trans (hb3.mono zb)
    go_wp2
    go_ret
    exact⟨zm HE.out.symm,hbe⟩
   have HN:Hid (∀q,(hq:q<P.zk.length)->q<k+1->xP ms m i q P.zk[q]=true):=fun q hq hqk=>by
    by_cases e:q=k
    ·subst e;rw[HFF.out];exact hf
    ·exact HALL.out q hq (by omega)
   have c3:=y3.cell 3 rfl
   clear hf HALL
   go_wp2_with fail
   refine(Ub _ F.zg.length _ _ (by omega)).mono ?_
   rintro e W4 ⟨rfl,hw⟩
   obtain rfl:=hw.symm
   clear hw
   go_wp2
   go_roundg (P.zk.length - (k+1))
   case measure=>omega
   case rel=>exact⟨k+1,by omega,rfl,by go_num,by rw[HCS.out];simp,hb3,HN.out⟩
  ·obtain rfl:k=P.zk.length:=by omega
   have HE0:Hid (xg ms m i P=(decide ((je P.zk P.zk.length:Int)<=m.cells) && kj m P)):=zbi fun q hq=>HALL.out q hq hq
   have hkz:¬((P.zk.length:Int)<(P.zk.length:Int)):=by omega
   go_upto_region 9 with fail
   obtain⟨⟨m0,m1,m2,m3,m4,m5,m6,m7⟩,_⟩:=xy hmr
   have G0:=Gr.cell (zc hbr g0)
   have G1:=Gr.cell (zc hbr g1)
   have L0:=Gr.cell m0
   have L1:=Gr.cell m1
   have L2:=Gr.cell m2
   have L3:=Gr.cell m3
   have L4:=Gr.cell m4
   have L5:=Gr.cell m5
   have L6:=Gr.cell m6
   have L7:=Gr.cell m7
   have HBO:=qe (W:=wr) fun W' (hW:Below wr.heap.size wr W')=>Wo _ _ _ _ m P af cf W' ((hMW.below hbr).below hW) HSM.out
   unfold zI at HBO
   have hbw:=hb.trans (hbr.mono zb)
   have zw:=hbw.size
   obtain⟨C,hC⟩:∃C,je P.zk P.zk.length=C:=⟨_,rfl⟩
   rw[hC] at HE0 ⊢
   clear hC
   by_cases hcc:(C:Int)<=m.cells
   ·have HE:Hid (xg ms m i P=kj m P):=by show _=_;rw[HE0.out];simp[hcc]
    obtain⟨fb,hfb⟩:∃fb,kj m P=fb:=⟨_,rfl⟩
    rw[hfb] at HBO HE
    clear HE0 hfb m0 m1 m2 m3 m4 m5 m6 m7 x0
    refine WQ.region (by kernel_rfl) (by kernel_rfl) ?_
    iterate 14 (refine WQ.step (fun K hK=>?_);go_simp;first
     | (with_reducible refine hK _ ?_;clear hK K)
     | (with_reducible refine yH ?_;refine hK _ ?_;clear hK K)
     | (simp(contextual:=true) only [L0,L1,L2,L3,L4,L5,L6,L7,G0,G1,Result.andThen_ok,true_and];with_reducible refine yH ?_;refine hK _ ?_;clear hK K)
     | (with_reducible refine yp HBO ?_;refine hK _ ?_;clear hK K))
    refine WQ.nil ?_
    intro W3 hG3
    have hb3:=hbw.trans (hG3.to.mono zw)
    clear hG3 HBO L0 L1 L2 L3 L4 L5 L6 L7 G0 G1
    go_wp2
    go_ret
    exact⟨zm HE.out.symm,hb3⟩
   ·have HE:Hid (xg ms m i P=false):=by show _=_;rw[HE0.out];simp[hcc]
    have hcc2:m.cells<(C:Int):=by omega
    clear HE0 m0 m1 m2 m3 m4 m5 m6 m7 x0
    refine WQ.region (by kernel_rfl) (by kernel_rfl) ?_
    iterate 14 (refine WQ.step (fun K hK=>?_);go_simp;first
     | (with_reducible refine hK _ ?_;clear hK K)
     | (with_reducible refine yH ?_;refine hK _ ?_;clear hK K)
     | (simp(contextual:=true) only [L0,Result.andThen_ok,true_and];with_reducible refine yH ?_;refine hK _ ?_;clear hK K)
     | (with_reducible refine yp HBO ?_;refine hK _ ?_;clear hK K))
    refine WQ.nil ?_
    intro W3 hG3
    have hb3:=hbw.trans (hG3.to.mono zw)
    clear hG3 HBO L0 L1 L2 L3 L4 L5 L6 L7 G0 G1
    go_wp2
    go_ret
    exact⟨zm HE.out.symm,hb3⟩
structure Pl (w:World) (vp vo vt vs vl:Value) (m:Mc):Prop where
 mach:yF w vp vo vt vs m
 low:jO w vl (xl m.zd)
 fn:zY m.zd<=1099511627776
 tn:m.zh.length<=1099511627776
theorem Pl.below {w w':World} {vp vo vt vs vl:Value} {m:Mc} (h:Pl w vp vo vt vs vl m) (hb:Below w.heap.size w w'):Pl w' vp vo vt vs vl m:=⟨h.mach.below hb,h.low.below hb,h.fn,h.tn⟩
def XN (m:Mc) (i k:Int):Int:=(yC m.zd i.toNat:Int)+k
def jY (m:Mc) (j:Int):Int:=if(jM m j).page=-1 then(zY m.zd:Int)+j else XN m (jM m j).page (jM m j).place
def qy (m:Mc) (j:Int):Bool:=yO j 0 ((m.zh.length:Int) - 1) && ((jM m j).page == -1 || Uj m (jM m j).page (jM m j).place)
def xw (m:Mc) (j:Int):Int:=if j=-1 then -1 else jY m j
theorem zaZ {m:Mc} {i k:Int} (h:Uj m i k=true):∃a:Nat,i=(a:Int)/\a<m.zd.length/\0<=k/\(yC m.zd a:Int)+k<(zY m.zd:Int):=by
 obtain⟨a,b,ha,rfl,rfl,hb⟩:=zdm h
 refine⟨a,rfl,ha,by omega,?_⟩
 have h1:=xn ha
 have h2:=ka m.zd (k:=a+1) ha
 omega
set_option maxRecDepth 100000 in
set_option maxHeartbeats 4000000 in
theorem Zw (vp vo vt vs vl:Value) (m:Mc) (i:Nat) (k:Int) (w:World) (h:Pl w vp vo vt vs vl m) (hi:i<m.zd.length) (hk0:-1<=k) (hk1:k<=1099511627776) :
 Calls Tryz.prog 163 #[.agg (zI vp vo vt vs m ++ [vl,.int .i64 (zY m.zd:Int)]).toArray,.int .i64 (i:Int),.int .i64 k] w fun e w'=>e=.returned (.int .i64 (XN m (i:Int) k))/\Below w.heap.size w w':=by
 obtain⟨hM,hL,hN,hTn⟩:=h
 obtain⟨ap,cp,hvp,hlp,hcp⟩:=id hM.p
 obtain⟨ao,co,xz⟩:=hM.o.shape
 obtain⟨at',ct,xZ,hlt',hct⟩:=id hM.t
 obtain⟨as',cs,hvs⟩:=hM.s.shape
 obtain⟨al,cl,hvl,hll,hcl⟩:=id hL
 subst hvp xz xZ hvs hvl
 unfold zI
 simp only[List.cons_append,List.nil_append]
 go_enter Tryz.func163,Tryz.ntmps163
 go_upto_region 1 with fail
 refine ye (fun W=>Below w.heap.size w W/\Bx W w.heap.size 128 [.int .i64 m.cells,.slice ap m.zd.length cp,.slice ao m.order.length co,.int .i64 m.now,.slice at' m.zh.length ct,.int .i64 m.born,.slice as' m.zl.length cs,.int .i64 m.code,.slice al (xl m.zd).length cl,.int .i64 (zY m.zd:Int)]) ⟨zB _ _,Bx.new w _ _⟩ ?_
 rintro W ⟨hb,hx⟩
 obtain⟨⟨x0,x1,x2,x3,x4,x5,x6,x7,x8,x9⟩,_⟩:=Zc hx
 have hil:i<(xl m.zd).length:=by rw[UG];exact hi
 obtain⟨b,o,hal,c0⟩:=hcl i hil
 subst hal
 have d0:=zc hb c0
 rw[zc2] at d0
 have hiz:(i:Int)<((xl m.zd).length:Int):=by omega
 have hfl:=ka m.zd (k:=i) (by omega)
 have HE:Hid (XN m (i:Int) k=(yC m.zd i:Int)+k):=by show _=_;unfold XN;rw[Int.toNat_natCast]
 obtain⟨F,hF⟩:∃F,yC m.zd i=F:=⟨_,rfl⟩
 rw[hF] at d0 HE hfl
 have hFb:F<=1099511627776:=by omega
 clear hF hcl c0
 go_wp2
 go_ret
 exact⟨vj HE.out.symm,hb⟩
set_option maxRecDepth 100000 in
set_option maxHeartbeats 4000000 in
theorem JJ (vp vo vt vs vl:Value) (m:Mc) (j:Int) (w:World) (h:Pl w vp vo vt vs vl m) (hj:qy m j=true) :
 Calls Tryz.prog 165 #[.agg (zI vp vo vt vs m ++ [vl,.int .i64 (zY m.zd:Int)]).toArray,.int .i64 j] w fun e w'=>e=.returned (.int .i64 (jY m j))/\Below w.heap.size w w':=by
 unfold qy at hj
 obtain⟨hj1,hj2⟩:=Bool.and_eq_true_iff.1 hj
 obtain⟨q,rfl,hq⟩:=zaL hj1
 rw[vQ hq] at hj2
 have HE0:Hid (jY m (q:Int)=if m.zh[q].page=-1 then(zY m.zd:Int)+(q:Int) else XN m m.zh[q].page m.zh[q].place):=by show _=_;unfold jY;rw[vQ hq]
 have VV:=h
 clear hj hj1
 obtain⟨hM,hL,hN,hTn⟩:=h
 obtain⟨ap,cp,hvp,hlp,hcp⟩:=id hM.p
 obtain⟨ao,co,xz⟩:=hM.o.shape
 obtain⟨at',ct,xZ,hlt',hct⟩:=id hM.t
 obtain⟨as',cs,hvs⟩:=hM.s.shape
 obtain⟨al,cl,hvl,hll,hcl⟩:=id hL
 subst hvp xz xZ hvs hvl
 unfold zI
 simp only[List.cons_append,List.nil_append]
 go_enter Tryz.func165,Tryz.ntmps165
 go_upto_region 1 with fail
 refine ye (fun W=>Below w.heap.size w W/\Bx W w.heap.size 128 [.int .i64 m.cells,.slice ap m.zd.length cp,.slice ao m.order.length co,.int .i64 m.now,.slice at' m.zh.length ct,.int .i64 m.born,.slice as' m.zl.length cs,.int .i64 m.code,.slice al (xl m.zd).length cl,.int .i64 (zY m.zd:Int)]) ⟨zB _ _,Bx.new w _ _⟩ ?_
 rintro W ⟨hb,hx⟩
 obtain⟨⟨x0,x1,x2,x3,x4,x5,x6,x7,x8,x9⟩,_⟩:=Zc hx
 obtain⟨b,o,Ku,vs',hat,Z3⟩:=hct q hq
 subst hat
 obtain⟨T,hT⟩:∃T,m.zh[q]=T:=⟨_,rfl⟩
 rw[hT] at Z3 HE0 hj2
 obtain⟨d0,d1,d2,d3,d4,d5,d6,d7,dt,ds⟩:=Z3.below hb
 obtain⟨a1,k1,e1⟩:=dt.shape
 obtain⟨a2,k2,e2⟩:=ds.shape
 rw[e1] at d4
 rw[e2] at d5
 have hqz:(q:Int)<(m.zh.length:Int):=by omega
 have zb:=hb.size
 clear hct Z3 dt ds e1 e2 hT hcl hcp
 go_upto_region 2 with fail
 refine ye (fun W'=>Below W.heap.size W W'/\Bx W' W.heap.size 90 [.int .i64 T.page,.int .i64 T.place,.int .i64 T.left.m,.int .i64 T.left.pc,.slice a1 T.left.zg.length k1,.slice a2 T.left.ze.length k2,.int .i64 T.left.zf,.bool T.left.zv]) ⟨zB _ _,Bx.new _ _ _⟩ ?_
 rintro W2 ⟨t2,y2⟩
 have hb2:=hb.trans (t2.mono zb)
 have hx2:=hx.below t2
 have z2:=hb2.size
 clear hb hx t2 zb d0 d1 d2 d3 d4 d5 d6 d7 x0 x1 x2 x3 x4 x5 x6 x7 x8 x9
 obtain⟨⟨x0,x1,x2,x3,x4,x5,x6,x7,x8,x9⟩,_⟩:=Zc hx2
 have y0:=y2.cell 0 rfl
 have y1:=y2.cell 1 rfl
 by_cases hp:T.page=-1
 ·have HE:Hid (jY m (q:Int)=(zY m.zd:Int)+(q:Int)):=by show _=_;rw[HE0.out,if_pos hp]
  rw[hp] at y0
  go_wp2
  go_ret
  exact⟨vj HE.out.symm,hb2⟩
 have hpe:(T.page == -1)=false:=by simpa using hp
 rw[hpe,Bool.false_or] at hj2
 obtain⟨a,ha,hal,hk0,hk1⟩:=zaZ hj2
 have HE:Hid (jY m (q:Int)=XN m (a:Int) T.place):=by show _=_;rw[HE0.out,if_neg hp,ha]
 rw[ha] at y0 hpe
 have HC:=Zw _ _ _ _ _ m a T.place W2 (VV.below hb2) hal (by omega) (by omega)
 unfold zI at HC
 simp only[List.cons_append,List.nil_append] at HC
 clear HE0 hj2 hp ha
 go_wp2_with fail
 refine HC.mono ?_
 rintro e W3 ⟨rfl,t3⟩
 have hb3:=hb2.trans (t3.mono z2)
 go_wp2
 go_ret
 exact⟨vj HE.out.symm,hb3⟩
set_option maxRecDepth 100000 in
set_option maxHeartbeats 4000000 in
theorem wG (vp vo vt vs vl:Value) (m:Mc) (j:Int) (w:World) (h:Pl w vp vo vt vs vl m) (hj:(j == -1 || qy m j)=true) :
 Calls Tryz.prog 164 #[.agg (zI vp vo vt vs m ++ [vl,.int .i64 (zY m.zd:Int)]).toArray,.int .i64 j] w fun e w'=>e=.returned (.int .i64 (xw m j))/\Below w.heap.size w w':=by
 have VV:=h
 obtain⟨hM,hL,hN,hTn⟩:=h
 obtain⟨ap,cp,hvp,hlp,hcp⟩:=id hM.p
 obtain⟨ao,co,xz⟩:=hM.o.shape
 obtain⟨at',ct,xZ,hlt',hct⟩:=id hM.t
 obtain⟨as',cs,hvs⟩:=hM.s.shape
 obtain⟨al,cl,hvl,hll,hcl⟩:=id hL
 subst hvp xz xZ hvs hvl
 unfold zI
 simp only[List.cons_append,List.nil_append]
 go_enter Tryz.func164,Tryz.ntmps164
 go_upto_region 1 with fail
 refine ye (fun W=>Below w.heap.size w W/\Bx W w.heap.size 128 [.int .i64 m.cells,.slice ap m.zd.length cp,.slice ao m.order.length co,.int .i64 m.now,.slice at' m.zh.length ct,.int .i64 m.born,.slice as' m.zl.length cs,.int .i64 m.code,.slice al (xl m.zd).length cl,.int .i64 (zY m.zd:Int)]) ⟨zB _ _,Bx.new w _ _⟩ ?_
 rintro W ⟨hb,hx⟩
 obtain⟨⟨x0,x1,x2,x3,x4,x5,x6,x7,x8,x9⟩,_⟩:=Zc hx
 have zb:=hb.size
 by_cases h1:j=-1
 ·subst h1
  go_wp2
  go_ret
  exact⟨rfl,hb⟩
 have hje:(j == -1)=false:=by simpa using h1
 rw[hje,Bool.false_or] at hj
 have HE:Hid (xw m j=jY m j):=by show _=_;unfold xw;rw[if_neg h1]
 have HC:=JJ _ _ _ _ _ m j W (VV.below hb) hj
 unfold zI at HC
 simp only[List.cons_append,List.nil_append] at HC
 clear hj
 go_wp2_with fail
 refine HC.mono ?_
 rintro e W3 ⟨rfl,t3⟩
 have hb3:=hb.trans (t3.mono zb)
 go_wp2
 go_ret
 exact⟨vj HE.out.symm,hb3⟩
def un (m:Mc):Int:=if yO m.now 0 ((m.zd.length:Int) - 1)=true/\(uK m m.now).zk.length≠0 then XN m m.now (((uK m m.now).zk.length:Int) - 1) else -1
set_option maxRecDepth 100000 in
set_option maxHeartbeats 4000000 in
theorem Kl (vp vo vt vs vl:Value) (m:Mc) (w:World) (h:Pl w vp vo vt vs vl m) :
 Calls Tryz.prog 124 #[.agg (zI vp vo vt vs m ++ [vl,.int .i64 (zY m.zd:Int)]).toArray] w fun e w'=>e=.returned (.int .i64 (un m))/\Below w.heap.size w w':=by
 have VV:=h
 obtain⟨hM,hL,hN,hTn⟩:=h
 obtain⟨ap,cp,hvp,hlp,hcp⟩:=id hM.p
 obtain⟨ao,co,xz⟩:=hM.o.shape
 obtain⟨at',ct,xZ,hlt',hct⟩:=id hM.t
 obtain⟨as',cs,hvs⟩:=hM.s.shape
 obtain⟨al,cl,hvl,hll,hcl⟩:=id hL
 subst hvp xz xZ hvs hvl
 unfold zI
 simp only[List.cons_append,List.nil_append]
 go_enter Tryz.func124,Tryz.ntmps124
 go_upto_region 1 with fail
 refine ye (fun W=>Below w.heap.size w W/\Bx W w.heap.size 128 [.int .i64 m.cells,.slice ap m.zd.length cp,.slice ao m.order.length co,.int .i64 m.now,.slice at' m.zh.length ct,.int .i64 m.born,.slice as' m.zl.length cs,.int .i64 m.code,.slice al (xl m.zd).length cl,.int .i64 (zY m.zd:Int)]) ⟨zB _ _,Bx.new w _ _⟩ ?_
 rintro W ⟨hb,hx⟩
 obtain⟨⟨x0,x1,x2,x3,x4,x5,x6,x7,x8,x9⟩,_⟩:=Zc hx
 have zb:=hb.size
 obtain⟨f,hf⟩:∃f,yO m.now 0 ((m.zd.length:Int) - 1)=f:=⟨_,rfl⟩
 have HP:=yd m.now m.zd.length W
 rw[hf] at HP
 go_wp2_with fail
 refine HP.mono ?_
 rintro e W1 ⟨rfl,hw⟩
 obtain rfl:=hw.symm
 clear hw HP
 cases f
 ·have HE:Hid (un m=-1):=by show _=_;unfold un;rw[hf];simp
  go_wp2
  go_ret
  exact⟨vj HE.out.symm,hb⟩
 obtain⟨i,hi,hil⟩:=zaI hf
 obtain⟨bp,op,vf,hap,jN⟩:=hcp i hil
 subst hap
 obtain⟨af,cf,Z4⟩:=jN.f.shape
 have g1:=zc hb jN.c1
 rw[Z4] at g1
 have HE0:Hid (un m=if m.zd[i].zk.length≠0 then XN m (i:Int) ((m.zd[i].zk.length:Int) - 1) else -1):=by show _=_;unfold un;rw[hf,hi,kB hil];simp
 have hsu:=xn hil
 have hsl:=ka m.zd (k:=i+1) hil
 have HI:Hid (m.now=(i:Int)):=hi
 rw[hi] at x3 ⊢
 obtain⟨nf,hnf⟩:∃nf,m.zd[i].zk.length=nf:=⟨_,rfl⟩
 rw[hnf] at g1 HE0 hsu
 have hnb:nf<=1099511627776:=by omega
 have hiz:(i:Int)<(m.zd.length:Int):=by omega
 clear hcp jN Z4 hnf hsu hsl hcl hct hi hf
 by_cases h0:nf=0
 ·have HE:Hid (un m=-1):=by show _=_;rw[HE0.out,h0];simp
  rw[h0] at g1
  go_wp2
  go_ret
  exact⟨vj HE.out.symm,hb⟩
 have h0z:¬((nf:Int)=0):=by omega
 have hwn:IntKind.i64.wrap ((nf:Int) - 1)=(nf:Int) - 1:=by rw[IntKind.wrap_i64];omega
 have HE:Hid (un m=XN m (i:Int) ((nf:Int) - 1)):=by show _=_;rw[HE0.out,if_pos h0]
 clear HE0
 go_upto_region 4 with fail
 have HC:=qe (W:=W) fun W' (hW:Below W.heap.size W W')=>Zw _ _ _ _ _ m i ((nf:Int) - 1) W' ((VV.below hb).below hW) hil (by omega) (by omega)
 unfold zI at HC
 simp only[List.cons_append,List.nil_append] at HC
 rw[HI.out] at HC
 have L0:=Gr.cell x0
 have L1:=Gr.cell x1
 have L2:=Gr.cell x2
 have L3:=Gr.cell x3
 have L4:=Gr.cell x4
 have L5:=Gr.cell x5
 have L6:=Gr.cell x6
 have L7:=Gr.cell x7
 have L8:=Gr.cell x8
 have L9:=Gr.cell x9
 have G1:=Gr.cell g1
 clear x0 x1 x2 x3 x4 x5 x6 x7 x8 x9 g1
 refine WQ.region (by kernel_rfl) (by kernel_rfl) ?_
 iterate 13 (refine WQ.step (fun K hK=>?_);go_simp;first
  | (with_reducible refine hK _ ?_;clear hK K)
  | (with_reducible refine yH ?_;refine hK _ ?_;clear hK K)
  | (simp(contextual:=true) only [L0,L1,L2,L3,L4,L5,L6,L7,L8,L9,G1,Result.andThen_ok,true_and];with_reducible refine yH ?_;refine hK _ ?_;clear hK K)
  | (with_reducible refine yp HC ?_;refine hK _ ?_;clear hK K))
 refine WQ.nil ?_
 intro W3 hG3
 have hb3:=hb.trans (hG3.to.mono zb)
 clear hG3 HC L0 L1 L2 L3 L4 L5 L6 L7 L8 L9 G1
 go_wp2
 go_ret
 exact⟨vj HE.out.symm,hb3⟩
theorem qf.addPage {B:Nat} {P:Lay} {ρ:Nat->Rl} {w W:World} (h:qf B ρ w P) (_hB:B<=w.heap.size) {v':Value} (base:Int)
 (zS:yl B 2 W v' (P.L.zd.length+1) (xB (jv P.F P.L.zd) ++ [.int .i64 base,.slice none 0 0])) (hg:w.grownBy W P.vp.ownBlock) (hor:v'.ownBlock=P.vp.ownBlock\/v'.ownBlock=some w.heap.size) :
 qf B (qk ρ w .zd) (W.setCell ⟨P.bl,1,none⟩ v') {P with vp:=v',F:=fun k=>if k=P.L.zd.length then .slice none 0 0 else P.F k,L:={P.L with zd:=P.L.zd ++ [⟨base,[]⟩]}}:=by
 have c:Ch (fun r=>r=.zd) ρ (qk ρ w .zd) w W:=Ch.grown hg ρ .zd fun g e=>(h .zd).2 g e
 have h1:=Lay.it_keep (P:=P) (h .live) c (by simp)
 have c2:Ch (fun r=>r=.live) (qk ρ w .zd) (qk ρ w .zd) W (W.setCell ⟨P.bl,1,none⟩ v'):=Ch.set W _ _ _ _ h1.2.1
 have c3:Ch (fun r=>r=.live\/r=.zd) ρ (qk ρ w .zd) w (W.setCell ⟨P.bl,1,none⟩ v'):=(c.mono fun _ e=>.inr e).trans (c2.mono fun _ e=>.inl e)
 have hl:(P.L.zd ++ [(⟨base,[]⟩:K4)]).length=P.L.zd.length+1:=by simp
 have zx:∀g,v'.ownBlock=some g->qk ρ w .zd g=.zd:=fun g e=>by
  rcases hor with e2 | e2
  ·rw[e2] at e
   exact(c.role g ((h .zd).1.lt g e).2).trans ((h .zd).2 g e)
  ·rw[e2] at e
   injection e with e
   subst e
   exact wa zD
 have hpp:jv (fun k=>if k=P.L.zd.length then .slice none 0 0 else P.F k) (P.L.zd ++ [⟨base,[]⟩])=jv P.F P.L.zd ++ [(.int .i64 base,.slice none 0 0)]:=by
  unfold jv
  rw[hl,List.range_succ,List.map_append]
  congr 1
  ·refine List.map_congr_left fun i hi=>?_
   have hi':i<P.L.zd.length:=by simpa using hi
   have hin:i≠P.L.zd.length:=by omega
   simp[List.getElem?_append_left hi',hin]
  ·simp
 intro r
 cases r with
 | other=>trivial
 | live=>exact⟨h1.1.set 1 _,h1.2.1,h1.2.2⟩
 | zd =>
  refine⟨?_,zx⟩
  show yl B 2 _ v' (P.L.zd ++ [(⟨base,[]⟩:K4)]).length _
  rw[hl,hpp,Ua]
  exact zS.kept c2.size fun g e=>c2.blk g (zS.lt g e).2 (by rw[zx g e];simp)
 | zk i =>
  intro hi
  by_cases e:i=P.L.zd.length
  ·subst e
   show yl B 2 _ (if P.L.zd.length=P.L.zd.length then Value.slice none 0 0 else P.F P.L.zd.length) (P.L.zd ++ [(⟨base,[]⟩:K4)])[P.L.zd.length].zk.length (xB (qS P.D (P.L.zd ++ [(⟨base,[]⟩:K4)])[P.L.zd.length].zk))/\∀g,(if P.L.zd.length=P.L.zd.length then Value.slice none 0 0 else P.F P.L.zd.length).ownBlock=some g->_
   rw[if_pos rfl,List.getElem_append_right zD]
   simp only[Nat.sub_self,List.getElem_cons_zero]
   exact⟨yl.nil _ _ _,fun g e=>by cases e⟩
  ·have hi2:i<P.L.zd.length:=by
    have:i<(P.L.zd ++ [(⟨base,[]⟩:K4)]).length:=hi
    omega
   have:=(Lay.it_keep (P:=P) (h (.zk i)) c3 (by simp)) hi2
   show yl B 2 _ (if i=P.L.zd.length then Value.slice none 0 0 else P.F i) (P.L.zd ++ [(⟨base,[]⟩:K4)])[i].zk.length (xB (qS P.D (P.L.zd ++ [(⟨base,[]⟩:K4)])[i].zk))/\∀g,(if i=P.L.zd.length then Value.slice none 0 0 else P.F i).ownBlock=some g->_
   rw[if_neg e,List.getElem_append_left hi2]
   exact this
 | order=>exact Lay.it_keep (P:=P) (r:=.order) (h .order) c3 (by simp)
 | zh=>exact Lay.it_keep (P:=P) (r:=.zh) (h .zh) c3 (by simp)
 | body k=>exact Lay.it_keep (P:=P) (r:=(.body k)) (h (.body k)) c3 (by simp)
 | zg k=>exact Lay.it_keep (P:=P) (r:=(.zg k)) (h (.zg k)) c3 (by simp)
 | ze k=>exact Lay.it_keep (P:=P) (r:=(.ze k)) (h (.ze k)) c3 (by simp)
theorem X9.wf.addPage {L:X9} (h:L.wf) (base:Int):X9.wf {L with zd:=L.zd ++ [⟨base,[]⟩]}:=⟨fun i hi k hk=>by
 have hi':i<(L.zd ++ [(⟨base,[]⟩:K4)]).length:=hi
 have hk':k<(L.zd ++ [(⟨base,[]⟩:K4)])[i].zk.length:=hk
 by_cases e:i<L.zd.length
 ·have e2:(L.zd ++ [(⟨base,[]⟩:K4)])[i]=L.zd[i]:=List.getElem_append_left e
  show(L.zd ++ [(⟨base,[]⟩:K4)])[i].zk[k].body<_
  simp only[e2] at hk' ⊢
  exact h.fr i e k hk'
 ·have hl:(L.zd ++ [(⟨base,[]⟩:K4)]).length=L.zd.length+1:=by simp
  obtain rfl:i=L.zd.length:=by omega
  rw[List.getElem_append_right zD] at hk'
  simp at hk',h.tw⟩
theorem uc.kept {B:Nat} {w w1:World} {d:Nat} {vt vs:Value} {c:Cl} (h:uc B w d vt vs c) (hs:w.heap.size<=w1.heap.size) (hr:∀r,B<=r->r<w.heap.size->w1.heap[r]?=w.heap[r]?):uc B w1 d vt vs c:=by
 obtain⟨r,ht,hs',hd,hn1,hn2⟩:=h
 exact⟨World.rowIs.of_block r (hr d hd (World.rowIs.lt r)),ht.kept hs fun g e=>hr g (ht.lt g e).1 (ht.lt g e).2,hs'.kept hs fun g e=>hr g (hs'.lt g e).1 (hs'.lt g e).2,hd,hn1,hn2⟩
theorem uc.mono {B B':Nat} {w:World} {d:Nat} {vt vs:Value} {c:Cl} (h:uc B w d vt vs c) (hB:B'<=B):uc B' w d vt vs c:=by
 obtain⟨r,ht,hs',hd,hn1,hn2⟩:=h
 exact⟨r,ht.mono hB,hs'.mono hB,Nat.le_trans hB hd,hn1,hn2⟩
def vA (c:Cl):Wg:=⟨c.m,c.pc,c.zg,c.ze,c.zv⟩
theorem qf.addTwin {B:Nat} {P:Lay} {ρ:Nat->Rl} {w w':World} (h:qf B ρ w P) (hwf:P.L.wf) (hB:B<=w.heap.size) (hb:Below w.heap.size w w') {d:Nat} {vt vs:Value} {c:Cl} (hx:uc w.heap.size w' d vt vs c) (s:Int) {n:Nat} (hn:P.L.zh.length=n) :
 ∃(W:World) (ρ':Nat->Rl) (D:Nat->Nat) (T:Nat->Value × Value),(Instr.mapUpdate 157 (.map (some P.bm)) (.int .i64 (n:Int)) (.agg #[.int .i64 (-1),.int .i64 0,.pointer (some ⟨d,0,none⟩),.int .i64 s])).run Tryz.prog w'=.ok () W /\
  qf B ρ' W {P with D:=D,T:=T,L:={P.L with zh:=P.L.zh ++ [⟨-1,0,P.L.zU.length,s⟩],zU:=P.L.zU ++ [vA c]}}/\X9.wf {P.L with zh:=P.L.zh ++ [⟨-1,0,P.L.zU.length,s⟩],zU:=P.L.zU ++ [vA c]}/\w'.grownBy W (some P.bm):=by
 obtain⟨r,ht,hs,hd,hn1,hn2⟩:=hx
 have hbx:Bx w' d 218 (uS (vt,vs) (vA c)):=by
  obtain⟨cc,e1,e2,e3⟩:=r
  refine⟨cc,e1,e2,fun i hi=>?_⟩
  have hi':i<5:=hi
  rw[e3 i hi']
  match i,hi' with
  | 0,_=>rfl
  | 1,_=>rfl
  | 2,_=>rfl
  | 3,_=>rfl
  | 4,_=>rfl
 have h2:=h.addBody hwf hB hb (b:=vA c) hbx hd ht hs (fun e=>(hn1 d e).1 rfl) (fun e=>hn2 d e rfl) (fun g e=>(hn1 g e).2)
 have hm:xW w' P.bm (P.L.zh.map (jZ (jo P d vt vs (vA c)).D)):=(h2 .zh).1
 have hl:(P.L.zh.map (jZ (jo P d vt vs (vA c)).D)).length=P.L.zh.length:=List.length_map _
 obtain⟨W,hrun,hm2,hg⟩:=xW.push (P:=Tryz.prog) (t:=157) (kt:=3) (et:=168) (by kernel_rfl) (by kernel_rfl) hm (jZ (jo P d vt vs (vA c)).D ⟨-1,0,P.L.zU.length,s⟩)
 have hrun':(Instr.mapUpdate 157 (.map (some P.bm)) (.int .i64 (n:Int)) (.agg #[.int .i64 (-1),.int .i64 0,.pointer (some ⟨d,0,none⟩),.int .i64 s])).run Tryz.prog w'=.ok () W:=by
  have hd2:(jo P d vt vs (vA c)).D P.L.zU.length=d:=if_pos rfl
  have e:jZ (jo P d vt vs (vA c)).D ⟨-1,0,P.L.zU.length,s⟩=.agg #[.int .i64 (-1),.int .i64 0,.pointer (some ⟨d,0,none⟩),.int .i64 s]:=by
   unfold jZ
   rw[hd2]
  rw[hl,hn,e] at hrun
  exact hrun
 refine⟨W,_,_,_,hrun',h2.setTwins (ts:=P.L.zh ++ [⟨-1,0,P.L.zU.length,s⟩]) hg ?_,⟨fun i hi k hk=>?_,fun j hj=>?_⟩,hg⟩
 ·rw[List.map_append]
  exact hm2
 ·have:=hwf.fr i hi k hk
  show _<(P.L.zU ++ [vA c]).length
  rw[List.length_append]
  exact Nat.lt_of_lt_of_le this (Nat.le_add_right _ _)
 ·have hj':j<(P.L.zh ++ [(⟨-1,0,P.L.zU.length,s⟩:LvT)]).length:=hj
  have hl2:(P.L.zh ++ [(⟨-1,0,P.L.zU.length,s⟩:LvT)]).length=P.L.zh.length+1:=by simp
  show(P.L.zh ++ [(⟨-1,0,P.L.zU.length,s⟩:LvT)])[j].body<(P.L.zU ++ [vA c]).length
  rw[List.length_append,List.length_singleton]
  by_cases e:j<P.L.zh.length
  ·rw[List.getElem_append_left e]
   exact Nat.lt_of_lt_of_le (hwf.tw j e) (Nat.le_add_right _ _)
  ·obtain rfl:j=P.L.zh.length:=by omega
   rw[List.getElem_append_right zD]
   simp
end Go.Proofs.YtjbgpcileapogaaGreat
