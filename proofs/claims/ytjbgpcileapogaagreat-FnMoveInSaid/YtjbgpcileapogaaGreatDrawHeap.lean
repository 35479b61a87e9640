/-
  What draws a heap: l71Heap.
-/
import Derived.Test.YtjbgpcileapogaaGreatSWalkA
import Derived.Test.YtjbgpcileapogaaGreatMPut
import Derived.Deep.CutBlock
namespace Go.Proofs.YtjbgpcileapogaaGreat
open Go.RowKit
set_option maxRecDepth 100000 in
set_option maxHeartbeats 8000000 in
theorem Vu (w:World) (b:Nat) (a:Option Addr) (len zp p:Nat) (hr:Rd w b a len zp p) (hp:p+410<=1000000) :
 Calls Tryz.prog 42 #[.pointer (some ⟨b,0,none⟩)] w fun e w'=>∃(v vc vs:Value) (ms:List MM) (h:Hp) (p':Nat),e=.returned (.tuple #[.agg #[v],.agg (yn vc vs h)])/\ki w.heap.size w' (fun x=>yy x v (zQ ms)/\ZZ w.heap.size x vc vs h)/\yt (zQ ms)=true/\jG h/\p<=p'/\p'<=p+410/\Rd w' b a len zp p'/\w.grownBy w' (some b):=by
 have hbw:b<w.heap.size:=World.block_lt_of_cell? _ _ hr.s
 have VW:=(hr.alloc (.cells #[.slice none 0 0] 25)).alloc (.cells #[.slice none 0 0,.int .i64 0,.int .i64 0,.slice none 0 0,.int .i64 0] 29)
 have hgA:=qc (qc (vD w (some b)) (.cells #[.slice none 0 0] 25)) (.cells #[.slice none 0 0,.int .i64 0,.int .i64 0,.slice none 0 0,.int .i64 0] 29)
 have rp:=(wy w (.slice none 0 0)).alloc (.cells #[.slice none 0 0,.int .i64 0,.int .i64 0,.slice none 0 0,.int .i64 0] 29)
 have rh:=qG (w.alloc (.cells #[.slice none 0 0] 25)) 29 (.slice none 0 0) (.int .i64 0) (.int .i64 0) (.slice none 0 0) (.int .i64 0)
 have zA:((w.alloc (.cells #[.slice none 0 0] 25)).alloc (.cells #[.slice none 0 0,.int .i64 0,.int .i64 0,.slice none 0 0,.int .i64 0] 29)).heap.size=w.heap.size+2:=by simp
 simp only[World.size_alloc] at rh
 go_enter Tryz.func42,Tryz.ntmps42
 go_upto_region 1 with fail
 generalize (w.alloc (.cells #[.slice none 0 0] 25)).alloc (.cells #[.slice none 0 0,.int .i64 0,.int .i64 0,.slice none 0 0,.int .i64 0] 29)=W0 at *
 go_upto_region 2 with(go_at_call 108;refine(UB _ _ _ _ _ _ VW (by omega)).mono ?_;rintro e w1 ⟨v,ms,p1,rfl,hP1,hm2,Ur,hmo,hq1,hq1',hr1,hg1,hok⟩;obtain⟨ap,cp,hvp⟩:=hP1.shape;subst hvp)
 have gr1:=zK hgA hg1
 have rp1:=yq rp hg1 (by intro e;injection e with e;omega)
 have rh1:=yq rh hg1 (by intro e;injection e with e;omega)
 have hM1:=hP1.meths (by unfold maxLen;omega) (fun m hm=>by have:=(hmo m hm).2;unfold maxLen;omega)
 have hpl:(zQ ms).length=ms.length:=by simp[zQ]
 have z1:=gr1.size
 have z01:=hg1.size
 have HMO:Hid (∀m∈ms,m.2.2.2.length<=14):=fun m hm=>(hmo m hm).2
 clear VW hgA rp rh hg1 hmo
 have B2:Below w1.heap.size w1 (w1.alloc (.cells #[.slice ap ms.length cp] 25)):=zB _ _
 have rb2:(w1.alloc (.cells #[.slice ap ms.length cp] 25)).rowIs w1.heap.size 25 1 (fun _=>.slice ap ms.length cp):=wy w1 _
 have hM2:=hM1.below B2
 have z2:(w1.alloc (.cells #[.slice ap ms.length cp] 25)).heap.size=w1.heap.size+1:=by simp
 have rb2c:=rb2.cell (i:=0) (by decide)
 generalize w1.alloc (.cells #[.slice ap ms.length cp] 25)=W2 at *
 have hN:=QS _ _ _ hM2
 have hNok:=zcr hok
 have hNsd:Hid ((uJ (zQ ms)).zl.length=0):=by show _=_;rw[ZQ hok];rfl
 have hNc:Hid ((uJ (zQ ms)).za.length=1):=by show _=_;rw[ZQ hok];rfl
 have hNd:Hid (Dn (uJ (zQ ms))):=by
  show Dn _
  rw[ZQ hok]
  intro i hi
  have hi0:i=0:=by simp at hi;omega
  subst hi0
  simp
 unfold yn at hN
 have HOK:Hid (yt (zQ ms)=true):=hok
 have HNOK:Hid (ym (zQ ms) (uJ (zQ ms))=true):=hNok
 clear hok hNok
 generalize uJ (zQ ms)=H1 at *
 have hP2:=hP1.kept (qA B2 none) (fun g e=>by cases e)
 clear hM1 hM2
 go_upto_region 3 with(go_at_call 109;refine hN.mono ?_;rintro e w3 ⟨hb3,vc,vs,rfl,hh3'⟩;have hh3:=hh3' w3 zD (fun _ _ _=>rfl);obtain⟨ac,kc,Yq⟩:=hh3.c.shape;obtain⟨aD,kD,hvs⟩:=hh3.s.shape;subst Yq hvs;have HH3:Hid (∀w'':World,w3.heap.size<=w''.heap.size->(∀g,W2.heap.size<=g->g<w3.heap.size->w''.heap[g]?=w3.heap[g]?)->qa w'' (.slice ac H1.za.length kc) (.slice aD H1.zl.length kD) H1):=hh3';clear hh3 hh3')
 have B4:Below w3.heap.size w3 (w3.alloc (.cells #[.slice ac H1.za.length kc,.int .i64 H1.now,.int .i64 H1.born,.slice aD H1.zl.length kD,.int .i64 H1.code] 29)):=zB _ _
 have r4:=qG w3 29 (.slice ac H1.za.length kc) (.int .i64 H1.now) (.int .i64 H1.born) (.slice aD H1.zl.length kD) (.int .i64 H1.code)
 have z4:(w3.alloc (.cells #[.slice ac H1.za.length kc,.int .i64 H1.now,.int .i64 H1.born,.slice aD H1.zl.length kD,.int .i64 H1.code] 29)).heap.size=w3.heap.size+1:=by simp
 generalize w3.alloc (.cells #[.slice ac H1.za.length kc,.int .i64 H1.now,.int .i64 H1.born,.slice aD H1.zl.length kD,.int .i64 H1.code] 29)=W4 at *
 have z3:=hb3.size
 have B14:Below w1.heap.size w1 W4:=B2.trans ((hb3.trans (B4.mono z3)).mono B2.size)
 have hr4:Rd W4 b a len zp p1:=Rd.kept hr1 hr1 zD (qA B14 none) (fun g e=>by cases e)
 have gr4:=ql gr1 (qA B14 none) (fun g e=>by cases e)
 have rp4:=zz B14 rp1
 have rh4:=zz B14 rh1
 have rb4:=zz (hb3.trans (B4.mono z3)) rb2
 have hP4:=hP2.kept (qA (hb3.trans (B4.mono z3)) none) (fun g e=>by cases e)
 have HH4:Hid (∀w'':World,W4.heap.size<=w''.heap.size->(∀g,W2.heap.size<=g->g<W4.heap.size->w''.heap[g]?=W4.heap[g]?)->qa w'' (.slice ac H1.za.length kc) (.slice aD H1.zl.length kD) H1):=fun w'' h1 h2=>HH3.out w'' (by omega) fun g h3 h4=>(h2 g h3 (by omega)).trans (B4.block g h4)
 have HPL:Hid ((∀g,(Value.slice ap ms.length cp).ownBlock=some g->g<w3.heap.size)/\∀m∈ms,∀g,m.2.2.1.ownBlock=some g->g<w3.heap.size):=⟨fun g e=>by have:=(hP2.row.lt _ e).2;omega,fun m hm g e=>by have:=((hP2.ops m hm).lt _ e).2;omega⟩
 clear hr1 gr1 rp1 rh1 rb2 rb2c hP1 hP2 HH3 hN B2 B4 hb3 B14
 obtain⟨⟨x0,x1,x2,x3,x4⟩,y0,y1,y2,y3,y4⟩:=zJ r4
 have xb:=rb4.cell (i:=0) (by decide)
 have hPk:=yU W4.drew b a len zp p1 90 (Rd.heap hr4 rfl) (by omega) (by omega) (by omega)
 have HRn:Hid (∀(w5:World) (n:Int),0<=n->n<90->Rd w5 b a len zp (p1+1)->W4.drew.grownBy w5 (some b)->Calls Tryz.prog 110 #[.agg #[.slice ap ms.length cp],.agg #[.slice ac H1.za.length kc,.int .i64 H1.now,.int .i64 H1.born,.slice aD H1.zl.length kD,.int .i64 H1.code],.int .i64 n] w5 fun e w'=>(∃vm vs' V',e=.returned (.tuple #[.agg (yn vm vs' (qX (zQ ms) H1 n)),.bool (ym (zQ ms) H1 && yO n 0 400)])/\yJ w5.heap.size w' vm vs' (qX (zQ ms) H1 n) V')/\Below w5.heap.size w5 w'):=by
  intro w5 n h0 h9 hr5 hg5
  have Kf:W4.grownBy w5 (some b):=⟨hg5.os,hg5.tape,hg5.output,hg5.size,hg5.block⟩
  have hPm:=(hP4.low Kf (by omega)).meths (by unfold maxLen;omega) (fun m hm=>by have:=HMO.out m hm;unfold maxLen;omega)
  exact XS _ _ _ _ H1 n w5 hPm (HH4.out w5 Kf.size fun g h1 h2=>Kf.block g h2 (fun e=>by injection e with e;omega)) (by rw[hNc.out];omega) (by rw[hNsd.out];omega)
 unfold yn at HRn
 go_cut [] (fun wx=>∃(x:Int) (a6 a7:Option Addr) (k6 k7 B6:Nat) (V6:Nat->Value × Value),0<=x/\x<90/\w3.heap.size<B6/\B6<=wx.heap.size/\Rd wx b a len zp (p1+1)/\w.grownBy wx (some b)/\wx.rowIs w.heap.size 25 1 (fun _=>.slice none 0 0)/\wx.rowIs (w.heap.size+1) 29 5 (jQ (.slice none 0 0) (.int .i64 0) (.int .i64 0) (.slice none 0 0) (.int .i64 0))/\wx.rowIs w1.heap.size 25 1 (fun _=>.slice ap ms.length cp)/\wx.rowIs w3.heap.size 29 5 (jQ (.slice a6 (qX (zQ ms) H1 x).za.length k6) (.int .i64 (qX (zQ ms) H1 x).now) (.int .i64 (qX (zQ ms) H1 x).born) (.slice a7 (qX (zQ ms) H1 x).zl.length k7) (.int .i64 (qX (zQ ms) H1 x).code))/\kR W0.heap.size wx (.slice ap ms.length cp) ms/\yJ B6 wx (.slice a6 (qX (zQ ms) H1 x).za.length k6) (.slice a7 (qX (zQ ms) H1 x).zl.length k7) (qX (zQ ms) H1 x) V6)
 case first =>
  go_region_law (first
   | (go_simp;go_at_call 110;refine(HRn.out _ _ hx0 hx1 hr5 hg5).mono ?_;rintro e w6 ⟨⟨vc6,vs6,V6,rfl,ho6⟩,hb6⟩;obtain⟨a6,k6,hv6⟩:=ho6.at.c.shape;obtain⟨a7,k7,hv7⟩:=ho6.at.s.shape;subst hv6 hv7;obtain⟨⟨e0,e1,e2,e3,e4⟩,f0,f1,f2,f3,f4⟩:=zJ (zz hb6 R5))
   | (go_simp;go_at_call 111;refine hPk.mono ?_;rintro e w5 ⟨x,rfl,hx0,hx1,hr5,hg5⟩;have R5:=yq (w:=W4.drew) r4 hg5 (by intro e;injection e with e;omega);have R5b:=yq (w:=W4.drew) rb4 hg5 (by intro e;injection e with e;omega);obtain⟨⟨d0,d1,d2,d3,d4⟩,_⟩:=zJ R5;have db:=R5b.cell (i:=0) (by decide)))
  all_goals
   have Kf:W4.grownBy w5 (some b):=⟨hg5.os,hg5.tape,hg5.output,hg5.size,hg5.block⟩
   have z5:=Kf.size
   have z6:=hb6.size
   have g5:=zK gr4 Kf
   have g6:=ql g5 (qA hb6 none) (fun g e=>by cases e)
   have kF:w6.grownBy (((((w6.setCell ⟨w3.heap.size,0,none⟩ (.slice a6 (qX (zQ ms) H1 x).za.length k6)).setCell ⟨w3.heap.size,1,none⟩ (.int .i64 (qX (zQ ms) H1 x).now)).setCell ⟨w3.heap.size,2,none⟩ (.int .i64 (qX (zQ ms) H1 x).born)).setCell ⟨w3.heap.size,3,none⟩ (.slice a7 (qX (zQ ms) H1 x).zl.length k7)).setCell ⟨w3.heap.size,4,none⟩ (.int .i64 (qX (zQ ms) H1 x).code)) (some w3.heap.size):=(zK (zK (zK (zK (yP w6 w3.heap.size 0 (.slice a6 (qX (zQ ms) H1 x).za.length k6)) (yP (w6.setCell ⟨w3.heap.size,0,none⟩ (.slice a6 (qX (zQ ms) H1 x).za.length k6)) w3.heap.size 1 (.int .i64 (qX (zQ ms) H1 x).now))) (yP ((w6.setCell ⟨w3.heap.size,0,none⟩ (.slice a6 (qX (zQ ms) H1 x).za.length k6)).setCell ⟨w3.heap.size,1,none⟩ (.int .i64 (qX (zQ ms) H1 x).now)) w3.heap.size 2 (.int .i64 (qX (zQ ms) H1 x).born))) (yP (((w6.setCell ⟨w3.heap.size,0,none⟩ (.slice a6 (qX (zQ ms) H1 x).za.length k6)).setCell ⟨w3.heap.size,1,none⟩ (.int .i64 (qX (zQ ms) H1 x).now)).setCell ⟨w3.heap.size,2,none⟩ (.int .i64 (qX (zQ ms) H1 x).born)) w3.heap.size 3 (.slice a7 (qX (zQ ms) H1 x).zl.length k7))) (yP ((((w6.setCell ⟨w3.heap.size,0,none⟩ (.slice a6 (qX (zQ ms) H1 x).za.length k6)).setCell ⟨w3.heap.size,1,none⟩ (.int .i64 (qX (zQ ms) H1 x).now)).setCell ⟨w3.heap.size,2,none⟩ (.int .i64 (qX (zQ ms) H1 x).born)).setCell ⟨w3.heap.size,3,none⟩ (.slice a7 (qX (zQ ms) H1 x).zl.length k7)) w3.heap.size 4 (.int .i64 (qX (zQ ms) H1 x).code)))
   have eF:∀g,some w3.heap.size=some g->w.heap.size<=g:=fun g e=>by injection e with e;omega
   have nb5:∀{q:Nat},w.heap.size<=q->some q≠some b:=fun h e=>by injection e with e;omega
   have rpF:=yq (zz hb6 (yq rp4 Kf (nb5 zD))) kF (by intro e;injection e with e;omega)
   have rhF:=yq (zz hb6 (yq rh4 Kf (nb5 (by omega)))) kF (by intro e;injection e with e;omega)
   have rbF:=yq (zz hb6 R5b) kF (by intro e;injection e with e;omega)
   have RF:=(j9 (jD (jC (j8 (jj (zz hb6 R5) (.slice a6 (qX (zQ ms) H1 x).za.length k6)) (.int .i64 (qX (zQ ms) H1 x).now)) (.int .i64 (qX (zQ ms) H1 x).born)) (.slice a7 (qX (zQ ms) H1 x).zl.length k7)) (.int .i64 (qX (zQ ms) H1 x).code))
   have rdF:=Rd.kept hr (Rd.kept hr hr5 g5.size (qA hb6 none) (fun g e=>by cases e)) g6.size kF eF
   have gF:=ql g6 kF eF
   have PF:=((hP4.low Kf (by omega)).kept (qA hb6 none) (fun g e=>by cases e)).kept kF (fun g e=>by injection e with e;subst e;exact⟨fun e=>by have:=HPL.out.1 _ e;omega,fun m hm e=>by have:=HPL.out.2 m hm _ e;omega⟩)
   have OF:=ho6.kept (w':=(((((w6.setCell ⟨w3.heap.size,0,none⟩ (.slice a6 (qX (zQ ms) H1 x).za.length k6)).setCell ⟨w3.heap.size,1,none⟩ (.int .i64 (qX (zQ ms) H1 x).now)).setCell ⟨w3.heap.size,2,none⟩ (.int .i64 (qX (zQ ms) H1 x).born)).setCell ⟨w3.heap.size,3,none⟩ (.slice a7 (qX (zQ ms) H1 x).zl.length k7)).setCell ⟨w3.heap.size,4,none⟩ (.int .i64 (qX (zQ ms) H1 x).code))) kF.size (fun g e=>kF.block g (ho6.lt e).2 (fun e2=>by injection e2 with e2;have:=(ho6.lt e).1;omega))
   have zF:=kF.size
   clear hP4 R5 R5b rp4 rh4 rb4 r4 hPk HRn ho6 hb6 g5 g6 kF hr5 hg5 Kf d0 d1 d2 d3 d4 db e0 e1 e2 e3 e4 f0 f1 f2 f3 f4 x0 x1 x2 x3 x4 y0 y1 y2 y3 y4 xb
   go_wp2_with fail
   go_meet
   exact⟨x,a6,a7,k6,k7,w5.heap.size,V6,hx0,hx1,by omega,by omega,rdF,gF,rpF,rhF,rbF,RF,PF,OF⟩
 case rest =>
  obtain⟨x,a6,a7,k6,k7,B6,V6,hx0,hx1,hB6,hB6',hr7,g7,rp7,rh7,rb7,R7,P7,O7⟩:=hcut
  have hHR:qX (zQ ms) H1 x=xM (zQ ms) x.toNat H1:=by
   have e:yO x 0 400=true:=zH.2 ⟨hx0,by omega⟩
   simp[qX,HNOK.out,e]
  have hgd:=Good.run x.toNat H1 (kx.1 HNOK.out)
  have hlen:=hgd.lens
  have hsa:=JW (zQ ms) x.toNat H1
  have hca:=zaE (zQ ms) x.toNat H1
  have hdn:=Dn.run x.toNat H1 (kx.1 HNOK.out) hNd.out
  rw[<-hHR] at hgd hlen hsa hca hdn
  rw[hNsd.out] at hsa
  rw[hNc.out] at hca
  generalize qX (zQ ms) H1 x=H at *
  obtain⟨Vl,hlts⟩:=hlen
  have hnw:=hgd.head.now
  have GD:Hid (Good (zQ ms) H):=hgd
  have HFW:Hid (∀v∈H.zl,Few v):=hgd.few
  have DN:Hid (Dn H):=hdn
  have HLT:Hid (∀c∈H.za,c.zg.length<=5/\c.ze.length<=6/\-1<=c.zf/\c.zf<(H.za.length:Int)):=fun c hc=>by
   obtain⟨i,hi,rfl⟩:=List.getElem_of_mem hc
   have h1:=hlts i hi
   have h2:=(hgd.cl i hi).sd
   omega
  clear hdn
  have hsa':H.zl.length<=90:=by omega
  have z7:=g7.size
  have HHX:=O7.stays (bh:=w3.heap.size) hB6
  have k0:DH w b a len zp (p1+1) W0.heap.size w1.heap.size w3.heap.size (.slice ap ms.length cp) ms (.slice a6 H.za.length k6) (.slice a7 H.zl.length k7) H wc:=⟨hr7,g7,rp7,rh7,rb7,R7,fun w'' e1 e2=>P7.stay (by unfold maxLen;omega) (fun m hm=>by have:=HMO.out m hm;unfold maxLen;omega) HPL.out.1 HPL.out.2 e2,HHX,⟨_,hr⟩,by omega,by omega,by omega,by omega⟩
  clear hlts hHR hgd HH4 hP4 hPk HRn hr4 gr4 rp4 rh4 rb4 r4 x0 x1 x2 x3 x4 y0 y1 y2 y3 y4 xb HHX rp7 rh7 rb7 R7 P7 g7
  go_wp2_with fail
  refine(yU wc b a len zp (p1+1) 14 hr7 (by omega) (by omega) (by omega)).mono ?_
  rintro e w8 ⟨y,rfl,hy0,hy1,hr8,hg8⟩
  have k8:=k0.pick hr8 hg8
  have O8:yJ B6 w8 (.slice a6 H.za.length k6) (.slice a7 H.zl.length k7) H V6:=O7.kept hg8.size fun g hg=>hg8.block g (O7.lt hg).2 (fun e=>by injection e with e;have:=(O7.lt hg).1;omega)
  clear k0 O7 hr7 hg8
  by_cases hy:0<y
  ·clear O8
   obtain⟨WF,hWF,f1,f2,f3,f4,f5⟩:=k8.fin
   have cb:=k8.rb.cell (i:=0) (by decide)
   obtain⟨⟨d0,d1,d2,d3,d4⟩,_⟩:=zJ k8.R
   have cp0:=k8.rp.cell (i:=0) (by decide)
   have cpf:=k8.rp.frozen 0
   obtain⟨⟨c0,c1,c2,c3,c4⟩,cf0,cf1,cf2,cf3,cf4⟩:=zJ k8.rh
   go_wp2_with fail
   go_region
   all_goals
    rw[<-hWF]
    obtain⟨⟨q0,q1,q2,q3,q4⟩,_⟩:=zJ f2
    clear hWF cb d0 d1 d2 d3 d4 cp0 cpf c0 c1 c2 c3 c4 cf0 cf1 cf2 cf3 cf4
    go_wp2
    exact bodyPost_ret (v:=.tuple #[.agg #[.slice ap ms.length cp],.agg #[.slice a6 H.za.length k6,.int .i64 H.now,.int .i64 H.born,.slice a7 H.zl.length k7,.int .i64 H.code]]) (by simp[results,Tryz.results42,go_sem,f1,q0,q1,q2,q3,q4]) rfl ⟨_,_,_,ms,H,p1+1+1,rfl,f3,HOK.out,uo H.za.length rfl Vl (by omega) (fun c hc=>by have:=HLT.out c hc;omega) hnw.1 (by omega) HFW.out,by omega,by omega,Rd.heap f4 rfl,⟨f5.os,f5.tape,f5.output,f5.size,f5.block⟩⟩
  ·obtain rfl:y=0:=by omega
   go_upto_block 0 with(go_at_call 111;refine(yU w8 b a len zp (p1+1+1) 8 hr8 (by omega) (by omega) (by omega)).mono ?_;rintro e w9 ⟨u,rfl,hu0,hu1,hr9,Xb⟩)
   have k9:=k8.pick hr9 Xb
   have O9:yJ B6 w9 (.slice a6 H.za.length k6) (.slice a7 H.zl.length k7) H V6:=O8.kept Xb.size fun g hg=>Xb.block g (O8.lt hg).2 (fun e=>by injection e with e;have:=(O8.lt hg).1;omega)
   clear k8 O8 hr8 Xb
   obtain⟨gc,oc,kc6,hac,hgc,hgc'⟩:=O9.c.form (by omega)
   obtain rfl:a6=some ⟨gc,oc,none⟩:=by injection hac
   obtain rfl:kc6=k6:=by injection hac with _ _ e;exact e.symm
   clear hac
   obtain⟨⟨x0,x1,x2,x3,x4,x5⟩,xf⟩:=O9.c.cells (j:=0) (by omega)
   simp only[Nat.zero_mul,Nat.add_zero] at x0 x1 x2 x3 x4 x5 xf
   obtain⟨⟨d0,d1,d2,d3,d4⟩,e0,e1,e2,e3,e4⟩:=zJ k9.R
   have xf2:=xf 2 (by omega)
   have xf4:=xf 4 (by omega)
   have xf5:=xf 5 (by omega)
   have HTS:Hid (∀c∈H.za,c.zg.length<=6/\c.ze.length<=6/\-1<=c.zf/\c.zf<(H.za.length:Int)):=fun c hc=>by have:=HLT.out c hc;omega
   have hclz:(1:Int)<=(H.za.length:Int):=by omega
   have h0c:0<H.za.length:=by omega
   have OC:=O9.c
   obtain⟨C0,hC0⟩:∃C0,H.za[0]=C0:=⟨_,rfl⟩
   have HC0:Hid (H.za[0]=C0):=hC0
   have hC0m:=HTS.out _ (List.getElem_mem h0c)
   rw[hC0] at x0 x1 x4 x5 hC0m
   clear hC0
   have HSET:Hid (∀c:Cl,(c.zg.length<=6/\c.ze.length<=6/\-1<=c.zf/\c.zf<(H.za.length:Int))->∀c'∈H.za.set 0 c,c'.zg.length<=6/\c'.ze.length<=6/\-1<=c'.zf/\c'.zf<(H.za.length:Int)):=fun c h1 c' hc'=>by
    rcases List.mem_or_eq_of_mem_set hc' with h | rfl
    ·exact HTS.out _ h
    ·exact h1
   have z9b:w3.heap.size<w9.heap.size:=k9.R.lt
   go_cut [] (fun wx=>∃(q:Nat) (av as':Option Addr) (nv kv ns' ks':Nat) (h':Hp),p1<=q/\q<=p1+4/\DH w b a len zp q W0.heap.size w1.heap.size w3.heap.size (.slice ap ms.length cp) ms (.slice av nv kv) (.slice as' ns' ks') h' wx/\jG h')
   case rest =>
    clear k9 O9 d0 d1 d2 d3 d4 e0 e1 e2 e3 e4 x0 x1 x2 x3 x4 x5 xf xf2 xf4 xf5 OC hr9
    obtain⟨q,av,as',nv,kv,ns',ks',h',hq0,hq2,kz,Wq⟩:=hcut
    obtain⟨WF,hWF,f1,f2,f3,f4,f5⟩:=kz.fin
    have cb:=kz.rb.cell (i:=0) (by decide)
    obtain⟨⟨d0,d1,d2,d3,d4⟩,_⟩:=zJ kz.R
    have cp0:=kz.rp.cell (i:=0) (by decide)
    have cpf:=kz.rp.frozen 0
    obtain⟨⟨c0,c1,c2,c3,c4⟩,cf0,cf1,cf2,cf3,cf4⟩:=zJ kz.rh
    have HB3:Hid (jG h'):=Wq
    clear Wq
    go_wp2_with fail
    go_region
    all_goals
     rw[<-hWF]
     obtain⟨⟨q0,q1,q2,q3,q4⟩,_⟩:=zJ f2
     clear hWF cb d0 d1 d2 d3 d4 cp0 cpf c0 c1 c2 c3 c4 cf0 cf1 cf2 cf3 cf4 kz
     go_wp2
     exact bodyPost_ret (v:=.tuple #[.agg #[.slice ap ms.length cp],.agg #[.slice av nv kv,.int .i64 h'.now,.int .i64 h'.born,.slice as' ns' ks',.int .i64 h'.code]]) (by simp[results,Tryz.results42,go_sem,f1,q0,q1,q2,q3,q4]) rfl ⟨_,_,_,ms,h',q,rfl,f3,HOK.out,HB3.out,by omega,by omega,Rd.heap f4 rfl,⟨f5.os,f5.tape,f5.output,f5.size,f5.block⟩⟩
   by_cases hu_0:u=0
   ·subst hu_0
    go_wp2_with fail
    refine(yU w9 b a len zp (p1+1+1+1) ((H.za.length:Int)+2) hr9 (by omega) (by omega) (by omega)).mono ?_
    rintro e qF ⟨z,rfl,hz0,hz1,zb6,uf⟩
    have k10:=k9.pick zb6 uf
    clear k9 O9 hr9 uf d0 d1 d2 d3 d4 e0 e1 e2 e3 e4 x0 x1 x2 x3 x4 x5 xf xf2 xf4 xf5
    obtain⟨⟨d0,d1,d2,d3,d4⟩,e0,e1,e2,e3,e4⟩:=zJ k10.R
    have hE:∃(av as':Option Addr) (nv kv ns' ks':Nat) (h':Hp),DH w b a len zp (p1+1+1+1+1) W0.heap.size w1.heap.size w3.heap.size (.slice ap ms.length cp) ms (.slice av nv kv) (.slice as' ns' ks') h' (qF.setCell ⟨w3.heap.size,1,none⟩ (.int .i64 (z - 1)))/\jG h':=⟨_,_,_,_,_,_,{H with now:=z - 1},k10.num rfl rfl (j8 k10.R (.int .i64 (z - 1))),uo H.za.length rfl Vl (by show H.zl.length<=100;omega) HTS.out (by show -1<=z - 1;omega) (by show z - 1<=(H.za.length:Int);omega) HFW.out⟩
    go_wp2_with fail
    go_meet
    obtain⟨av,as',nv,kv,ns',ks',h',kz,bz⟩:=hE
    exact⟨p1+1+1+1+1,av,as',nv,kv,ns',ks',h',by omega,by omega,kz,bz⟩
   have ex_0:(u == 0)=false:=zG.2 hu_0
   by_cases hu_1:u=1
   ·subst hu_1
    have kA:=k9.alloc (.cells #[.int .i64 0,.int .i64 31] 3)
    have rA:=zbG w9 3 (.int .i64 0) (.int .i64 31)
    have zA9:w3.heap.size<w9.heap.size:=k9.R.lt
    go_wp2_with fail
    refine(yU _ b a len zp (p1+1+1+1) 2 kA.rd (by omega) (by omega) (by omega)).mono ?_
    rintro e qF ⟨z,rfl,hz0,hz1,zb6,uf⟩
    have k10:=kA.pick zb6 uf
    have rA10:=yq rA uf (by intro e;injection e with e;omega)
    clear kA rA k9 O9 hr9 uf d0 d1 d2 d3 d4 e0 e1 e2 e3 e4 x0 x1 x2 x3 x4 x5 xf xf2 xf4 xf5
    obtain⟨⟨d0,d1,d2,d3,d4⟩,e0,e1,e2,e3,e4⟩:=zJ k10.R
    obtain⟨⟨l0,l1⟩,_⟩:=Wu rA10
    by_cases hz:z=0
    ·subst hz
     have hE:∃(av as':Option Addr) (nv kv ns' ks':Nat) (h':Hp),DH w b a len zp (p1+1+1+1+1) W0.heap.size w1.heap.size w3.heap.size (.slice ap ms.length cp) ms (.slice av nv kv) (.slice as' ns' ks') h' (qF.setCell ⟨w3.heap.size,2,none⟩ (.int .i64 0))/\jG h':=⟨_,_,_,_,_,_,{H with born:=0},k10.num rfl rfl (jC k10.R (.int .i64 0)),uo H.za.length rfl Vl (by show H.zl.length<=100;omega) HTS.out hnw.1 (by show H.now<=(H.za.length:Int);omega) HFW.out⟩
     go_wp2_with fail
     go_meet
     obtain⟨av,as',nv,kv,ns',ks',h',kz,bz⟩:=hE
     exact⟨p1+1+1+1+1,av,as',nv,kv,ns',ks',h',by omega,by omega,kz,bz⟩
    ·obtain rfl:z=1:=by omega
     have hE:∃(av as':Option Addr) (nv kv ns' ks':Nat) (h':Hp),DH w b a len zp (p1+1+1+1+1) W0.heap.size w1.heap.size w3.heap.size (.slice ap ms.length cp) ms (.slice av nv kv) (.slice as' ns' ks') h' (qF.setCell ⟨w3.heap.size,2,none⟩ (.int .i64 31))/\jG h':=⟨_,_,_,_,_,_,{H with born:=31},k10.num rfl rfl (jC k10.R (.int .i64 31)),uo H.za.length rfl Vl (by show H.zl.length<=100;omega) HTS.out hnw.1 (by show H.now<=(H.za.length:Int);omega) HFW.out⟩
     go_wp2_with fail
     go_meet
     obtain⟨av,as',nv,kv,ns',ks',h',kz,bz⟩:=hE
     exact⟨p1+1+1+1+1,av,as',nv,kv,ns',ks',h',by omega,by omega,kz,bz⟩
   have ex_1:(u == 1)=false:=zG.2 hu_1
   by_cases hu_2:u=2
   ·subst hu_2
    go_wp2_with fail
    refine(yU w9 b a len zp (p1+1+1+1) 6 hr9 (by omega) (by omega) (by omega)).mono ?_
    rintro e qF ⟨z,rfl,hz0,hz1,zb6,uf⟩
    have k10:=k9.pick zb6 uf
    clear k9 O9 hr9 uf d0 d1 d2 d3 d4 e0 e1 e2 e3 e4 x0 x1 x2 x3 x4 x5 xf xf2 xf4 xf5
    obtain⟨⟨d0,d1,d2,d3,d4⟩,e0,e1,e2,e3,e4⟩:=zJ k10.R
    have hE:∃(av as':Option Addr) (nv kv ns' ks':Nat) (h':Hp),DH w b a len zp (p1+1+1+1+1) W0.heap.size w1.heap.size w3.heap.size (.slice ap ms.length cp) ms (.slice av nv kv) (.slice as' ns' ks') h' (qF.setCell ⟨w3.heap.size,4,none⟩ (.int .i64 (z - 1)))/\jG h':=⟨_,_,_,_,_,_,{H with code:=z - 1},k10.num rfl rfl (j9 k10.R (.int .i64 (z - 1))),uo H.za.length rfl Vl (by show H.zl.length<=100;omega) HTS.out hnw.1 (by show H.now<=(H.za.length:Int);omega) HFW.out⟩
    go_wp2_with fail
    go_meet
    obtain⟨av,as',nv,kv,ns',ks',h',kz,bz⟩:=hE
    exact⟨p1+1+1+1+1,av,as',nv,kv,ns',ks',h',by omega,by omega,kz,bz⟩
   have ex_2:(u == 2)=false:=zG.2 hu_2
   by_cases hu_3:u=3
   ·subst hu_3
    have PP:=uL OC (j:=0) h0c 5 (.bool (!C0.zv)) {H.za[0] with zv:=!C0.zv} (by omega) rfl rfl rfl (by first | rfl | simp) (by first | rfl | simp) (by first | rfl | simp)
    simp only[Nat.zero_mul,Nat.add_zero] at PP
    have OP:=O9.put h0c PP
    have hne:w3.heap.size≠gc:=by omega
    have kP:DH w b a len zp (p1+1+1+1) W0.heap.size w1.heap.size w3.heap.size (.slice ap ms.length cp) ms (.slice (some ⟨gc,oc,none⟩) H.za.length kc6) (.slice a7 H.zl.length k7) {H with za:=H.za.set 0 {H.za[0] with zv:=!C0.zv}} (w9.setCell ⟨gc,oc+5,none⟩ (.bool (!C0.zv))):=k9.re (zC.setCell (p:=⟨gc,oc+5,none⟩) (by show w3.heap.size<=gc;omega) _) (k9.R.of_block (Below.heap_setCell _ _ _ _ hne)) (OP.stays hB6)
    have bS:Hid (∀c'∈H.za.set 0 {H.za[0] with zv:=!C0.zv},c'.zg.length<=6/\c'.ze.length<=6/\-1<=c'.zf/\c'.zf<(H.za.length:Int)):=HSET.out _ (by rw[HC0.out];dsimp only;omega)
    clear OP PP OC
    go_wp2_with fail
    go_region
    all_goals
     have hE:∃(av as':Option Addr) (nv kv ns' ks':Nat) (h':Hp),DH w b a len zp (p1+1+1+1) W0.heap.size w1.heap.size w3.heap.size (.slice ap ms.length cp) ms (.slice av nv kv) (.slice as' ns' ks') h' ((w9.setCell ⟨gc,oc+5,none⟩ (.bool (!C0.zv))).drew)/\jG h':=⟨_,_,_,_,_,_,_,kP.drew,uo H.za.length (by simp) Vl (by show H.zl.length<=100;omega) bS.out hnw.1 (by show H.now<=(H.za.length:Int);omega) HFW.out⟩
     go_wp2_with fail
     go_meet
     obtain⟨av,as',nv,kv,ns',ks',h',kz,bz⟩:=hE
     exact⟨p1+1+1+1,av,as',nv,kv,ns',ks',h',by omega,by omega,kz,bz⟩
   have ex_3:(u == 3)=false:=zG.2 hu_3
   by_cases hu_4:u=4
   ·subst hu_4
    obtain⟨aT,cT,hT,_⟩:=(OC.lists 0 h0c).1.slice
    have Vm:=(OC.lists 0 h0c).1
    rw[hT] at x2 Vm
    rw[HC0.out] at x2 Vm hT
    have HT:Hid ((V6 0).1=.slice aT C0.zg.length cT):=hT
    clear hT
    have NA:Below w9.heap.size w9 (w9.alloc (.cells #[.int .i64 0,.int .i64 0] 98)).drew:=(zB _ _).drew
    have zb0:=Vm.below NA
    have zNA:(w9.alloc (.cells #[.int .i64 0,.int .i64 0] 98)).drew.heap.size=w9.heap.size+1:=by simp
    have hB9:B6<=(w9.alloc (.cells #[.int .i64 0,.int .i64 0] 98)).drew.heap.size:=by omega
    have HE4:Hid (∀v' w',zj B6 w' v' (C0.zg ++ [(0,0)])->(w9.alloc (.cells #[.int .i64 0,.int .i64 0] 98)).drew.grownBy w' (Value.slice aT C0.zg.length cT).ownBlock->(v'.ownBlock=(Value.slice aT C0.zg.length cT).ownBlock\/v'.ownBlock=some (w9.alloc (.cells #[.int .i64 0,.int .i64 0] 98)).drew.heap.size)->(w'.cell? ⟨gc,oc+2,none⟩=some (.slice aT C0.zg.length cT)/\w'.frozen? ⟨gc,oc+2,none⟩=false/\w'.cell? ⟨w3.heap.size,0,none⟩=some (.slice (some ⟨gc,oc,none⟩) H.za.length kc6))/\DH w b a len zp (p1+1+1+1) W0.heap.size w1.heap.size w3.heap.size (.slice ap ms.length cp) ms (.slice (some ⟨gc,oc,none⟩) H.za.length kc6) (.slice a7 H.zl.length k7) {H with za:=H.za.set 0 {H.za[0] with zg:=C0.zg ++ [(0,0)]}} (w'.setCell ⟨gc,oc+2,none⟩ v')):=by
     intro v' w' hr' hg' hv'
     have hz':=hg'.size
     have hbl:∀q,q<w9.heap.size->(V6 0).1.ownBlock≠some q->w'.heap[q]?=w9.heap[q]?:=fun q h1 h2=>(hg'.block q (by omega) (fun e=>h2 (by rw[HT.out];exact e.symm))).trans (NA.block q h1)
     have XG:∀q,v'.ownBlock=some q->(V6 0).1.ownBlock=some q\/w9.heap.size<=q:=fun q e=>by
      rcases hv' with x | x
      ·exact .inl (by rw[HT.out,<-x];exact e)
      ·rw[x] at e;injection e with e;exact .inr (by omega)
     have hap:=OC.apart 0 (by omega)
     have hgn:(V6 0).1.ownBlock≠some gc:=fun e=>(hap gc (by rw[show Zv V6 0=(V6 0).1 from vz V6 0];exact e)).1 rfl
     have hgb:w'.heap[gc]?=w9.heap[gc]?:=hbl gc hgc' hgn
     have hbn:(V6 0).1.ownBlock≠some w3.heap.size:=fun e=>by have:=((OC.lists 0 h0c).1.lt _ e).1;omega
     have hbb:w'.heap[w3.heap.size]?=w9.heap[w3.heap.size]?:=hbl _ z9b hbn
     have PP:=zbk OC (j:=0) h0c v' (C0.zg ++ [(0,0)]) (by omega) hbl hr' XG
     simp only[Nat.zero_mul,Nat.add_zero] at PP
     have OP:=O9.put h0c PP
     have hB':Below w3.heap.size w9 (w'.setCell ⟨gc,oc+2,none⟩ v'):=((NA.mono (by omega)).grown hg' (by omega) (fun q e=>by have:=(Vm.lt q e).1;omega)).setCell (p:=⟨gc,oc+2,none⟩) (by show w3.heap.size<=gc;omega) _
     exact⟨⟨(World.cell?_of_block (a:=⟨gc,oc+2,none⟩) hgb).trans x2,(World.frozen?_of_block (a:=⟨gc,oc+2,none⟩) hgb).trans xf2,(World.cell?_of_block (a:=⟨w3.heap.size,0,none⟩) hbb).trans d0⟩,k9.re hB' (k9.R.of_block ((Below.heap_setCell _ _ _ _ (by show w3.heap.size≠gc;omega)).trans hbb)) (OP.stays hB6)⟩
    have bS:Hid (∀c'∈H.za.set 0 {H.za[0] with zg:=C0.zg ++ [(0,0)]},c'.zg.length<=6/\c'.ze.length<=6/\-1<=c'.zf/\c'.zf<(H.za.length:Int)):=HSET.out _ (by have:=HLT.out _ (List.getElem_mem h0c);rw[HC0.out] at this ⊢;simp only[List.length_append,List.length_singleton];omega)
    clear OC Vm
    go_wp2_with fail
    go_region_law (refine xT _ (by rfl) _ _ (by rfl) B6 _ _ C0.zg [(0,0)] (by rfl) (by rfl) zb0 (JK w9 0 0 _ _) (by simp;omega) (by simp;omega) ?_;intro v' w' zS hg hbk;obtain⟨a',c',hv',_⟩:=zS.slice;rw[List.length_append,List.length_singleton] at hv';subst hv';obtain⟨⟨z4,f4,zb⟩,kP⟩:=HE4.out _ w' zS hg hbk)
    all_goals
     have hE:∃(av as':Option Addr) (nv kv ns' ks':Nat) (h':Hp),DH w b a len zp (p1+1+1+1) W0.heap.size w1.heap.size w3.heap.size (.slice ap ms.length cp) ms (.slice av nv kv) (.slice as' ns' ks') h' (w'.setCell ⟨gc,oc+2,none⟩ (.slice a' (C0.zg.length+1) c'))/\jG h':=⟨_,_,_,_,_,_,_,kP,uo H.za.length (by simp) Vl (by show H.zl.length<=100;omega) bS.out hnw.1 (by show H.now<=(H.za.length:Int);omega) HFW.out⟩
     go_wp2_with fail
     go_meet
     obtain⟨av,as',nv,kv,ns',ks',h',kz,bz⟩:=hE
     exact⟨p1+1+1+1,av,as',nv,kv,ns',ks',h',by omega,by omega,kz,bz⟩
   have ex_4:(u == 4)=false:=zG.2 hu_4
   by_cases hu_5:u=5
   ·subst hu_5
    have PP:=uL OC (j:=0) h0c 4 (.int .i64 ((H.za.length:Int) - 1)) {H.za[0] with zf:=(H.za.length:Int) - 1} (by omega) rfl rfl rfl (by first | rfl | simp) (by first | rfl | simp) (by first | rfl | simp)
    simp only[Nat.zero_mul,Nat.add_zero] at PP
    have OP:=O9.put h0c PP
    have hne:w3.heap.size≠gc:=by omega
    have kP:DH w b a len zp (p1+1+1+1) W0.heap.size w1.heap.size w3.heap.size (.slice ap ms.length cp) ms (.slice (some ⟨gc,oc,none⟩) H.za.length kc6) (.slice a7 H.zl.length k7) {H with za:=H.za.set 0 {H.za[0] with zf:=(H.za.length:Int) - 1}} (w9.setCell ⟨gc,oc+4,none⟩ (.int .i64 ((H.za.length:Int) - 1))):=k9.re (zC.setCell (p:=⟨gc,oc+4,none⟩) (by show w3.heap.size<=gc;omega) _) (k9.R.of_block (Below.heap_setCell _ _ _ _ hne)) (OP.stays hB6)
    have bS:Hid (∀c'∈H.za.set 0 {H.za[0] with zf:=(H.za.length:Int) - 1},c'.zg.length<=6/\c'.ze.length<=6/\-1<=c'.zf/\c'.zf<(H.za.length:Int)):=HSET.out _ (by rw[HC0.out];dsimp only;omega)
    clear OP PP OC
    have hE:∃(av as':Option Addr) (nv kv ns' ks':Nat) (h':Hp),DH w b a len zp (p1+1+1+1) W0.heap.size w1.heap.size w3.heap.size (.slice ap ms.length cp) ms (.slice av nv kv) (.slice as' ns' ks') h' (w9.setCell ⟨gc,oc+4,none⟩ (.int .i64 ((H.za.length:Int) - 1)))/\jG h':=⟨_,_,_,_,_,_,_,kP,uo H.za.length (by simp) Vl (by show H.zl.length<=100;omega) bS.out hnw.1 (by show H.now<=(H.za.length:Int);omega) HFW.out⟩
    go_wp2_with fail
    go_meet
    obtain⟨av,as',nv,kv,ns',ks',h',kz,bz⟩:=hE
    exact⟨p1+1+1+1,av,as',nv,kv,ns',ks',h',by omega,by omega,kz,bz⟩
   have ex_5:(u == 5)=false:=zG.2 hu_5
   by_cases hu_6:u=6
   ·subst hu_6
    have NA:Below w9.heap.size w9 (w9.alloc (.cells #[.int .i64 2,.int .i64 9] 98)):=zB _ _
    have zb0:=O9.s.below NA
    have zNA:(w9.alloc (.cells #[.int .i64 2,.int .i64 9] 98)).heap.size=w9.heap.size+1:=by simp
    have HE4:Hid (∀v' w',zj B6 w' v' (H.zl ++ [(2,9)])->(w9.alloc (.cells #[.int .i64 2,.int .i64 9] 98)).grownBy w' (Value.slice a7 H.zl.length k7).ownBlock->(v'.ownBlock=(Value.slice a7 H.zl.length k7).ownBlock\/v'.ownBlock=some (w9.alloc (.cells #[.int .i64 2,.int .i64 9] 98)).heap.size)->(w'.cell? ⟨w3.heap.size,3,none⟩=some (.slice a7 H.zl.length k7)/\w'.frozen? ⟨w3.heap.size,3,none⟩=false)/\DH w b a len zp (p1+1+1+1) W0.heap.size w1.heap.size w3.heap.size (.slice ap ms.length cp) ms (.slice (some ⟨gc,oc,none⟩) H.za.length kc6) v' {H with zl:=H.zl ++ [(2,9)]} (w'.setCell ⟨w3.heap.size,3,none⟩ v')):=by
     intro v' w' hr' hg' hv'
     have hz':=hg'.size
     have hbl:∀q,q<w9.heap.size->(Value.slice a7 H.zl.length k7).ownBlock≠some q->w'.heap[q]?=w9.heap[q]?:=fun q h1 h2=>(hg'.block q (by omega) (fun e=>h2 e.symm)).trans (NA.block q h1)
     have XG:∀q,v'.ownBlock=some q->(Value.slice a7 H.zl.length k7).ownBlock=some q\/w9.heap.size<=q:=fun q e=>by
      rcases hv' with x | x
      ·exact .inl (by rw[<-x];exact e)
      ·rw[x] at e;injection e with e;exact .inr (by omega)
     have hbn:(Value.slice a7 H.zl.length k7).ownBlock≠some w3.heap.size:=fun e=>by have:=(O9.s.lt _ e).1;omega
     have hbb:w'.heap[w3.heap.size]?=w9.heap[w3.heap.size]?:=hbl _ z9b hbn
     have OP:=(O9.say v' _ (by omega) hbl hr' XG).setLow (p:=⟨w3.heap.size,3,none⟩) (show w3.heap.size<B6 from hB6) v'
     have hB':Below w3.heap.size w9 (w'.setCell ⟨w3.heap.size,3,none⟩ v'):=((NA.mono (by omega)).grown hg' (by omega) (fun q e=>by have:=(O9.s.lt q e).1;omega)).setCell (p:=⟨w3.heap.size,3,none⟩) (show w3.heap.size<=w3.heap.size from Nat.le_refl _) _
     exact⟨⟨(World.cell?_of_block (a:=⟨w3.heap.size,3,none⟩) hbb).trans d3,(World.frozen?_of_block (a:=⟨w3.heap.size,3,none⟩) hbb).trans e3⟩,k9.re hB' (jD (k9.R.of_block hbb) v') (OP.stays hB6)⟩
    clear OC
    have oneA:=uh w9 2 9 98 1
    go_wp2_with (at_builtin;refine qM _ (by rfl) _ _ (by rfl) B6 _ _ H.zl [(2,9)] (by rfl) (by rfl) zb0 oneA (by simp;omega) (by simp;omega) ?_;intro v' w' zS hg hbk;obtain⟨a',c',hv',_⟩:=zS.slice;rw[List.length_append,List.length_singleton] at hv';subst hv';obtain⟨⟨z4,f4⟩,kP⟩:=HE4.out _ w' zS hg hbk)
    have hE:∃(av as':Option Addr) (nv kv ns' ks':Nat) (h':Hp),DH w b a len zp (p1+1+1+1) W0.heap.size w1.heap.size w3.heap.size (.slice ap ms.length cp) ms (.slice av nv kv) (.slice as' ns' ks') h' (w'.setCell ⟨w3.heap.size,3,none⟩ (.slice a' (H.zl.length+1) c'))/\jG h':=⟨_,_,_,_,_,_,_,kP,uo H.za.length rfl Vl (by simp;omega) HTS.out hnw.1 (by show H.now<=(H.za.length:Int);omega) (zbK HFW.out ⟨by decide,by decide,by decide,by decide⟩)⟩
    go_wp2_with fail
    go_meet
    obtain⟨av,as',nv,kv,ns',ks',h',kz,bz⟩:=hE
    exact⟨p1+1+1+1,av,as',nv,kv,ns',ks',h',by omega,by omega,kz,bz⟩
   have ex_6:(u == 6)=false:=zG.2 hu_6
   have hrl:H.za.length<=kc6:=by
    rcases OC.row with⟨h1,_⟩ | ⟨_,_,kk,hv,_,_,hl,_⟩
    ·cases h1
    ·injection hv with _ _ e;omega
   clear OC
   by_cases hk1:kc6=1
   ·subst hk1
    have kP:DH w b a len zp (p1+1+1+1) W0.heap.size w1.heap.size w3.heap.size (.slice ap ms.length cp) ms (.slice (some ⟨gc,oc,none⟩) 0 0) (.slice a7 H.zl.length k7) {H with za:=H.za.drop 1} (w9.setCell ⟨w3.heap.size,0,none⟩ (.slice (some ⟨gc,oc,none⟩) 0 0)):=k9.re (zC.setCell (p:=⟨w3.heap.size,0,none⟩) zD _) (jj k9.R _) fun w'' e1 e2=>by
     have hzz:(w9.setCell ⟨w3.heap.size,0,none⟩ (.slice (some ⟨gc,oc,none⟩) 0 0)).heap.size=w9.heap.size:=by simp[World.setCell]
     have HX:=k9.hx w'' (by omega) fun g y1 y2=>(e2 g y1 (by omega)).trans (Below.heap_setCell _ _ _ _ (by show g≠w3.heap.size;omega))
     have hl1:H.za.length=1:=by omega
     have hdr:H.za.drop 1=[]:=List.drop_eq_nil_of_le (by omega)
     refine⟨?_,HX.s,HX.r⟩
     show qo w'' _ (H.za.drop 1)
     rw[hdr]
     exact⟨some ⟨gc,oc,none⟩,0,rfl,Nat.zero_le _,fun _ hi=>absurd hi zF⟩
    have hE:∃(av as':Option Addr) (nv kv ns' ks':Nat) (h':Hp),DH w b a len zp (p1+1+1+1) W0.heap.size w1.heap.size w3.heap.size (.slice ap ms.length cp) ms (.slice av nv kv) (.slice as' ns' ks') h' (w9.setCell ⟨w3.heap.size,0,none⟩ (.slice (some ⟨gc,oc,none⟩) 0 0))/\jG h':=⟨_,_,_,_,_,_,_,kP,KB GD.out DN.out (by omega) HTS.out⟩
    go_wp2_with fail
    go_meet
    obtain⟨av,as',nv,kv,ns',ks',h',kz,bz⟩:=hE
    exact⟨p1+1+1+1,av,as',nv,kv,ns',ks',h',by omega,by omega,kz,bz⟩
   ·have hk2:1<kc6:=by omega
    have kP:DH w b a len zp (p1+1+1+1) W0.heap.size w1.heap.size w3.heap.size (.slice ap ms.length cp) ms (.slice (some ⟨gc,oc+6,none⟩) (H.za.length - 1) (kc6 - 1)) (.slice a7 H.zl.length k7) {H with za:=H.za.drop 1} (w9.setCell ⟨w3.heap.size,0,none⟩ (.slice (some ⟨gc,oc+6,none⟩) (H.za.length - 1) (kc6 - 1))):=k9.re (zC.setCell (p:=⟨w3.heap.size,0,none⟩) zD _) (jj k9.R _) fun w'' e1 e2=>by
     have hzz:(w9.setCell ⟨w3.heap.size,0,none⟩ (.slice (some ⟨gc,oc+6,none⟩) (H.za.length - 1) (kc6 - 1))).heap.size=w9.heap.size:=by simp[World.setCell]
     have HX:=k9.hx w'' (by omega) fun g y1 y2=>(e2 g y1 (by omega)).trans (Below.heap_setCell _ _ _ _ (by show g≠w3.heap.size;omega))
     exact⟨HX.c.tail (by omega) _,HX.s,HX.r⟩
    have hE:∃(av as':Option Addr) (nv kv ns' ks':Nat) (h':Hp),DH w b a len zp (p1+1+1+1) W0.heap.size w1.heap.size w3.heap.size (.slice ap ms.length cp) ms (.slice av nv kv) (.slice as' ns' ks') h' (w9.setCell ⟨w3.heap.size,0,none⟩ (.slice (some ⟨gc,oc+6,none⟩) (H.za.length - 1) (kc6 - 1)))/\jG h':=⟨_,_,_,_,_,_,_,kP,KB GD.out DN.out (by omega) HTS.out⟩
    go_wp2_with fail
    go_meet
    obtain⟨av,as',nv,kv,ns',ks',h',kz,bz⟩:=hE
    exact⟨p1+1+1+1,av,as',nv,kv,ns',ks',h',by omega,by omega,kz,bz⟩
theorem Uz (w:World) (b:Nat) (a:Option Addr) (len zp p:Nat) (hr:Rd w b a len zp p) (hp:p+410<=1000000) :
 Calls Tryz.prog 42 #[.pointer (some ⟨b,0,none⟩)] w fun e w'=>∃(v vc vs:Value) (ms:List MM) (h:Hp) (p':Nat),e=.returned (.tuple #[.agg #[v],.agg (yn vc vs h)])/\ki w.heap.size w' (fun x=>yy x v (zQ ms)/\qa x vc vs h)/\yt (zQ ms)=true/\jG h/\p<=p'/\p'<=p+410/\Rd w' b a len zp p'/\w.grownBy w' (some b):=by
 refine(Vu w b a len zp p hr hp).mono ?_
 rintro e w' ⟨v,vc,vs,ms,h,p',rfl,st,rest⟩
 exact⟨v,vc,vs,ms,h,p',rfl,st.imp fun _ k=>⟨k.1,k.2.at⟩,rest⟩
structure zaP (B:Nat) (w:World) (v vc vs:Value) (ms:zM) (h:Hp):Prop where
 st:ki B w (fun x=>yy x v ms/\qa x vc vs h)
 ok:yt ms=true
 fine:jG h
theorem zaR {w wx:World} {B:Nat} {P:World->Prop} (rp:wx.rowIs w.heap.size 25 1 (fun _=>.slice none 0 0)) (rh:wx.rowIs (w.heap.size+1) 29 5 (jQ (.slice none 0 0) (.int .i64 0) (.int .i64 0) (.slice none 0 0) (.int .i64 0)))
 (st:ki B wx P) (hB:w.heap.size+1<B) (hw:Below w.heap.size w wx) (vp vc vs:Value) (x1 x2 x4:Int) :
 ∃WF:World,WF=((((((wx.setCell ⟨w.heap.size,0,none⟩ vp).setCell ⟨w.heap.size+1,0,none⟩ vc).setCell ⟨w.heap.size+1,1,none⟩ (.int .i64 x1)).setCell ⟨w.heap.size+1,2,none⟩ (.int .i64 x2)).setCell ⟨w.heap.size+1,3,none⟩ vs).setCell ⟨w.heap.size+1,4,none⟩ (.int .i64 x4)) /\
  WF.cell? ⟨w.heap.size,0,none⟩=some vp/\WF.rowIs (w.heap.size+1) 29 5 (jQ vc (.int .i64 x1) (.int .i64 x2) vs (.int .i64 x4))/\ki w.heap.size WF P/\Below w.heap.size w WF:=by
 have k1:=yP wx w.heap.size 0 vp
 have k2:=zK (zK (zK (zK (yP (wx.setCell ⟨w.heap.size,0,none⟩ vp) (w.heap.size+1) 0 vc) (yP _ (w.heap.size+1) 1 (.int .i64 x1))) (yP _ (w.heap.size+1) 2 (.int .i64 x2))) (yP _ (w.heap.size+1) 3 vs)) (yP _ (w.heap.size+1) 4 (.int .i64 x4))
 refine⟨_,rfl,k2.cell (World.cell?_setCell_same wx ⟨w.heap.size,0,none⟩ vp (rp.cell (i:=0) (by decide))) (by intro e;simp at e),j9 (jD (jC (j8 (jj (yq rh k1 (by intro e;injection e with e;omega)) vc) (.int .i64 x1)) (.int .i64 x2)) vs) (.int .i64 x4),((st.grown k1 (by omega)).grown k2 hB).mono (by omega),?_⟩
 have hz:=hw.size
 exact(hw.grown k1 (by omega) (fun q e=>by cases e;omega)).grown k2 (by have:=k1.size;omega) (fun q e=>by cases e;omega)
set_option maxRecDepth 100000 in
set_option maxHeartbeats 4000000 in
theorem Jk (w:World) (a:Option Addr) (len zp:Nat) (h:BytesAt w a len zp) :
 Calls Tryz.prog 20 #[.slice a len zp] w fun e w'=>∃(v vc vs:Value) (ms:zM) (H:Hp) (R C:Int),e=.returned (.tuple #[.agg #[v],.agg (yn vc vs H),.int .i64 R,.int .i64 C])/\(-1<=R/\R<=6)/\(0<=C/\C<=61)/\zaP w.heap.size w' v vc vs ms H/\Below w.heap.size w w':=by
 have hA:Below w.heap.size w ((w.alloc (.cells #[.slice none 0 0] 25)).alloc (.cells #[.slice none 0 0,.int .i64 0,.int .i64 0,.slice none 0 0,.int .i64 0] 29)):=(zB _ _).alloc (by simp) _
 have rA:=(wy w (.slice none 0 0)).alloc (.cells #[.slice none 0 0,.int .i64 0,.int .i64 0,.slice none 0 0,.int .i64 0] 29)
 have sA:=qG (w.alloc (.cells #[.slice none 0 0] 25)) 29 (.slice none 0 0) (.int .i64 0) (.int .i64 0) (.slice none 0 0) (.int .i64 0)
 have zA:((w.alloc (.cells #[.slice none 0 0] 25)).alloc (.cells #[.slice none 0 0,.int .i64 0,.int .i64 0,.slice none 0 0,.int .i64 0] 29)).heap.size=w.heap.size+2:=by simp
 simp only[World.size_alloc] at sA
 go_enter Tryz.func20,Tryz.ntmps20
 go_wp2_with fail
 generalize (w.alloc (.cells #[.slice none 0 0] 25)).alloc (.cells #[.slice none 0 0,.int .i64 0,.int .i64 0,.slice none 0 0,.int .i64 0] 29)=W1 at *
 refine(WM _ a len zp (h.below hA)).mono ?_
 rintro e w2 ⟨n,rfl,hr2,z2,hb2⟩
 have r2:=yq rA (qA hb2 none) (by simp)
 have s2:=yq sA (qA hb2 none) (by simp)
 have B2:Below w.heap.size w w2:=hA.trans (hb2.mono (by omega))
 clear hA rA sA hb2
 rw[zA] at hr2 ⊢
 go_wp2_with fail
 refine(Uz _ _ _ _ _ _ hr2 (by omega)).mono ?_
 rintro e w3 ⟨v,vc,vs,ms,H,p3,rfl,st3,ok3,fi3,hq3,hq3',hr3,hg3⟩
 have r3:=yq r2 hg3 (by intro e;injection e with e;omega)
 have s3:=yq s2 hg3 (by intro e;injection e with e;omega)
 have B3:Below w.heap.size w w3:=B2.grown hg3 (by omega) (fun k e=>by cases e;omega)
 have z3:=hg3.size
 obtain⟨hM,hH⟩:=st3.here
 obtain⟨aV,cV,WK,_⟩:=id hM
 obtain⟨ac,kc,Yq⟩:=hH.c.shape
 obtain⟨aD,kD,hvs⟩:=hH.s.shape
 subst WK Yq hvs
 clear hM hH hr2 r2 s2 B2 hg3
 have HFI:Hid (jG H):=fi3
 have HST:Hid (ki w2.heap.size w3 (fun x=>yy x (.slice aV (zQ ms).length cV) (zQ ms)/\qa x (.slice ac H.za.length kc) (.slice aD H.zl.length kD) H)):=st3
 unfold yn
 have HOK:Hid (yt (zQ ms)=true):=ok3
 clear fi3 st3 ok3
 have z2':w2.heap.size=w.heap.size+3:=by omega
 generalize zQ ms=MS at *
 go_upto_region 3 with fail
 have N4:Below w3.heap.size w3 ((w3.alloc (.cells #[.slice aV MS.length cV] 25)).alloc (.cells #[.slice ac H.za.length kc,.int .i64 H.now,.int .i64 H.born,.slice aD H.zl.length kD,.int .i64 H.code] 29)):=(zB _ _).alloc (by simp) _
 have rb4:=(wy w3 (.slice aV MS.length cV)).alloc (.cells #[.slice ac H.za.length kc,.int .i64 H.now,.int .i64 H.born,.slice aD H.zl.length kD,.int .i64 H.code] 29)
 have rh4:=qG (w3.alloc (.cells #[.slice aV MS.length cV] 25)) 29 (.slice ac H.za.length kc) (.int .i64 H.now) (.int .i64 H.born) (.slice aD H.zl.length kD) (.int .i64 H.code)
 have hr4:=(hr3.alloc (.cells #[.slice aV MS.length cV] 25)).alloc (.cells #[.slice ac H.za.length kc,.int .i64 H.now,.int .i64 H.born,.slice aD H.zl.length kD,.int .i64 H.code] 29)
 simp only[World.size_alloc] at rh4
 generalize (w3.alloc (.cells #[.slice aV MS.length cV] 25)).alloc (.cells #[.slice ac H.za.length kc,.int .i64 H.now,.int .i64 H.born,.slice aD H.zl.length kD,.int .i64 H.code] 29)=W4 at *
 have st4:=HST.out.below N4
 have r4:=zz N4 r3
 have s4:=zz N4 s3
 have B4:=B3.trans (N4.mono (by omega))
 have z4:=N4.size
 clear HST r3 s3 B3 N4 hr3
 go_wp2_with fail
 refine(Vv _ _ _ _ _ _ hr4 (by omega)).mono ?_
 rintro e w5 ⟨R,C,rfl,hR,hC,hr5,hg5⟩
 have st5:=st4.grown hg5 (by omega)
 have r5:=yq r4 hg5 (by intro e;injection e with e;omega)
 have s5:=yq s4 hg5 (by intro e;injection e with e;omega)
 have rb5:=yq rb4 hg5 (by intro e;injection e with e;omega)
 have rh5:=yq rh4 hg5 (by intro e;injection e with e;omega)
 have B5:Below w.heap.size w w5:=B4.grown hg5 (by omega) (fun k e=>by cases e;omega)
 have z5:=hg5.size
 clear hr4 r4 s4 rb4 rh4 B4 hg5 st4
 have HST:Hid (ki w2.heap.size w5 (fun x=>yy x (.slice aV MS.length cV) MS/\qa x (.slice ac H.za.length kc) (.slice aD H.zl.length kD) H)):=st5
 clear st5
 obtain⟨WF,hWF,f1,f2,f3,f4⟩:=zaR r5 s5 HST.out (by omega) B5 (.slice aV MS.length cV) (.slice ac H.za.length kc) (.slice aD H.zl.length kD) H.now H.born H.code
 have cb:=rb5.cell (i:=0) (by decide)
 obtain⟨⟨d0,d1,d2,d3,d4⟩,_⟩:=zJ rh5
 have cp0:=r5.cell (i:=0) (by decide)
 have cpf:=r5.frozen 0
 obtain⟨⟨c0,c1,c2,c3,c4⟩,cf0,cf1,cf2,cf3,cf4⟩:=zJ s5
 go_wp2_with fail
 go_region
 all_goals
  rw[<-hWF]
  obtain⟨⟨q0,q1,q2,q3,q4⟩,_⟩:=zJ f2
  clear hWF cb d0 d1 d2 d3 d4 cp0 cpf c0 c1 c2 c3 c4 cf0 cf1 cf2 cf3 cf4
  go_wp2
  exact bodyPost_ret (v:=.tuple #[.agg #[.slice aV MS.length cV],.agg #[.slice ac H.za.length kc,.int .i64 H.now,.int .i64 H.born,.slice aD H.zl.length kD,.int .i64 H.code],.int .i64 R,.int .i64 C]) (by simp[results,Tryz.results20,go_sem,f1,q0,q1,q2,q3,q4]) rfl ⟨_,_,_,MS,H,R,C,rfl,hR,hC,⟨f3,HOK.out,HFI.out⟩,f4.drew⟩
end Go.Proofs.YtjbgpcileapogaaGreat
