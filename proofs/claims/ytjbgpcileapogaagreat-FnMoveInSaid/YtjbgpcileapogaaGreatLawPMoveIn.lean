/-
  The law FnMoveIn, walked: whatever bytes come in, it answers true and writes to nothing that was there. (Written by mklpmi.py.)
-/
import Derived.Test.YtjbgpcileapogaaGreatDrawHeap
import Derived.Test.YtjbgpcileapogaaGreatMInS3
namespace Go.Proofs.YtjbgpcileapogaaGreat
open Go.RowKit
theorem bx5m {w:World} {g:Nat} {t:TypeId} {x0 x1 x2 x3 x4:Value} (h:Bx w g t [x0,x1,x2,x3,x4]) :
 w.cell? ⟨g,0,none⟩=some x0/\w.cell? ⟨g,1,none⟩=some x1/\w.cell? ⟨g,2,none⟩=some x2/\w.cell? ⟨g,3,none⟩=some x3/\w.cell? ⟨g,4,none⟩=some x4 :=
 ⟨h.cell 0 rfl,h.cell 1 rfl,h.cell 2 rfl,h.cell 3 rfl,h.cell 4 rfl⟩
set_option maxRecDepth 100000 in
set_option maxHeartbeats 4000000 in
theorem XL (w:World) (a:Option Addr) (len zp:Nat) (h:BytesAt w a len zp) :
 Calls Tryz.prog 5 #[.slice a len zp] w fun e w'=>e=.returned (.bool true)/\Below w.heap.size w w':=by
 have hc:=h.1
 have hm:=h.2.1
 unfold maxLen at hm
 have HB:Hid (BytesAt w a len zp):=h
 clear h
 by_cases hl:1048576<len
 ·have hlz:(1048576:Int)<(len:Int):=by omega
  go_enter Tryz.func5,Tryz.ntmps5
  go_wp2
  go_ret
  exact⟨rfl,zC⟩
 have hlz:(len:Int)<=1048576:=by omega
 go_enter Tryz.func5,Tryz.ntmps5
 go_wp2_with fail
 refine(Jk _ a len zp HB.out).mono ?_
 rintro e w1 ⟨v,vc,vs,ms,H,r,c,rfl,hR,hC,hD,B1⟩
 obtain⟨hM1,hH1⟩:=hD.st.here
 have l30:=hD.fine.l30
 have sd100:=hD.fine.sd
 obtain⟨aV,cV,WK,_⟩:=id hM1
 obtain⟨ac,kc,Yq⟩:=hH1.c.shape
 obtain⟨aD,kD,hvs⟩:=hH1.s.shape
 subst WK Yq hvs
 clear HB hD
 unfold yn
 go_upto_region 4 with fail
 have z1:=B1.size
 refine ye (fun W=>Below w.heap.size w W/\Bx W w1.heap.size 25 [.slice aV ms.length cV]/\yy W (.slice aV ms.length cV) ms/\Bx W (w1.heap.size+1) 29 [.slice ac H.za.length kc,.int .i64 H.now,.int .i64 H.born,.slice aD H.zl.length kD,.int .i64 H.code]/\qa W (.slice ac H.za.length kc) (.slice aD H.zl.length kD) H) ?_ ?_
 ·have N:=((zB w1 (.cells #[.slice aV ms.length cV] 25)).alloc (by simp) (.cells #[.slice ac H.za.length kc,.int .i64 H.now,.int .i64 H.born,.slice aD H.zl.length kD,.int .i64 H.code] 29))
  exact⟨B1.trans (N.mono z1),(Bx.new _ _ _).alloc _,hM1.below N,Bx.newAt _ _ _ (by simp),hH1.below N⟩
 rintro w2 ⟨B2,x2,M2,g2,H2⟩
 have p0:=x2.cell 0 rfl
 obtain⟨d0,d1,d2,d3,d4⟩:=bx5m g2
 have z2:=B2.size
 obtain⟨M,hM⟩:∃M,u9 ms H r c=M:=⟨_,rfl⟩
 obtain⟨ok,hok⟩:∃ok,(ym ms H && yQ r c)=ok:=⟨_,rfl⟩
 have HS:=JZ _ _ _ ms H r c w2 M2 H2 (by omega) (by omega)
 unfold yn at HS
 rw[hM,hok] at HS
 go_wp2_with fail
 refine HS.mono ?_
 rintro e w3 ⟨s1,s2,s3,s4,rfl,hF3,t3⟩
 have hS3:=hF3.here
 have B3:=B2.trans (t3.mono z2)
 have x3:=x2.below t3
 have M3:=M2.below t3
 have g3:=g2.below t3
 have H3:=H2.below t3
 have z3:=B3.size
 clear HS t3 x2 B2 M2 hF3 p0 z2 B1 hM1 hH1 g2 H2 d0 d1 d2 d3 d4
 obtain⟨aS1,cS1,eS1⟩:=(hS3).p.shape
 obtain⟨aS2,cS2,eS2⟩:=(hS3).o.shape
 obtain⟨aS3,cS3,eS3⟩:=(hS3).t.shape
 obtain⟨aS4,cS4,eS4⟩:=(hS3).s.shape
 subst eS1 eS2 eS3 eS4
 unfold zI
 go_upto_region 5 with fail
 refine ye (fun W=>Below w.heap.size w W/\Bx W w1.heap.size 25 [.slice aV ms.length cV]/\yy W (.slice aV ms.length cV) ms/\Bx W w3.heap.size 42 [.int .i64 M.cells,.slice aS1 M.zd.length cS1,.slice aS2 M.order.length cS2,.int .i64 M.now,.slice aS3 M.zh.length cS3,.int .i64 M.born,.slice aS4 M.zl.length cS4,.int .i64 M.code]/\yF W (.slice aS1 M.zd.length cS1) (.slice aS2 M.order.length cS2) (.slice aS3 M.zh.length cS3) (.slice aS4 M.zl.length cS4) M/\Bx W (w1.heap.size+1) 29 [.slice ac H.za.length kc,.int .i64 H.now,.int .i64 H.born,.slice aD H.zl.length kD,.int .i64 H.code]/\qa W (.slice ac H.za.length kc) (.slice aD H.zl.length kD) H) ⟨B3.alloc z3 _,x3.alloc _,M3.below (zB _ _),Bx.new _ _ _,hS3.below (zB _ _),g3.alloc _,H3.below (zB _ _)⟩ ?_
 rintro w4 ⟨B4,x4,M4,y4,S4,g4,H4⟩
 have p0:=x4.cell 0 rfl
 obtain⟨d0,d1,d2,d3,d4⟩:=bx5m g4
 have z4:=B4.size
 have HI:=XH _ _ _ ms H r c w4 M4 H4 (by omega) (by omega)
 unfold yn at HI
 rw[hM,hok] at HI
 clear x3 B3 M3 hS3 g3 H3
 go_wp2_with fail
 refine HI.mono ?_
 rintro e w5 ⟨i1,i2,i3,i4,rfl,hI5,t5⟩
 have B5:=B4.trans (t5.mono z4)
 have x5:=x4.below t5
 have M5:=M4.below t5
 have y5:=y4.below t5
 have S5:=S4.below t5
 have g5:=g4.below t5
 have H5:=H4.below t5
 have z5:=B5.size
 clear HI t5 x4 B4 M4 y4 S4 p0 z4 g4 H4 d0 d1 d2 d3 d4
 obtain⟨aI1,cI1,eI1⟩:=(hI5).p.shape
 obtain⟨aI2,cI2,eI2⟩:=(hI5).o.shape
 obtain⟨aI3,cI3,eI3⟩:=(hI5).t.shape
 obtain⟨aI4,cI4,eI4⟩:=(hI5).s.shape
 subst eI1 eI2 eI3 eI4
 unfold zI
 go_upto_region 6 with fail
 refine ye (fun W=>Below w.heap.size w W/\Bx W w1.heap.size 25 [.slice aV ms.length cV]/\yy W (.slice aV ms.length cV) ms/\Bx W w3.heap.size 42 [.int .i64 M.cells,.slice aS1 M.zd.length cS1,.slice aS2 M.order.length cS2,.int .i64 M.now,.slice aS3 M.zh.length cS3,.int .i64 M.born,.slice aS4 M.zl.length cS4,.int .i64 M.code]/\yF W (.slice aS1 M.zd.length cS1) (.slice aS2 M.order.length cS2) (.slice aS3 M.zh.length cS3) (.slice aS4 M.zl.length cS4) M/\Bx W w5.heap.size 42 [.int .i64 M.cells,.slice aI1 M.zd.length cI1,.slice aI2 M.order.length cI2,.int .i64 M.now,.slice aI3 M.zh.length cI3,.int .i64 M.born,.slice aI4 M.zl.length cI4,.int .i64 M.code]/\yF W (.slice aI1 M.zd.length cI1) (.slice aI2 M.order.length cI2) (.slice aI3 M.zh.length cI3) (.slice aI4 M.zl.length cI4) M/\Bx W (w1.heap.size+1) 29 [.slice ac H.za.length kc,.int .i64 H.now,.int .i64 H.born,.slice aD H.zl.length kD,.int .i64 H.code]/\qa W (.slice ac H.za.length kc) (.slice aD H.zl.length kD) H) ⟨B5.alloc z5 _,x5.alloc _,M5.below (zB _ _),y5.alloc _,S5.below (zB _ _),Bx.new _ _ _,hI5.below (zB _ _),g5.alloc _,H5.below (zB _ _)⟩ ?_
 rintro w6 ⟨B6,x6,M6,y6,S6,q6,I6,g6,H6⟩
 have z6:=B6.size
 obtain⟨⟨u0,u1,u2,u3,u4,u5,u6,u7⟩,_⟩:=xy y6
 obtain⟨⟨v0,v1,v2,v3,v4,v5,v6,v7⟩,_⟩:=xy q6
 clear x5 B5 M5 y5 S5 hI5 g5 H5
 have HL:=Xl _ _ _ _ _ _ _ _ M w6 I6 S6
 unfold zI at HL
 go_wp2_with fail
 refine HL.mono ?_
 rintro e w7 ⟨rfl,t7⟩
 have B7:=B6.trans (t7.mono z6)
 have x7:=x6.below t7
 have M7:=M6.below t7
 have y7:=y6.below t7
 have S7:=S6.below t7
 have q7:=q6.below t7
 have I7:=I6.below t7
 have g7:=g6.below t7
 have H7:=H6.below t7
 have z7:=B7.size
 clear HL t7 x6 B6 M6 y6 S6 q6 I6 g6 H6 u0 u1 u2 u3 u4 u5 u6 u7 v0 v1 v2 v3 v4 v5 v6 v7
 obtain⟨⟨u0,u1,u2,u3,u4,u5,u6,u7⟩,_⟩:=xy y7
 obtain⟨⟨v0,v1,v2,v3,v4,v5,v6,v7⟩,_⟩:=xy q7
 cases ok
 ·have HL:=Xl _ _ _ _ _ _ _ _ M w7 I7 S7
  unfold zI at HL
  go_wp2_with fail
  refine HL.mono ?_
  rintro e w8 ⟨rfl,t8⟩
  have B8:=B7.trans (t8.mono z7)
  go_wp2
  go_ret
  exact⟨rfl,B8⟩
 obtain⟨hp,hr⟩:=Bool.and_eq_true_iff.1 hok
 have GD:=kx.1 hp
 obtain⟨hr1,hr4,hc1,hc4⟩:=xp hr
 obtain⟨n,rfl⟩:=Int.eq_ofNat_of_zero_le (show 0<=r by omega)
 have hn:1<=n/\n<=4:=by omega
 have hMe:M=ko H n c:=by rw[<-hM];unfold u9;rw[if_pos hok];rfl
 have hpl:M.zd.length=n:=by rw[hMe];exact WS H n c
 have hok2:jq ms M=true:=by rw[hMe];exact zaF GD hr
 have htl:YK M:=by rw[hMe];exact WV GD hr
 have htd:zaQ M:=by rw[hMe];exact zba GD hr
 have hvw:j5 (yW M)=j5 H:=by rw[hMe];exact zbb GD hn.1
 have Z3:M.zh.length=H.za.length:=by rw[hMe];exact WW H n c
 have hfr:zY M.zd<=1:=by rw[hMe];exact UJ GD hr
 have hsh:(yW M).short:=by rw[hMe];exact WT GD hr
 have hsm:M.small:=by rw[hMe];exact WU GD hr (by omega)
 have hHs:H.short:=(ww hp).sh
 clear hM hMe hok hp hr GD
 obtain⟨w9,hw9⟩:∃X,X=w7:=⟨_,rfl⟩
 subst hw9
 have z9:=B7.size
 have B9:=B7
 have x9:=x7
 have M9:=M7
 have q9:=q7
 have I9:=I7
 have h9:=g7
 have H9:=H7
 clear B7 x7 M7 q7 I7 g7 H7 y7 S7 u0 u1 u2 u3 u4 u5 u6 u7 v0 v1 v2 v3 v4 v5 v6 v7
 have N9:Below w9.heap.size w9 w9.drew:=zC.drew
 have BD:Below w.heap.size w w9.drew:=B9.drew
 have zV:w.heap.size<=w9.drew.heap.size:=z9
 have xV:=x9.below N9
 have MV:=M9.below N9
 have qV:=q9.below N9
 have IV:=I9.below N9
 have hV9:=h9.below N9
 have HV:=H9.below N9
 have HB:Hid (Below w.heap.size w w9.drew):=BD
 clear B9 x9 M9 q9 I9 h9 H9 N9 BD
 have KC:∀X,Below w9.drew.heap.size w9.drew X->Hid (X.cell? ⟨w1.heap.size,0,none⟩=some (.slice aV ms.length cV)/\X.cell? ⟨w5.heap.size,0,none⟩=some (.int .i64 M.cells)/\X.cell? ⟨w5.heap.size,1,none⟩=some (.slice aI1 M.zd.length cI1)/\X.cell? ⟨w5.heap.size,2,none⟩=some (.slice aI2 M.order.length cI2)/\X.cell? ⟨w5.heap.size,3,none⟩=some (.int .i64 M.now)/\X.cell? ⟨w5.heap.size,4,none⟩=some (.slice aI3 M.zh.length cI3)/\X.cell? ⟨w5.heap.size,5,none⟩=some (.int .i64 M.born)/\X.cell? ⟨w5.heap.size,6,none⟩=some (.slice aI4 M.zl.length cI4)/\X.cell? ⟨w5.heap.size,7,none⟩=some (.int .i64 M.code)/\X.cell? ⟨w1.heap.size+1,0,none⟩=some (.slice ac H.za.length kc)/\X.cell? ⟨w1.heap.size+1,1,none⟩=some (.int .i64 H.now)/\X.cell? ⟨w1.heap.size+1,2,none⟩=some (.int .i64 H.born)/\X.cell? ⟨w1.heap.size+1,3,none⟩=some (.slice aD H.zl.length kD)/\X.cell? ⟨w1.heap.size+1,4,none⟩=some (.int .i64 H.code)):=fun X hX=>⟨(xV.below hX).cell 0 rfl,(qV.below hX).cell 0 rfl,(qV.below hX).cell 1 rfl,(qV.below hX).cell 2 rfl,(qV.below hX).cell 3 rfl,(qV.below hX).cell 4 rfl,(qV.below hX).cell 5 rfl,(qV.below hX).cell 6 rfl,(qV.below hX).cell 7 rfl,(hV9.below hX).cell 0 rfl,(hV9.below hX).cell 1 rfl,(hV9.below hX).cell 2 rfl,(hV9.below hX).cell 3 rfl,(hV9.below hX).cell 4 rfl⟩
 have C1:∀X,Below w9.drew.heap.size w9.drew X->Calls Tryz.prog 23 #[.agg #[.slice aV ms.length cV],.agg #[.int .i64 M.cells,.slice aI1 M.zd.length cI1,.slice aI2 M.order.length cI2,.int .i64 M.now,.slice aI3 M.zh.length cI3,.int .i64 M.born,.slice aI4 M.zl.length cI4,.int .i64 M.code]] X fun e w'=>e=.returned (.bool true)/\Below X.heap.size X w':=fun X hX=>by
  have:=Jx _ ms _ _ _ _ M X (MV.below hX) (IV.below hX) hsm (by omega)
  rw[hok2] at this
  exact this
 have C2:∀X,Below w9.drew.heap.size w9.drew X->Calls Tryz.prog 25 #[.agg #[.int .i64 M.cells,.slice aI1 M.zd.length cI1,.slice aI2 M.order.length cI2,.int .i64 M.now,.slice aI3 M.zh.length cI3,.int .i64 M.born,.slice aI4 M.zl.length cI4,.int .i64 M.code]] X fun e w'=>∃aM kM,e=.returned (.slice aM (j5 H).length kM)/\qo w' (.slice aM (j5 H).length kM) (j5 H)/\Below X.heap.size X w':=fun X hX=>by
  have:=QF _ _ _ _ M X (IV.below hX) htl htd (by omega) (by omega) hsh
  rw[hvw] at this
  refine this.mono ?_
  rintro e wM ⟨⟨vM,VM,rfl,hOM⟩,hbM⟩
  have hAM:=hOM.at
  obtain⟨aM,kM,hvM⟩:=hAM.shape
  subst hvM
  exact⟨aM,kM,rfl,hAM,hbM⟩
 have C3:∀X,Below w9.drew.heap.size w9.drew X->Calls Tryz.prog 26 #[.agg #[.slice ac H.za.length kc,.int .i64 H.now,.int .i64 H.born,.slice aD H.zl.length kD,.int .i64 H.code]] X fun e w'=>∃aM kM,e=.returned (.slice aM (j5 H).length kM)/\qo w' (.slice aM (j5 H).length kM) (j5 H)/\Below X.heap.size X w':=fun X hX=>by
  have:=QE _ _ H X (HV.below hX) hHs (by omega)
  unfold yn at this
  refine this.mono ?_
  rintro e wM ⟨⟨vM,VM,rfl,hOM⟩,hbM⟩
  have hAM:=hOM.at
  obtain⟨aM,kM,hvM⟩:=hAM.shape
  subst hvM
  exact⟨aM,kM,rfl,hAM,hbM⟩
 have C5:∀X,Below w9.drew.heap.size w9.drew X->Calls Tryz.prog 27 #[.agg #[.int .i64 M.cells,.slice aI1 M.zd.length cI1,.slice aI2 M.order.length cI2,.int .i64 M.now,.slice aI3 M.zh.length cI3,.int .i64 M.born,.slice aI4 M.zl.length cI4,.int .i64 M.code]] X fun e w'=>e=.returned (.int .i64 (zY M.zd:Int))/\Below X.heap.size X w':=fun X hX=>uG _ _ _ _ M X (IV.below hX) (by omega) (by omega)
 have hfz:(zY M.zd:Int)<=1:=by omega
 have D0:=KC w9.drew zC
 clear hok2 htl htd hvw Z3 hsh hsm hHs xV qV hV9 MV IV HV hpl
 obtain⟨fN,hfN⟩:∃q,zY M.zd=q:=⟨_,rfl⟩
 rw[hfN] at C5 hfz
 clear hfr hfN
 go_wp2_with fail
 go_region_held3 (fun w'=>w'.cell? ⟨w1.heap.size,0,none⟩=some (.slice aV ms.length cV)/\w'.cell? ⟨w5.heap.size,0,none⟩=some (.int .i64 M.cells)/\w'.cell? ⟨w5.heap.size,1,none⟩=some (.slice aI1 M.zd.length cI1)/\w'.cell? ⟨w5.heap.size,2,none⟩=some (.slice aI2 M.order.length cI2)/\w'.cell? ⟨w5.heap.size,3,none⟩=some (.int .i64 M.now)/\w'.cell? ⟨w5.heap.size,4,none⟩=some (.slice aI3 M.zh.length cI3)/\w'.cell? ⟨w5.heap.size,5,none⟩=some (.int .i64 M.born)/\w'.cell? ⟨w5.heap.size,6,none⟩=some (.slice aI4 M.zl.length cI4)/\w'.cell? ⟨w5.heap.size,7,none⟩=some (.int .i64 M.code)/\w'.cell? ⟨w1.heap.size+1,0,none⟩=some (.slice ac H.za.length kc)/\w'.cell? ⟨w1.heap.size+1,1,none⟩=some (.int .i64 H.now)/\w'.cell? ⟨w1.heap.size+1,2,none⟩=some (.int .i64 H.born)/\w'.cell? ⟨w1.heap.size+1,3,none⟩=some (.slice aD H.zl.length kD)/\w'.cell? ⟨w1.heap.size+1,4,none⟩=some (.int .i64 H.code))
  (first | exact D5.out | exact D4.out | exact D3.out | exact D2.out | exact D1.out | exact D0.out | go_keep)
  ((first
   | (have hx:=h4;clear hx;go_at_call 27;refine(C5 _ h4).mono ?_;rintro e k5 ⟨rfl,t5⟩;have h5:=h4.trans (t5.mono h4.size);have D5:=KC _ h5)
   | (have hx:=h3;clear hx;go_at_call 24;refine(Vw _ _ (j5 H) _ (hA2.below t3) hA3).mono ?_;rintro e k4 ⟨rfl,t4⟩;have h4:=h3.trans (t4.mono h3.size);have D4:=KC _ h4)
   | (have hx:=h2;clear hx;go_at_call 26;refine(C3 _ h2).mono ?_;rintro e k3 ⟨aM3,kM3,rfl,hA3,t3⟩;have h3:=h2.trans (t3.mono h2.size);have D3:=KC _ h3)
   | (have hx:=h1;clear hx;go_at_call 25;refine(C2 _ h1).mono ?_;rintro e k2 ⟨aM2,kM2,rfl,hA2,t2⟩;have h2:=h1.trans (t2.mono h1.size);have D2:=KC _ h2)
   | (go_at_call 23;refine(C1 _ zC).mono ?_;rintro e k1 ⟨rfl,t1⟩;have h1:=t1;have D1:=KC _ h1)))
 all_goals
  have hB:=HB.out.trans (h5.mono zV)
  go_wp2
  go_ret
  exact⟨rfl,hB⟩
end Go.Proofs.YtjbgpcileapogaaGreat
