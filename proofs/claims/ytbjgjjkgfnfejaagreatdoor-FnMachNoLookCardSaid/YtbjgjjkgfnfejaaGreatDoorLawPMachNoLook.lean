/-
  The law FnMachNoLook, walked: whatever bytes come in, it answers true and writes to nothing that was there, where the table opForms lies as its text lays it. (Written by mktwin.py.)
-/
import Derived.Test.YtbjgjjkgfnfejaaGreatDoorOutDeep
import Derived.Test.YtbjgjjkgfnfejaaGreatDoorLmNoLook
namespace Go.Proofs.YtbjgjjkgfnfejaaGreatDoor
open Go.RowKit
set_option maxRecDepth 100000 in
set_option maxHeartbeats 4000000 in
theorem Qp (w:World) (a:Option Addr) (len cap:Nat) (h:BytesAt w a len cap) (hT:TabAt w) :
 Calls Tryz.prog 3 #[.slice a len cap] w fun e w'=>e=.returned (.bool true)/\zO w w':=by
 have hc:=h.1
 have hm:=h.2.1
 unfold maxLen at hm
 have HB:Hid (BytesAt w a len cap):=h
 have HT:Hid (TabAt w):=hT
 clear h hT
 by_cases hl:1048576<len
 ·have hlz:(1048576:Int)<(len:Int):=by omega
  go_enter Tryz.func3,Tryz.ntmps3
  go_wp2
  go_ret
  exact⟨rfl,zS⟩
 have hlz:(len:Int)<=1048576:=by omega
 go_enter Tryz.func3,Tryz.ntmps3
 go_wp2_with fail
 refine(Yg _ a len cap HB.out).mono ?_
 rintro e w1 ⟨v,MS,r,c,rfl,hR,hC,hD1,B1⟩
 have hM1:=hD1.meths
 obtain⟨aV,cV,K1⟩:=hD1.row.shape
 subst K1
 have hf7:=hD1.few
 have HOPS:Hid (∀m∈qj MS,m.2.2.length<=14):=fun m hm=>by
  obtain⟨x,hx,rfl⟩:=List.mem_map.1 hm
  exact hD1.ops x hx
 have hpl:(qj MS).length=MS.length:=by simp[qj]
 clear HB
 go_upto_region 4 with fail
 have z1:=B1.size
 refine yg (fun W=>zO w W/\Bx W w1.heap.size 25 [.slice aV MS.length cV]/\yD W (.slice aV MS.length cV) (qj MS)) ⟨B1.alloc z1 _,Bx.new _ _ _,hM1.below (zR _ _)⟩ ?_
 rintro w2 ⟨B2,x2,M2⟩
 have p0:=x2.cell 0 rfl
 have z2:=B2.size
 have HNL:=WI (.slice aV MS.length cV) (qj MS) w2 M2 (by omega) HOPS.out
 go_wp2_with fail
 refine HNL.mono ?_
 rintro e wq ⟨⟨vq,rfl,hMq⟩,tq⟩
 have HNH:Hid (XQ (uA (qj MS))):=zaZ _
 have Bq:=B2.trans (tq.mono z2)
 have zq:=Bq.size
 clear HNL tq x2 B2 M2 p0 z2 B1 hM1 hD1 HOPS hpl
 generalize uA (qj MS)=ms at *
 obtain⟨aQ,cQ,hvQ,_⟩:=id hMq
 subst hvQ
 go_upto_region 5 with fail
 refine yg (fun W=>zO w W/\Bx W wq.heap.size 25 [.slice aQ ms.length cQ]/\yD W (.slice aQ ms.length cQ) ms) ⟨Bq.alloc zq _,Bx.new _ _ _,hMq.below (zR _ _)⟩ ?_
 rintro w2 ⟨B2,x2,M2⟩
 have p0:=x2.cell 0 rfl
 have z2:=B2.size
 clear Bq hMq
 obtain⟨M,hM⟩:∃M,ky ms r c=M:=⟨_,rfl⟩
 obtain⟨ok,hok⟩:∃ok,(yn ms && qP r c)=ok:=⟨_,rfl⟩
 have HI:=uz _ ms r c w2 M2
 rw[hM,hok] at HI
 go_wp2_with fail
 refine HI.mono ?_
 rintro e w3 ⟨i1,i2,i3,i4,rfl,hI3,t3⟩
 have B3:=B2.trans (t3.mono z2)
 have x3:=x2.below t3
 have M3:=M2.below t3
 have z3:=B3.size
 clear HI t3 x2 B2 M2 p0 z2
 obtain⟨aI1,cI1,eI1⟩:=(hI3).p.shape
 obtain⟨aI2,cI2,eI2⟩:=(hI3).o.shape
 obtain⟨aI3,cI3,eI3⟩:=(hI3).t.shape
 obtain⟨aI4,cI4,eI4⟩:=(hI3).s.shape
 subst eI1 eI2 eI3 eI4
 unfold zu
 go_upto_region 6 with fail
 refine yg (fun W=>zO w W/\Bx W wq.heap.size 25 [.slice aQ ms.length cQ]/\yD W (.slice aQ ms.length cQ) ms/\Bx W w3.heap.size 34 [.int .i64 M.cells,.slice aI1 M.za.length cI1,.slice aI2 M.order.length cI2,.int .i64 M.now,.slice aI3 M.zd.length cI3,.int .i64 M.born,.slice aI4 M.zm.length cI4,.int .i64 M.code]/\yC W (.slice aI1 M.za.length cI1) (.slice aI2 M.order.length cI2) (.slice aI3 M.zd.length cI3) (.slice aI4 M.zm.length cI4) M) ⟨B3.alloc z3 _,x3.alloc _,M3.below (zR _ _),Bx.new _ _ _,hI3.below (zR _ _)⟩ ?_
 rintro w4 ⟨B4,x4,M4,y4,I4⟩
 have p0:=x4.cell 0 rfl
 have z4:=B4.size
 have HS:=Yq _ ms r c w4 M4
 rw[hM,hok] at HS
 clear x3 B3 M3 hI3
 go_wp2_with fail
 refine HS.mono ?_
 rintro e w5 ⟨s1,s2,s3,s4,rfl,hF5,t5⟩
 have hS5:=hF5.here
 have B5:=B4.trans (t5.mono z4)
 have x5:=x4.below t5
 have M5:=M4.below t5
 have y5:=y4.below t5
 have I5:=I4.below t5
 have z5:=B5.size
 clear HS t5 x4 B4 M4 y4 I4 p0 z4 hF5
 obtain⟨aS1,cS1,eS1⟩:=(hS5).p.shape
 obtain⟨aS2,cS2,eS2⟩:=(hS5).o.shape
 obtain⟨aS3,cS3,eS3⟩:=(hS5).t.shape
 obtain⟨aS4,cS4,eS4⟩:=(hS5).s.shape
 subst eS1 eS2 eS3 eS4
 clear hS5
 unfold zu
 go_upto_region 7 with fail
 refine yg (fun W=>zO w W/\Bx W wq.heap.size 25 [.slice aQ ms.length cQ]/\yD W (.slice aQ ms.length cQ) ms/\Bx W w3.heap.size 34 [.int .i64 M.cells,.slice aI1 M.za.length cI1,.slice aI2 M.order.length cI2,.int .i64 M.now,.slice aI3 M.zd.length cI3,.int .i64 M.born,.slice aI4 M.zm.length cI4,.int .i64 M.code]/\yC W (.slice aI1 M.za.length cI1) (.slice aI2 M.order.length cI2) (.slice aI3 M.zd.length cI3) (.slice aI4 M.zm.length cI4) M) ⟨B5.alloc z5 _,x5.alloc _,M5.below (zR _ _),y5.alloc _,I5.below (zR _ _)⟩ ?_
 rintro w6 ⟨B6,x6,M6,y6,I6⟩
 have z6:=B6.size
 clear x5 B5 M5 y5 I5
 cases ok
 ·go_wp2
  go_ret
  exact⟨rfl,B6⟩
 obtain⟨hp,hr⟩:=Bool.and_eq_true_iff.1 hok
 obtain⟨X8,Wy,hc1,hc4⟩:=jZ hr
 obtain⟨n,rfl⟩:=Int.eq_ofNat_of_zero_le (show 0<=r by omega)
 have hn:1<=n/\n<=4:=by omega
 have hMe:M=yV n (yr ms) c:=by rw[<-hM];unfold ky;rw[hok];rfl
 have HRA:Hid (Zv ms M (xI c (n - 1) (yG n n) (ZF (yr ms))) (kh ms)):=by
  show Zv _ _ _ _
  rw[hMe]
  exact Q5 hp hr
 have HMF:Hid (Yz M c n (yr ms)):=by
  show Yz _ _ _ _
  rw[hMe]
  exact Z3 hp hn.1 hn.2
 have HP:Hid (yn ms=true/\qP (n:Int) c=true):=⟨hp,hr⟩
 clear hMe hM hok hp hr
 have p0:=x6.cell 0 rfl
 obtain⟨⟨u0,u1,u2,u3,u4,u5,u6,u7⟩,_⟩:=jW y6
 have HR:=YO HP.out.1 hn.1 hn.2 HRA.out HMF.out 300 w6 M6 (HT.out.below B6) I6 (by omega)
 obtain⟨gR,nR,vR,sR⟩:=za0 HNH.out HP.out.1 300
 obtain⟨XH,hXH⟩:∃XH,qi ms 300 (kh ms)=XH:=⟨_,rfl⟩
 rw[hXH] at HR gR nR vR sR
 have HXG:Hid (Good ms XH/\ZS XH.zm/\(jq XH).length=qQ XH.ze XH.now/\XH.zm.length<=300):=⟨gR,nR,vR,sR⟩
 unfold zu at HR
 clear gR nR vR sR hXH
 go_wp2_with fail
 refine HR.mono ?_
 rintro e w9 ⟨LX,v1,v2,v3,v4,rfl,X9,Wo,t9⟩
 obtain⟨X,hX⟩:∃X,yM LX XH.born XH.zm XH.code=X:=⟨_,rfl⟩
 rw[hX] at X9 ⊢
 obtain⟨aX1,cX1,eX1⟩:=X9.p.shape
 obtain⟨aX2,cX2,eX2⟩:=X9.o.shape
 obtain⟨aX3,cX3,eX3⟩:=X9.t.shape
 obtain⟨aX4,cX4,eX4⟩:=X9.s.shape
 subst eX1 eX2 eX3 eX4
 have B9:=B6.trans (t9.mono z6)
 have z9:=B9.size
 clear HR t9 x6 B6 M6 y6 I6 p0 z6 u0 u1 u2 u3 u4 u5 u6 u7
 go_upto_region 10 with fail
 refine yg (fun W=>zO w W/\Bx W w9.heap.size 34 [.int .i64 X.cells,.slice aX1 X.za.length cX1,.slice aX2 X.order.length cX2,.int .i64 X.now,.slice aX3 X.zd.length cX3,.int .i64 X.born,.slice aX4 X.zm.length cX4,.int .i64 X.code]/\yC W (.slice aX1 X.za.length cX1) (.slice aX2 X.order.length cX2) (.slice aX3 X.zd.length cX3) (.slice aX4 X.zm.length cX4) X) ⟨B9.alloc z9 _,Bx.new _ _ _,X9.below (zR _ _)⟩ ?_
 rintro w12 ⟨B12,WV,X12⟩
 have z12:=B12.size
 clear B9 X9
 obtain⟨gR,nR,vR,sR⟩:=HXG.out
 have hXs:X.zm=XH.zm:=by rw[<-hX];rfl
 have zdM:LX.za.length<=900:=by rw[Wo.za];exact HRA.out.za
 obtain⟨dp,hdp⟩:∃dp,qQ XH.ze XH.now=dp:=⟨_,rfl⟩
 rw[hdp] at vR
 have HV1:∀W,zO w12 W->Calls Tryz.prog 17 #[.agg #[.int .i64 X.cells,.slice aX1 X.za.length cX1,.slice aX2 X.order.length cX2,.int .i64 X.now,.slice aX3 X.zd.length cX3,.int .i64 X.born,.slice aX4 X.zm.length cX4,.int .i64 X.code]] W fun e w'=>(∃aM kM,e=.returned (.slice aM dp kM))/\zO W w':=fun W hW=>by
  have h1:=X12.below hW
  rw[<-hX] at h1 ⊢
  refine(Z2 Wo.sim Wo.now gR zdM W h1).mono ?_
  rintro e w' ⟨aM,kM,he,_,hb⟩
  rw[vR] at he
  exact⟨⟨aM,kM,he⟩,hb⟩
 have HD1:∀W,zO w12 W->Calls Tryz.prog 18 #[.agg #[.int .i64 X.cells,.slice aX1 X.za.length cX1,.slice aX2 X.order.length cX2,.int .i64 X.now,.slice aX3 X.zd.length cX3,.int .i64 X.born,.slice aX4 X.zm.length cX4,.int .i64 X.code]] W fun e w'=>e=.returned (.int .i64 (dp:Int))/\zO W w':=fun W hW=>by
  have h1:=X12.below hW
  rw[<-hX] at h1 ⊢
  have:=WK Wo.sim Wo.now gR zdM W h1
  rw[hdp] at this
  exact this
 have HLT:∀W,zO w12 W->Calls Tryz.prog 16 #[.slice aX4 X.zm.length cX4] W fun e w'=>e=.returned (.bool false)/\zO W w':=fun W hW=>zaS _ X.zm W (X12.s.below hW) (by rw[hXs];exact nR) (by rw[hXs];omega)
 have KC:∀V,zO w12 V->Hid (V.cell? (zH w9.heap.size 0)=some (.int .i64 X.cells)/\V.cell? (zH w9.heap.size 1)=some (.slice aX1 X.za.length cX1)/\V.cell? (zH w9.heap.size 2)=some (.slice aX2 X.order.length cX2)/\V.cell? (zH w9.heap.size 3)=some (.int .i64 X.now)/\V.cell? (zH w9.heap.size 4)=some (.slice aX3 X.zd.length cX3)/\V.cell? (zH w9.heap.size 5)=some (.int .i64 X.born)/\V.cell? (zH w9.heap.size 6)=some (.slice aX4 X.zm.length cX4)/\V.cell? (zH w9.heap.size 7)=some (.int .i64 X.code)):=fun V hV=>⟨(WV.below hV).cell 0 rfl,(WV.below hV).cell 1 rfl,(WV.below hV).cell 2 rfl,(WV.below hV).cell 3 rfl,(WV.below hV).cell 4 rfl,(WV.below hV).cell 5 rfl,(WV.below hV).cell 6 rfl,(WV.below hV).cell 7 rfl⟩
 clear hX Wo hXs zdM gR nR vR sR hdp
 have HB:Hid (zO w w12):=B12
 have D0:=KC w12 zS
 clear WV X12 B12
 go_region_held3 (fun V=>V.cell? (zH w9.heap.size 0)=some (.int .i64 X.cells)/\V.cell? (zH w9.heap.size 1)=some (.slice aX1 X.za.length cX1)/\V.cell? (zH w9.heap.size 2)=some (.slice aX2 X.order.length cX2)/\V.cell? (zH w9.heap.size 3)=some (.int .i64 X.now)/\V.cell? (zH w9.heap.size 4)=some (.slice aX3 X.zd.length cX3)/\V.cell? (zH w9.heap.size 5)=some (.int .i64 X.born)/\V.cell? (zH w9.heap.size 6)=some (.slice aX4 X.zm.length cX4)/\V.cell? (zH w9.heap.size 7)=some (.int .i64 X.code))
  (first | exact D3.out | exact D2.out | exact D1.out | exact D0.out | go_keep)
  ((first
   | (have hx:=h2;clear hx;go_at_call 18;refine(HD1 _ h2).mono ?_;rintro e k3 ⟨rfl,t3⟩;have h3:=h2.trans (t3.mono h2.size);have D3:=KC _ h3)
   | (have hx:=h1;clear hx;go_at_call 17;refine(HV1 _ h1).mono ?_;rintro e k2 ⟨⟨aM2,kM2,rfl⟩,t2⟩;have h2:=h1.trans (t2.mono h1.size);have D2:=KC _ h2)
   | (go_at_call 16;refine(HLT _ zS.drew).mono ?_;rintro e k1 ⟨rfl,t1⟩;have h1:zO w12 k1:=(Below.refl w12.heap.size w12).drew.trans t1;have D1:=KC _ h1)))
 all_goals
  have hB:=HB.out.trans (h3.mono z12)
  go_wp2
  go_ret
  exact⟨zp (by first | rfl | simp),hB⟩
end Go.Proofs.YtbjgjjkgfnfejaaGreatDoor
