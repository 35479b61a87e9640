/-
  The law FnTwinRooms, walked: whatever bytes come in, it answers true and writes to nothing that was there, where the table opForms lies as its text lays it. (Written by mktwin.py.)
-/
import Derived.Test.YtbjgjjkgfnfejaaGreatDoorDraw11
import Derived.Test.YtbjgjjkgfnfejaaGreatDoorTwinBase
import Derived.Test.YtbjgjjkgfnfejaaGreatDoorLmHeap
namespace Go.Proofs.YtbjgjjkgfnfejaaGreatDoor
open Go.RowKit
set_option maxRecDepth 100000 in
set_option maxHeartbeats 4000000 in
theorem QZ (w:World) (a:Option Addr) (len cap:Nat) (a2:Option Addr) (zcl cap2:Nat) (h:BytesAt w a len cap) (hc2:zcl<=9223372036854775807) (hT:TabAt w) :
 Calls Tryz.prog 5 #[.slice a len cap,.slice a2 zcl cap2] w fun e w'=>e=.returned (.bool true)/\zO w w':=by
 have hc:=h.1
 have hm:=h.2.1
 unfold maxLen at hm
 have HB:Hid (BytesAt w a len cap):=h
 have HT:Hid (TabAt w):=hT
 clear h hT
 by_cases hl:1048576<len
 ·have hlz:(1048576:Int)<(len:Int):=by omega
  go_enter Tryz.func5,Tryz.ntmps5
  go_wp2
  go_ret
  exact⟨rfl,zS⟩
 have hlz:(len:Int)<=1048576:=by omega
 by_cases hl2:1048576<zcl
 ·have hlz2:(1048576:Int)<(zcl:Int):=by omega
  go_enter Tryz.func5,Tryz.ntmps5
  go_wp2
  go_ret
  exact⟨rfl,zS⟩
 have hlz2:(zcl:Int)<=1048576:=by omega
 go_enter Tryz.func5,Tryz.ntmps5
 go_wp2_with fail
 refine(Yg _ a len cap HB.out).mono ?_
 rintro e w1 ⟨v,MS,r,c,rfl,hR,hC,hD1,B1⟩
 have hM1:=hD1.meths
 obtain⟨aV,cV,K1⟩:=hD1.row.shape
 subst K1
 obtain⟨ms,hms⟩:∃ms,qj MS=ms:=⟨_,rfl⟩
 have hlen:MS.length=ms.length:=by rw[<-hms];simp[qj]
 rw[hms] at hM1
 rw[hlen] at hM1 ⊢
 clear HB hD1 hms hlen
 go_upto_region 4 with fail
 have z1:=B1.size
 refine yg (fun W=>zO w W/\Bx W w1.heap.size 25 [.slice aV ms.length cV]/\yD W (.slice aV ms.length cV) ms) ⟨B1.alloc z1 _,Bx.new _ _ _,hM1.below (zR _ _)⟩ ?_
 rintro w2 ⟨B2,x2,M2⟩
 have p0:=x2.cell 0 rfl
 have z2:=B2.size
 obtain⟨M,hM⟩:∃M,ky ms r c=M:=⟨_,rfl⟩
 obtain⟨ok,hok⟩:∃ok,(yn ms && qP r c)=ok:=⟨_,rfl⟩
 have HI:=uz _ ms r c w2 M2
 rw[hM,hok] at HI
 go_wp2_with fail
 refine HI.mono ?_
 rintro e w3 ⟨i1,i2,i3,i4,rfl,hI3,t3⟩
 have B3:=B2.trans (t3.mono z2)
 have x3:=x2.below t3
 have M3:=M2.below t3
 have z3:=B3.size
 clear HI t3 x2 B2 M2 p0 z2 B1 hM1
 obtain⟨aI1,cI1,eI1⟩:=(hI3).p.shape
 obtain⟨aI2,cI2,eI2⟩:=(hI3).o.shape
 obtain⟨aI3,cI3,eI3⟩:=(hI3).t.shape
 obtain⟨aI4,cI4,eI4⟩:=(hI3).s.shape
 subst eI1 eI2 eI3 eI4
 unfold zu
 go_upto_region 5 with fail
 refine yg (fun W=>zO w W/\Bx W w1.heap.size 25 [.slice aV ms.length cV]/\yD W (.slice aV ms.length cV) ms/\Bx W w3.heap.size 34 [.int .i64 M.cells,.slice aI1 M.za.length cI1,.slice aI2 M.order.length cI2,.int .i64 M.now,.slice aI3 M.zd.length cI3,.int .i64 M.born,.slice aI4 M.zm.length cI4,.int .i64 M.code]/\yC W (.slice aI1 M.za.length cI1) (.slice aI2 M.order.length cI2) (.slice aI3 M.zd.length cI3) (.slice aI4 M.zm.length cI4) M) ⟨B3.alloc z3 _,x3.alloc _,M3.below (zR _ _),Bx.new _ _ _,hI3.below (zR _ _)⟩ ?_
 rintro w4 ⟨B4,x4,M4,y4,I4⟩
 have p0:=x4.cell 0 rfl
 have z4:=B4.size
 have HS:=Yq _ ms r c w4 M4
 rw[hM,hok] at HS
 clear x3 B3 M3 hI3
 go_wp2_with fail
 refine HS.mono ?_
 rintro e w5 ⟨s1,s2,s3,s4,rfl,hF5,t5⟩
 have hS5:=hF5.here
 have B5:=B4.trans (t5.mono z4)
 have x5:=x4.below t5
 have M5:=M4.below t5
 have y5:=y4.below t5
 have I5:=I4.below t5
 have z5:=B5.size
 clear HS t5 x4 B4 M4 y4 I4 p0 z4 hF5
 obtain⟨aS1,cS1,eS1⟩:=(hS5).p.shape
 obtain⟨aS2,cS2,eS2⟩:=(hS5).o.shape
 obtain⟨aS3,cS3,eS3⟩:=(hS5).t.shape
 obtain⟨aS4,cS4,eS4⟩:=(hS5).s.shape
 subst eS1 eS2 eS3 eS4
 clear hS5
 unfold zu
 go_upto_region 6 with fail
 refine yg (fun W=>zO w W/\Bx W w1.heap.size 25 [.slice aV ms.length cV]/\yD W (.slice aV ms.length cV) ms/\Bx W w3.heap.size 34 [.int .i64 M.cells,.slice aI1 M.za.length cI1,.slice aI2 M.order.length cI2,.int .i64 M.now,.slice aI3 M.zd.length cI3,.int .i64 M.born,.slice aI4 M.zm.length cI4,.int .i64 M.code]/\yC W (.slice aI1 M.za.length cI1) (.slice aI2 M.order.length cI2) (.slice aI3 M.zd.length cI3) (.slice aI4 M.zm.length cI4) M) ⟨B5.alloc z5 _,x5.alloc _,M5.below (zR _ _),y5.alloc _,I5.below (zR _ _)⟩ ?_
 rintro w6 ⟨B6,x6,M6,y6,I6⟩
 have z6:=B6.size
 clear x5 B5 M5 y5 I5
 cases ok
 ·go_wp2
  go_ret
  exact⟨rfl,B6⟩
 obtain⟨hp,hr⟩:=Bool.and_eq_true_iff.1 hok
 obtain⟨X8,Wy,hc1,hc4⟩:=jZ hr
 obtain⟨n,rfl⟩:=Int.eq_ofNat_of_zero_le (show 0<=r by omega)
 have hn:1<=n/\n<=4:=by omega
 have hMe:M=yV n (yr ms) c:=by rw[<-hM];unfold ky;rw[hok];rfl
 have HRA:Hid (Zv ms M (xI c (n - 1) (yG n n) (ZF (yr ms))) (kh ms)):=by
  show Zv _ _ _ _
  rw[hMe]
  exact Q5 hp hr
 have HMF:Hid (Yz M c n (yr ms)):=by
  show Yz _ _ _ _
  rw[hMe]
  exact Z3 hp hn.1 hn.2
 have HP:Hid (yn ms=true/\qP (n:Int) c=true):=⟨hp,hr⟩
 clear hMe hM hok hp hr
 obtain⟨K,hKe⟩:∃K,zcl % 4=K:=⟨_,rfl⟩
 have hK:K<4:=by rw[<-hKe];exact Nat.mod_lt _ (by omega)
 have hKz:(zcl:Int).tmod 4=(K:Int):=by
  rw[Int.tmod_eq_emod_of_nonneg (by omega)]
  omega
 have hKw:IntKind.i64.wrap (1+(K:Int))=((K+1:Nat):Int):=by rw[IntKind.wrap_i64];omega
 have hrO:qP ((K+1:Nat):Int) 14=true:=by
  unfold qP
  rw[Bool.and_eq_true,zx,zx]
  omega
 have HN:=uz _ ms ((K+1:Nat):Int) 14 w6 M6
 rw[HP.out.1,hrO] at HN
 obtain⟨O,hO⟩:∃O,ky ms ((K+1:Nat):Int) 14=O:=⟨_,rfl⟩
 have hOe:O=yV (K+1) (yr ms) 14:=by
  rw[<-hO]
  unfold ky
  rw[HP.out.1,hrO]
  rfl
 rw[hO] at HN
 have HRO:Hid (Zv ms O (xI 14 (K+1 - 1) (yG (K+1) (K+1)) (ZF (yr ms))) (kh ms)):=by
  show Zv _ _ _ _
  rw[hOe]
  exact Q5 HP.out.1 hrO
 have HOF:Hid (Yz O 14 (K+1) (yr ms)):=by
  show Yz _ _ _ _
  rw[hOe]
  exact Z3 HP.out.1 (by omega) (by omega)
 clear hO hOe hrO hKe
 have p0:=x6.cell 0 rfl
 go_wp2_with fail
 refine HN.mono ?_
 rintro e w7 ⟨o1,o2,o3,o4,rfl,O7,t7⟩
 obtain⟨aO1,cO1,eO1⟩:=O7.p.shape
 obtain⟨aO2,cO2,eO2⟩:=O7.o.shape
 obtain⟨aO3,cO3,eO3⟩:=O7.t.shape
 obtain⟨aO4,cO4,eO4⟩:=O7.s.shape
 subst eO1 eO2 eO3 eO4
 have B7:=B6.trans (t7.mono z6)
 have x7:=x6.below t7
 have M7:=M6.below t7
 have y7:=y6.below t7
 have I7:=I6.below t7
 have z7:=B7.size
 clear HN t7 x6 B6 M6 y6 I6 p0 z6
 unfold zu
 go_upto_region 9 with fail
 refine yg (fun W=>zO w W/\Bx W w1.heap.size 25 [.slice aV ms.length cV]/\yD W (.slice aV ms.length cV) ms/\Bx W w3.heap.size 34 [.int .i64 M.cells,.slice aI1 M.za.length cI1,.slice aI2 M.order.length cI2,.int .i64 M.now,.slice aI3 M.zd.length cI3,.int .i64 M.born,.slice aI4 M.zm.length cI4,.int .i64 M.code]/\yC W (.slice aI1 M.za.length cI1) (.slice aI2 M.order.length cI2) (.slice aI3 M.zd.length cI3) (.slice aI4 M.zm.length cI4) M/\Bx W w7.heap.size 34 [.int .i64 O.cells,.slice aO1 O.za.length cO1,.slice aO2 O.order.length cO2,.int .i64 O.now,.slice aO3 O.zd.length cO3,.int .i64 O.born,.slice aO4 O.zm.length cO4,.int .i64 O.code]/\yC W (.slice aO1 O.za.length cO1) (.slice aO2 O.order.length cO2) (.slice aO3 O.zd.length cO3) (.slice aO4 O.zm.length cO4) O) ⟨B7.alloc z7 _,x7.alloc _,M7.below (zR _ _),y7.alloc _,I7.below (zR _ _),Bx.new _ _ _,O7.below (zR _ _)⟩ ?_
 rintro w8 ⟨B8,x8,M8,y8,I8,h8,H8⟩
 have z8:=B8.size
 clear x7 B7 M7 y7 I7 O7
 obtain⟨NH,hNH⟩:∃NH,kh ms=NH:=⟨_,rfl⟩
 have p0:=x8.cell 0 rfl
 obtain⟨⟨u0,u1,u2,u3,u4,u5,u6,u7⟩,_⟩:=jW y8
 have HR:=YO HP.out.1 hn.1 hn.2 HRA.out HMF.out 300 w8 M8 (HT.out.below B8) I8 (by omega)
 rw[hNH] at HR
 obtain⟨XH,hXH⟩:∃XH,qi ms 300 NH=XH:=⟨_,rfl⟩
 rw[hXH] at HR
 unfold zu at HR
 go_wp2_with fail
 refine HR.mono ?_
 rintro e w9 ⟨LX,v1,v2,v3,v4,rfl,X9,Wo,t9⟩
 obtain⟨X,hX⟩:∃X,yM LX XH.born XH.zm XH.code=X:=⟨_,rfl⟩
 rw[hX] at X9 ⊢
 obtain⟨aX1,cX1,eX1⟩:=X9.p.shape
 obtain⟨aX2,cX2,eX2⟩:=X9.o.shape
 obtain⟨aX3,cX3,eX3⟩:=X9.t.shape
 obtain⟨aX4,cX4,eX4⟩:=X9.s.shape
 subst eX1 eX2 eX3 eX4
 have B9:=B8.trans (t9.mono z8)
 have x9:=x8.below t9
 have M9:=M8.below t9
 have h9:=h8.below t9
 have H9:=H8.below t9
 have z9:=B9.size
 have HX:Hid (yM LX XH.born XH.zm XH.code=X/\zcY (xI c (n - 1) (yG n n) (ZF (yr ms))) LX XH):=⟨hX,Wo⟩
 clear HR t9 x8 B8 M8 y8 I8 h8 H8 p0 z8 u0 u1 u2 u3 u4 u5 u6 u7 hX Wo
 go_upto_region 10 with fail
 refine yg (fun W=>zO w W/\Bx W w1.heap.size 25 [.slice aV ms.length cV]/\yD W (.slice aV ms.length cV) ms/\Bx W w7.heap.size 34 [.int .i64 O.cells,.slice aO1 O.za.length cO1,.slice aO2 O.order.length cO2,.int .i64 O.now,.slice aO3 O.zd.length cO3,.int .i64 O.born,.slice aO4 O.zm.length cO4,.int .i64 O.code]/\yC W (.slice aO1 O.za.length cO1) (.slice aO2 O.order.length cO2) (.slice aO3 O.zd.length cO3) (.slice aO4 O.zm.length cO4) O/\Bx W w9.heap.size 34 [.int .i64 X.cells,.slice aX1 X.za.length cX1,.slice aX2 X.order.length cX2,.int .i64 X.now,.slice aX3 X.zd.length cX3,.int .i64 X.born,.slice aX4 X.zm.length cX4,.int .i64 X.code]/\yC W (.slice aX1 X.za.length cX1) (.slice aX2 X.order.length cX2) (.slice aX3 X.zd.length cX3) (.slice aX4 X.zm.length cX4) X) ⟨B9.alloc z9 _,x9.alloc _,M9.below (zR _ _),h9.alloc _,H9.below (zR _ _),Bx.new _ _ _,X9.below (zR _ _)⟩ ?_
 rintro vI ⟨B10,x10,M10,h10,H10,q10,X10⟩
 have z10:=B10.size
 clear x9 B9 M9 h9 H9 X9
 have p0:=x10.cell 0 rfl
 obtain⟨⟨u0,u1,u2,u3,u4,u5,u6,u7⟩,_⟩:=jW h10
 have HY:=YO HP.out.1 (show 1<=K+1 by omega) (by omega) HRO.out HOF.out 300 vI M10 (HT.out.below B10) H10 (by omega)
 rw[hNH,hXH] at HY
 have hG:=HRA.out.good
 rw[hNH] at hG
 have hGX:=Good.run 300 NH hG
 rw[hXH] at hGX
 have HEQ:Hid (Good ms XH):=hGX
 unfold zu at HY
 clear hNH hXH hG hGX
 go_wp2_with fail
 refine HY.mono ?_
 rintro e w11 ⟨LY,v1,v2,v3,v4,rfl,Y11,zc2,t11⟩
 obtain⟨Y,hY⟩:∃Y,yM LY XH.born XH.zm XH.code=Y:=⟨_,rfl⟩
 have hXYb:Y.born=X.born:=by rw[<-hY,<-HX.out.1];rfl
 have ze0:Y.zm=X.zm:=by rw[<-hY,<-HX.out.1];rfl
 have hXYc:Y.code=X.code:=by rw[<-hY,<-HX.out.1];rfl
 rw[hY] at Y11 ⊢
 obtain⟨aY1,cY1,eY1⟩:=Y11.p.shape
 obtain⟨aY2,cY2,eY2⟩:=Y11.o.shape
 obtain⟨aY3,cY3,eY3⟩:=Y11.t.shape
 obtain⟨aY4,cY4,eY4⟩:=Y11.s.shape
 rw[ze0] at eY4
 subst eY1 eY2 eY3 eY4
 rw[hXYb,hXYc]
 have zdM:LX.za.length<=900:=by rw[HX.out.2.za];exact HRA.out.za
 have hLYp:LY.za.length<=900:=by rw[zc2.za];exact HRO.out.za
 have B11:=B10.trans (t11.mono z10)
 have q11:=q10.below t11
 have X11:=X10.below t11
 have z11:=B11.size
 clear HY t11 x10 B10 M10 h10 H10 q10 X10 p0 z10 u0 u1 u2 u3 u4 u5 u6 u7
 go_upto_region 11 with fail
 refine yg (fun W=>zO w W/\Bx W w9.heap.size 34 [.int .i64 X.cells,.slice aX1 X.za.length cX1,.slice aX2 X.order.length cX2,.int .i64 X.now,.slice aX3 X.zd.length cX3,.int .i64 X.born,.slice aX4 X.zm.length cX4,.int .i64 X.code]/\yC W (.slice aX1 X.za.length cX1) (.slice aX2 X.order.length cX2) (.slice aX3 X.zd.length cX3) (.slice aX4 X.zm.length cX4) X/\Bx W w11.heap.size 34 [.int .i64 Y.cells,.slice aY1 Y.za.length cY1,.slice aY2 Y.order.length cY2,.int .i64 Y.now,.slice aY3 Y.zd.length cY3,.int .i64 X.born,.slice aY4 X.zm.length cY4,.int .i64 X.code]/\yC W (.slice aY1 Y.za.length cY1) (.slice aY2 Y.order.length cY2) (.slice aY3 Y.zd.length cY3) (.slice aY4 X.zm.length cY4) Y) ⟨B11.alloc z11 _,q11.alloc _,X11.below (zR _ _),Bx.new _ _ _,Y11.below (zR _ _)⟩ ?_
 rintro w12 ⟨B12,WV,X12,r12,Y12⟩
 have z12:=B12.size
 clear B11 q11 X11 Y11
 obtain⟨hX,hRX⟩:=HX.out
 have HV1:∀W,zO w12 W->Calls Tryz.prog 17 #[.agg #[.int .i64 X.cells,.slice aX1 X.za.length cX1,.slice aX2 X.order.length cX2,.int .i64 X.now,.slice aX3 X.zd.length cX3,.int .i64 X.born,.slice aX4 X.zm.length cX4,.int .i64 X.code]] W fun e w'=>∃aM kM,e=.returned (.slice aM (jq XH).length kM)/\xz w' (.slice aM (jq XH).length kM) (jq XH)/\zO W w':=fun W hW=>by
  have h1:=X12.below hW
  rw[<-hX] at h1 ⊢
  exact Z2 hRX.sim hRX.now HEQ.out zdM W h1
 have HV2:∀W,zO w12 W->Calls Tryz.prog 17 #[.agg #[.int .i64 Y.cells,.slice aY1 Y.za.length cY1,.slice aY2 Y.order.length cY2,.int .i64 Y.now,.slice aY3 Y.zd.length cY3,.int .i64 X.born,.slice aY4 X.zm.length cY4,.int .i64 X.code]] W fun e w'=>∃aM kM,e=.returned (.slice aM (jq XH).length kM)/\xz w' (.slice aM (jq XH).length kM) (jq XH)/\zO W w':=fun W hW=>by
  have h1:=Y12.below hW
  rw[<-hXYb,<-ze0,<-hXYc]
  rw[<-ze0] at h1
  rw[<-hY] at h1 ⊢
  exact Z2 zc2.sim zc2.now HEQ.out hLYp W h1
 have HLM:∀W,zO w12 W->Calls Tryz.prog 21 #[.slice aX4 X.zm.length cX4,.slice aY4 X.zm.length cY4] W fun e w'=>e=.returned (.bool true)/\zO W w':=fun W hW=>by
  have h2:=Y12.s.below hW
  rw[ze0] at h2
  have:=zcn _ _ _ _ W (X12.s.below hW) h2
  rw[decide_eq_true rfl] at this
  exact this
 have KC:∀V,zO w12 V->Hid (V.cell? (zH w9.heap.size 0)=some (.int .i64 X.cells)/\V.cell? (zH w9.heap.size 1)=some (.slice aX1 X.za.length cX1)/\V.cell? (zH w9.heap.size 2)=some (.slice aX2 X.order.length cX2)/\V.cell? (zH w9.heap.size 3)=some (.int .i64 X.now)/\V.cell? (zH w9.heap.size 4)=some (.slice aX3 X.zd.length cX3)/\V.cell? (zH w9.heap.size 5)=some (.int .i64 X.born)/\V.cell? (zH w9.heap.size 6)=some (.slice aX4 X.zm.length cX4)/\V.cell? (zH w9.heap.size 7)=some (.int .i64 X.code)/\V.cell? (zH w11.heap.size 0)=some (.int .i64 Y.cells)/\V.cell? (zH w11.heap.size 1)=some (.slice aY1 Y.za.length cY1)/\V.cell? (zH w11.heap.size 2)=some (.slice aY2 Y.order.length cY2)/\V.cell? (zH w11.heap.size 3)=some (.int .i64 Y.now)/\V.cell? (zH w11.heap.size 4)=some (.slice aY3 Y.zd.length cY3)/\V.cell? (zH w11.heap.size 5)=some (.int .i64 X.born)/\V.cell? (zH w11.heap.size 6)=some (.slice aY4 X.zm.length cY4)/\V.cell? (zH w11.heap.size 7)=some (.int .i64 X.code)):=fun V hV=>⟨(WV.below hV).cell 0 rfl,(WV.below hV).cell 1 rfl,(WV.below hV).cell 2 rfl,(WV.below hV).cell 3 rfl,(WV.below hV).cell 4 rfl,(WV.below hV).cell 5 rfl,(WV.below hV).cell 6 rfl,(WV.below hV).cell 7 rfl,(r12.below hV).cell 0 rfl,(r12.below hV).cell 1 rfl,(r12.below hV).cell 2 rfl,(r12.below hV).cell 3 rfl,(r12.below hV).cell 4 rfl,(r12.below hV).cell 5 rfl,(r12.below hV).cell 6 rfl,(r12.below hV).cell 7 rfl⟩
 clear hX hRX hXYb ze0 hXYc hY zc2 zdM hLYp
 have HB:Hid (zO w w12):=B12
 have D0:=KC w12 zS
 clear WV X12 r12 Y12 B12
 go_region_held3 (fun V=>V.cell? (zH w9.heap.size 0)=some (.int .i64 X.cells)/\V.cell? (zH w9.heap.size 1)=some (.slice aX1 X.za.length cX1)/\V.cell? (zH w9.heap.size 2)=some (.slice aX2 X.order.length cX2)/\V.cell? (zH w9.heap.size 3)=some (.int .i64 X.now)/\V.cell? (zH w9.heap.size 4)=some (.slice aX3 X.zd.length cX3)/\V.cell? (zH w9.heap.size 5)=some (.int .i64 X.born)/\V.cell? (zH w9.heap.size 6)=some (.slice aX4 X.zm.length cX4)/\V.cell? (zH w9.heap.size 7)=some (.int .i64 X.code)/\V.cell? (zH w11.heap.size 0)=some (.int .i64 Y.cells)/\V.cell? (zH w11.heap.size 1)=some (.slice aY1 Y.za.length cY1)/\V.cell? (zH w11.heap.size 2)=some (.slice aY2 Y.order.length cY2)/\V.cell? (zH w11.heap.size 3)=some (.int .i64 Y.now)/\V.cell? (zH w11.heap.size 4)=some (.slice aY3 Y.zd.length cY3)/\V.cell? (zH w11.heap.size 5)=some (.int .i64 X.born)/\V.cell? (zH w11.heap.size 6)=some (.slice aY4 X.zm.length cY4)/\V.cell? (zH w11.heap.size 7)=some (.int .i64 X.code))
  (first | exact D4.out | exact D3.out | exact D2.out | exact D1.out | exact D0.out | go_keep)
  ((first
   | (have hx:=h3;clear hx;go_at_call 22;refine(WH _ _ (jq XH) _ (hA2.below t3) hA3).mono ?_;rintro e k4 ⟨rfl,t4⟩;have h4:=h3.trans (t4.mono h3.size);have D4:=KC _ h4)
   | (have hx:=h2;clear hx;go_at_call 17;refine(HV2 _ h2).mono ?_;rintro e k3 ⟨aM3,kM3,rfl,hA3,t3⟩;have h3:=h2.trans (t3.mono h2.size);have D3:=KC _ h3)
   | (have hx:=h1;clear hx;go_at_call 17;refine(HV1 _ h1).mono ?_;rintro e k2 ⟨aM2,kM2,rfl,hA2,t2⟩;have h2:=h1.trans (t2.mono h1.size);have D2:=KC _ h2)
   | (go_at_call 21;refine(HLM _ zS.drew).mono ?_;rintro e k1 ⟨rfl,t1⟩;have h1:zO w12 k1:=(Below.refl w12.heap.size w12).drew.trans t1;have D1:=KC _ h1)))
 all_goals
  have hB:=HB.out.trans (h4.mono z12)
  go_wp2
  go_ret
  exact⟨zp (by first | rfl | simp),hB⟩
end Go.Proofs.YtbjgjjkgfnfejaaGreatDoor
