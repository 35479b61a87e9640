/-
  The law FnTwinSaid, walked: whatever bytes come in, it answers true and writes to nothing that was there, where the table opForms lies as its text lays it. (Written by mktwin.py.)
-/
import Derived.Test.YtbjgjjkgfnfejaaGreatDoorDraw11
import Derived.Test.YtbjgjjkgfnfejaaGreatDoorTwinBase
namespace Go.Proofs.YtbjgjjkgfnfejaaGreatDoor
open Go.RowKit
set_option maxRecDepth 100000 in
set_option maxHeartbeats 4000000 in
theorem Xc (w:World) (a:Option Addr) (len cap:Nat) (a2:Option Addr) (zbq cap2:Nat) (h:BytesAt w a len cap) (hc2:zbq<=9223372036854775807) (hT:TabAt w) :
 Calls Tryz.prog 6 #[.slice a len cap,.slice a2 zbq cap2] w fun e w'=>e=.returned (.bool true)/\zO w w':=by
 have hc:=h.1
 have hm:=h.2.1
 unfold maxLen at hm
 have HB:Hid (BytesAt w a len cap):=h
 have HT:Hid (TabAt w):=hT
 clear h hT
 by_cases hl:1048576<len
 ·have hlz:(1048576:Int)<(len:Int):=by omega
  go_enter Tryz.func6,Tryz.ntmps6
  go_wp2
  go_ret
  exact⟨rfl,zS⟩
 have hlz:(len:Int)<=1048576:=by omega
 by_cases hl2:1048576<zbq
 ·have hlz2:(1048576:Int)<(zbq:Int):=by omega
  go_enter Tryz.func6,Tryz.ntmps6
  go_wp2
  go_ret
  exact⟨rfl,zS⟩
 have hlz2:(zbq:Int)<=1048576:=by omega
 go_enter Tryz.func6,Tryz.ntmps6
 go_wp2_with fail
 refine(Jt _ a len cap HB.out).mono ?_
 rintro e w1 ⟨v,MS,r,c,rfl,hR,hC,hD1,B1⟩
 have hM1:=hD1.meths
 obtain⟨aV,cV,UH⟩:=hD1.row.shape
 subst UH
 obtain⟨ms,hms⟩:∃ms,uE MS=ms:=⟨_,rfl⟩
 have hlen:MS.length=ms.length:=by rw[<-hms];simp[uE]
 rw[hms] at hM1
 rw[hlen] at hM1 ⊢
 clear HB hD1 hms hlen
 go_upto_region 4 with fail
 have z1:=B1.size
 refine ym (fun W=>zO w W/\Bx W w1.heap.size 25 [.slice aV ms.length cV]/\yD W (.slice aV ms.length cV) ms) ⟨B1.alloc z1 _,Bx.new _ _ _,hM1.below (zR _ _)⟩ ?_
 rintro w2 ⟨B2,x2,M2⟩
 have p0:=x2.cell 0 rfl
 have z2:=B2.size
 obtain⟨M,hM⟩:∃M,ud ms r c=M:=⟨_,rfl⟩
 obtain⟨ok,hok⟩:∃ok,(yr ms && qW r c)=ok:=⟨_,rfl⟩
 have HI:=XE _ ms r c w2 M2
 rw[hM,hok] at HI
 go_wp2_with fail
 refine HI.mono ?_
 rintro e w3 ⟨i1,i2,i3,i4,rfl,hI3,t3⟩
 have B3:=B2.trans (t3.mono z2)
 have x3:=x2.below t3
 have M3:=M2.below t3
 have z3:=B3.size
 clear HI t3 x2 B2 M2 p0 z2 B1 hM1
 obtain⟨aI1,cI1,eI1⟩:=(hI3).p.shape
 obtain⟨aI2,cI2,eI2⟩:=(hI3).o.shape
 obtain⟨aI3,cI3,eI3⟩:=(hI3).t.shape
 obtain⟨aI4,cI4,eI4⟩:=(hI3).s.shape
 subst eI1 eI2 eI3 eI4
 unfold zE
 go_upto_region 5 with fail
 refine ym (fun W=>zO w W/\Bx W w1.heap.size 25 [.slice aV ms.length cV]/\yD W (.slice aV ms.length cV) ms/\Bx W w3.heap.size 34 [.int .i64 M.cells,.slice aI1 M.zd.length cI1,.slice aI2 M.order.length cI2,.int .i64 M.now,.slice aI3 M.ze.length cI3,.int .i64 M.born,.slice aI4 M.zm.length cI4,.int .i64 M.code]/\ql W (.slice aI1 M.zd.length cI1) (.slice aI2 M.order.length cI2) (.slice aI3 M.ze.length cI3) (.slice aI4 M.zm.length cI4) M) ⟨B3.alloc z3 _,x3.alloc _,M3.below (zR _ _),Bx.new _ _ _,hI3.below (zR _ _)⟩ ?_
 rintro w4 ⟨B4,x4,M4,y4,I4⟩
 have p0:=x4.cell 0 rfl
 have z4:=B4.size
 have HS:=JK _ ms r c w4 M4
 rw[hM,hok] at HS
 clear x3 B3 M3 hI3
 go_wp2_with fail
 refine HS.mono ?_
 rintro e w5 ⟨s1,s2,s3,s4,rfl,hF5,t5⟩
 have hS5:=hF5.here
 have B5:=B4.trans (t5.mono z4)
 have x5:=x4.below t5
 have M5:=M4.below t5
 have y5:=y4.below t5
 have I5:=I4.below t5
 have z5:=B5.size
 clear HS t5 x4 B4 M4 y4 I4 p0 z4 hF5
 obtain⟨aS1,cS1,eS1⟩:=(hS5).p.shape
 obtain⟨aS2,cS2,eS2⟩:=(hS5).o.shape
 obtain⟨aS3,cS3,eS3⟩:=(hS5).t.shape
 obtain⟨aS4,cS4,eS4⟩:=(hS5).s.shape
 subst eS1 eS2 eS3 eS4
 clear hS5
 unfold zE
 go_upto_region 6 with fail
 refine ym (fun W=>zO w W/\Bx W w1.heap.size 25 [.slice aV ms.length cV]/\yD W (.slice aV ms.length cV) ms/\Bx W w3.heap.size 34 [zI M.cells,.slice aI1 M.zd.length cI1,.slice aI2 M.order.length cI2,zI M.now,.slice aI3 M.ze.length cI3,zI M.born,.slice aI4 M.zm.length cI4,zI M.code]/\ql W (.slice aI1 M.zd.length cI1) (.slice aI2 M.order.length cI2) (.slice aI3 M.ze.length cI3) (.slice aI4 M.zm.length cI4) M) ⟨B5.alloc z5 _,x5.alloc _,M5.below (zR _ _),y5.alloc _,I5.below (zR _ _)⟩ ?_
 rintro w6 ⟨B6,x6,M6,y6,I6⟩
 have z6:=B6.size
 clear x5 B5 M5 y5 I5
 cases ok
 ·go_wp2
  go_ret
  exact⟨rfl,B6⟩
 obtain⟨hp,hr⟩:=Bool.and_eq_true_iff.1 hok
 obtain⟨Kn,Ko,hc1,hc4⟩:=kI hr
 obtain⟨n,rfl⟩:=Int.eq_ofNat_of_zero_le (show 0<=r by omega)
 have hn:1<=n/\n<=4:=by omega
 have hMe:M=yR n (yx ms) c:=by rw[<-hM];unfold ud;rw[hok];rfl
 have HRA:Hid (Xp ms M (xX c (n - 1) (yK n n) (YG (yx ms))) (kZ ms)):=by
  show Xp _ _ _ _
  rw[hMe]
  exact zbF hp hr
 have HMF:Hid (Ul M c n (yx ms)):=by
  show Ul _ _ _ _
  rw[hMe]
  exact UO hp hn.1 hn.2
 have HP:Hid (yr ms=true/\qW (n:Int) c=true):=⟨hp,hr⟩
 clear hMe hM hok hp hr
 have p0:=x6.cell 0 rfl
 have HN:=Jz _ ms w6 M6
 rw[HP.out.1] at HN
 go_wp2_with fail
 refine HN.mono ?_
 rintro e w7 ⟨t7,vc7,vs7,V7,rfl,hO7⟩
 obtain⟨NH,hNH⟩:∃NH,kZ ms=NH:=⟨_,rfl⟩
 rw[hNH] at hO7 ⊢
 have hH7:=hO7.at
 obtain⟨ah,ch,evc⟩:=hH7.c.shape
 obtain⟨sh,cs,evs⟩:=hH7.s.shape
 subst evc evs
 have B7:=B6.trans (t7.mono z6)
 have x7:=x6.below t7
 have M7:=M6.below t7
 have y7:=y6.below t7
 have I7:=I6.below t7
 have z7:=B7.size
 clear HN t7 x6 B6 M6 y6 I6 p0 z6 hO7
 unfold jK
 go_upto_region 9 with fail
 refine ym (fun W=>zO w W/\Bx W w1.heap.size 25 [.slice aV ms.length cV]/\yD W (.slice aV ms.length cV) ms/\Bx W w3.heap.size 34 [.int .i64 M.cells,.slice aI1 M.zd.length cI1,.slice aI2 M.order.length cI2,.int .i64 M.now,.slice aI3 M.ze.length cI3,.int .i64 M.born,.slice aI4 M.zm.length cI4,.int .i64 M.code]/\ql W (.slice aI1 M.zd.length cI1) (.slice aI2 M.order.length cI2) (.slice aI3 M.ze.length cI3) (.slice aI4 M.zm.length cI4) M/\Bx W w7.heap.size 44 [.slice ah NH.za.length ch,.int .i64 NH.now,.int .i64 NH.born,.slice sh NH.zm.length cs,.int .i64 NH.code]/\wu W (.slice ah NH.za.length ch) (.slice sh NH.zm.length cs) NH) ⟨B7.alloc z7 _,x7.alloc _,M7.below (zR _ _),y7.alloc _,I7.below (zR _ _),Bx.new _ _ _,hH7.below (zR _ _)⟩ ?_
 rintro w8 ⟨B8,x8,M8,y8,I8,h8,H8⟩
 have z8:=B8.size
 clear x7 B7 M7 y7 I7 hH7
 obtain⟨N,hNe⟩:∃N,zbq % 300=N:=⟨_,rfl⟩
 have hN:N<300:=by rw[<-hNe];exact Nat.mod_lt _ (by omega)
 have hNz:(zbq:Int).tmod 300=(N:Int):=by
  rw[Int.tmod_eq_emod_of_nonneg (by omega)]
  omega
 have p0:=x8.cell 0 rfl
 obtain⟨⟨u0,u1,u2,u3,u4,u5,u6,u7⟩,_⟩:=uk y8
 have HR:=WU HP.out.1 hn.1 hn.2 HRA.out HMF.out N w8 M8 (HT.out.below B8) I8 (by omega)
 rw[hNH] at HR
 obtain⟨XH,hXH⟩:∃XH,zV ms N NH=XH:=⟨_,rfl⟩
 rw[hXH] at HR
 unfold zE at HR
 go_wp2_with fail
 refine HR.mono ?_
 rintro e w9 ⟨LX,v1,v2,v3,v4,rfl,X9,hRan,t9⟩
 obtain⟨X,hX⟩:∃X,JH LX XH.born XH.zm XH.code=X:=⟨_,rfl⟩
 rw[hX] at X9 ⊢
 obtain⟨aX1,cX1,eX1⟩:=X9.p.shape
 obtain⟨aX2,cX2,eX2⟩:=X9.o.shape
 obtain⟨aX3,cX3,eX3⟩:=X9.t.shape
 obtain⟨aX4,cX4,eX4⟩:=X9.s.shape
 subst eX1 eX2 eX3 eX4
 have B9:=B8.trans (t9.mono z8)
 have x9:=x8.below t9
 have M9:=M8.below t9
 have h9:=h8.below t9
 have H9:=H8.below t9
 have z9:=B9.size
 have HX:Hid (JH LX XH.born XH.zm XH.code=X/\zbW (xX c (n - 1) (yK n n) (YG (yx ms))) LX XH):=⟨hX,hRan⟩
 clear HR t9 x8 B8 M8 y8 I8 h8 H8 p0 z8 u0 u1 u2 u3 u4 u5 u6 u7 hX hRan
 go_upto_region 11 with fail
 refine ym (fun W=>zO w W/\Bx W w1.heap.size 25 [.slice aV ms.length cV]/\yD W (.slice aV ms.length cV) ms/\Bx W w7.heap.size 44 [.slice ah NH.za.length ch,.int .i64 NH.now,.int .i64 NH.born,.slice sh NH.zm.length cs,.int .i64 NH.code]/\wu W (.slice ah NH.za.length ch) (.slice sh NH.zm.length cs) NH/\Bx W w9.heap.size 34 [.int .i64 X.cells,.slice aX1 X.zd.length cX1,.slice aX2 X.order.length cX2,.int .i64 X.now,.slice aX3 X.ze.length cX3,.int .i64 X.born,.slice aX4 X.zm.length cX4,.int .i64 X.code]/\ql W (.slice aX1 X.zd.length cX1) (.slice aX2 X.order.length cX2) (.slice aX3 X.ze.length cX3) (.slice aX4 X.zm.length cX4) X) ⟨B9.alloc z9 _,x9.alloc _,M9.below (zR _ _),h9.alloc _,H9.below (zR _ _),Bx.new _ _ _,X9.below (zR _ _)⟩ ?_
 rintro vB ⟨B10,x10,M10,h10,H10,q10,X10⟩
 have z10:=B10.size
 clear x9 B9 M9 h9 H9 X9
 have p0:=x10.cell 0 rfl
 obtain⟨d0,d1,d2,d3,d4⟩:=bx5 h10
 have hG:=HRA.out.good
 have hlen:=hG.lens
 rw[hNH] at hG hlen
 have hs0:NH.zm.length=0:=by rw[<-hNH,uz HP.out.1];rfl
 have HH:=JA _ _ _ ms NH 400 vB M10 (HT.out.below B10) H10 (by omega) (by omega)
 have hYH:Ki ms NH 400=zV ms 400 NH:=by
  have h4:(400:Int).toNat=400:=by decide
  unfold Ki
  rw[if_pos (by rw[Q5.2 hG];rfl),h4]
 have hYo:(xm ms NH && qC 400 0 400)=true:=by rw[Q5.2 hG];rfl
 rw[hYH,hYo] at HH
 obtain⟨Y,hY⟩:∃Y,zV ms 400 NH=Y:=⟨_,rfl⟩
 rw[hY] at HH
 unfold jK at HH
 have HEQ:Hid (kZ ms=NH/\zV ms N NH=XH/\zV ms 400 NH=Y/\Good ms NH):=⟨hNH,hXH,hY,hG⟩
 clear hYH hYo hNH hXH hY hG hlen hs0
 go_wp2_with fail
 refine HH.mono ?_
 rintro e w11 ⟨⟨vc11,vs11,V11,rfl,hO11⟩,t11⟩
 have hY11:=hO11.at
 obtain⟨ay,cy,evc⟩:=hY11.c.shape
 obtain⟨by',cby,evs⟩:=hY11.s.shape
 subst evc evs
 have B11:=B10.trans (t11.mono z10)
 have q11:=q10.below t11
 have X11:=X10.below t11
 have z11:=B11.size
 have hYs:=hO11.s
 clear HH t11 x10 B10 M10 h10 H10 q10 X10 p0 z10 d0 d1 d2 d3 d4 hO11
 go_upto_region 12 with fail
 refine ym (fun W=>zO w W/\Bx W w9.heap.size 34 [.int .i64 X.cells,.slice aX1 X.zd.length cX1,.slice aX2 X.order.length cX2,.int .i64 X.now,.slice aX3 X.ze.length cX3,.int .i64 X.born,.slice aX4 X.zm.length cX4,.int .i64 X.code]/\ql W (.slice aX1 X.zd.length cX1) (.slice aX2 X.order.length cX2) (.slice aX3 X.ze.length cX3) (.slice aX4 X.zm.length cX4) X/\Bx W w11.heap.size 44 [.slice ay Y.za.length cy,.int .i64 Y.now,.int .i64 Y.born,.slice by' Y.zm.length cby,.int .i64 Y.code]/\zk vB.heap.size W (.slice by' Y.zm.length cby) Y.zm) ⟨B11.alloc z11 _,q11.alloc _,X11.below (zR _ _),Bx.new _ _ _,hYs.below (zR _ _)⟩ ?_
 rintro w12 ⟨B12,q12,X12,r12,Y12⟩
 have z12:=B12.size
 clear B11 q11 X11 hY11 hYs
 obtain⟨hNH,hXH,hY,hG⟩:=HEQ.out
 obtain⟨l,hl2⟩:∃l,Y.zm=XH.zm ++ l:=by
  have:=(Kw ms (400 - N) XH).zm
  rw[<-hXH,<-UY,show N+(400 - N)=400 by omega,hY,hXH] at this
  exact this
 have hXs:X.zm=XH.zm:=by rw[<-HX.out.1];rfl
 have hXb:X.born=XH.born:=by rw[<-HX.out.1];rfl
 have hle:X.zm.length<=Y.zm.length:=by rw[hXs,hl2];simp
 have htake:Y.zm.take X.zm.length=X.zm:=by rw[hXs,hl2];simp
 have hborn:X.born<=Y.born:=by
  have h1:=Kw ms (400 - N) XH
  have h2:=h1.born
  have h3:=h1.more
  rw[<-hXH,<-UY,show N+(400 - N)=400 by omega,hY,hXH] at h2 h3
  omega
 have hcut:=Y12.cutTo hle
 rw[htake] at hcut
 have hcap:X.zm.length<=cby:=(Y12.piece zY hle).2
 have HLM:Hid (∀W,zO w12 W->Calls Tryz.prog 21 #[.slice by' X.zm.length cby,.slice aX4 X.zm.length cX4] W fun e w'=>e=.returned (.bool true)/\zO W w'):=fun W hW=>by
  have:=zbt _ _ _ _ W (hcut.below hW).at (X12.s.below hW)
  rw[decide_eq_true rfl] at this
  exact this
 have hlez:(X.zm.length:Int)<=(Y.zm.length:Int):=by omega
 have hcz:(X.zm.length:Int)<=(cby:Int):=by omega
 have e6:=q12.cell 6 rfl
 have e5:=q12.cell 5 rfl
 have f3:=r12.cell 3 rfl
 have f2:=r12.cell 2 rfl
 have HS:∀w':World,zO w12 w'->((w'.cell? (zH w9.heap.size 6)=some (.slice aX4 X.zm.length cX4)/\w'.cell? (zH w9.heap.size 5)=some (zI X.born)/\w'.cell? (zH w11.heap.size 3)=some (.slice by' Y.zm.length cby)/\w'.cell? (zH w11.heap.size 2)=some (zI Y.born))/\zO w12 w'):=fun w' hb=>⟨⟨zc hb e6,zc hb e5,zc hb f3,zc hb f2⟩,hb⟩
 clear q12 X12 r12 Y12 hcut htake hl2 hG hY hXH hNH hXs hXb l
 go_region_held3 (fun w'=>(w'.cell? (zH w9.heap.size 6)=some (.slice aX4 X.zm.length cX4)/\w'.cell? (zH w9.heap.size 5)=some (zI X.born)/\w'.cell? (zH w11.heap.size 3)=some (.slice by' Y.zm.length cby)/\w'.cell? (zH w11.heap.size 2)=some (zI Y.born))/\zO w12 w')
  ((refine HS _ ?_;first
   | (with_reducible exact(‹(_/\_/\_/\_)/\zO w12 _›).2)
   | (with_reducible exact zS.drew)
   | (with_reducible exact QN)))
  ((go_at_call 21;refine(HLM.out _ (‹(_/\_/\_/\_)/\zO w12 _›).2).mono ?_;rintro e wT ⟨rfl,hbT⟩;have QN:=Below.trans (‹(_/\_/\_/\_)/\zO w12 _›).2 (hbT.mono ((‹(_/\_/\_/\_)/\zO w12 _›).2).size)))
 all_goals
  have BT9:=B12.trans (QN.mono z12)
  clear HS HLM
  go_wp2
  go_ret
  exact⟨zo (by first | rfl | simp[hborn]),BT9⟩
end Go.Proofs.YtbjgjjkgfnfejaaGreatDoor
