/-
  The document's model of HeapOk, its pieces: l11Val, l11Vals, l11Said, l11Form answer the plain functions; they write to nothing that was there.
-/
import Derived.Test.YtbjgjjkgfnfejaaGreatDoorImplOk3
import Derived.Test.YtbjgjjkgfnfejaaGreatDoorHCopy
import Derived.BigQuiet
namespace Go.Proofs.YtbjgjjkgfnfejaaGreatDoor
set_option maxHeartbeats 4000000
open Go.RowKit
theorem X0 {B:Nat} {a w:World} (h:Below B a w):∀n,Below B a (w.drewN n)
 | 0=>h
 | n+1=>by
  have:=X0 h n
  exact⟨this.os,this.tape,this.output,this.size,this.block⟩
theorem zdm {ms:zM} {n:Nat} {c:Cl} (h:qC c.m 0 ((ms.length:Int) - 1)=false):xN ms n c=false:=by simp[xN,h]
theorem zeE {ms:zM} {n mn:Nat} (hm:mn<ms.length) (pc:Int) (zg zf:yH) (zi:Int) (zv:Bool) :
 xN ms n ⟨mn,pc,zg,zf,zi,zv⟩=(qC pc 0 (ms[mn].2.2.length:Int) && decide ((zg.length:Int)=ms[mn].2.1) && decide (zf.length<=6) && (qC zi (-1) ((n:Int) - 1) && yA n zg && yA n zf && (!zv || (zi == -1 && zf.length == 0)))):=by
 have e:ms.getD ((mn:Int)).toNat (0,0,[])=ms[mn]:=by simp[hm]
 have h1:qC ((mn:Int)) 0 ((ms.length:Int) - 1)=true:=zF.2 (by omega)
 simp only[xN,e,h1,Bool.true_and]
theorem Vl (k a n:Int) (w:World) :
 Calls Tryz.prog 136 #[.agg #[zI k,zI a],zI n] w fun e w'=>e=.returned (.bool (qQ n k a))/\zO w w':=by
 have hB:∀o,zO w (w.alloc o):=fun o=>zR _ _
 by_cases h1:k=1
 ·subst h1
  go_enter Tryz.func136,Tryz.ntmps136
  go_wp2_with (go_at_call 58;refine(yc _ _ _).mono ?_;rintro e w' ⟨rfl,rfl⟩)
  go_ret
  exact⟨rfl,hB _⟩
 have e1:(k == 1)=false:=zG.2 h1
 by_cases h2:k=2
 ·subst h2
  go_enter Tryz.func136,Tryz.ntmps136
  go_wp2_with (go_at_call 58;refine(yc _ _ _).mono ?_;rintro e w' ⟨rfl,rfl⟩)
  go_ret
  exact⟨rfl,hB _⟩
 have e2:(k == 2)=false:=zG.2 h2
 by_cases h0:k=0
 ·subst h0
  go_enter Tryz.func136,Tryz.ntmps136
  by_cases ha:a=0
  ·go_wp2
   go_ret
   exact⟨zo (by simp[qQ,ha]),hB _⟩
  ·go_wp2
   go_ret
   exact⟨zo (by simp[qQ,ha]),hB _⟩
 have e0:(k == 0)=false:=zG.2 h0
 go_enter Tryz.func136,Tryz.ntmps136
 go_wp2
 go_ret
 exact⟨zo (by simp[qQ,h0,h1,h2]),hB _⟩
theorem wM (v:Value) (l:yH) (n:Int) (w:World) (h:yo w v l) :
 Calls Tryz.prog 106 #[v,zI n] w fun e w'=>e=.returned (.bool (yA n l))/\zO w w':=by
 obtain⟨a,cap,rfl,hl,hc⟩:=h
 unfold maxLen at hl
 go_enter Tryz.func106,Tryz.ntmps106
 go_wp2
 go_loopg [9] l.length (fun g i wr=>∃k:Nat,k<=l.length/\g=l.length - k/\i=zI k/\zO w wr/\∀j,(hj:j<l.length)->j<k->qQ n l[j].1 l[j].2=true)
 case atStart=>exact⟨0,Nat.zero_le _,rfl,rfl,zS,fun j _ h=>absurd h yB⟩
 case round =>
  obtain⟨k,hk,rfl,rfl,hb,hall⟩:=hrel
  have H:Hid (∀j,(hj:j<l.length)->j<k->qQ n l[j].1 l[j].2=true):=hall
  clear hall
  by_cases yz:k<l.length
  ·obtain⟨b,o,rfl,c0,c1⟩:=hc k yz
   have d0:=zc hb c0
   have d1:=zc hb c1
   have uW:(k:Int)<(l.length:Int):=by omega
   clear c0 c1
   obtain⟨r,hr⟩:∃r,qQ n l[k].1 l[k].2=r:=⟨_,rfl⟩
   have HR:Hid (qQ n l[k].1 l[k].2=r):=hr
   clear hr
   go_wp2_with fail
   refine(Vl _ _ n _).mono ?_
   rintro e w1 ⟨rfl,qa⟩
   have yL:zO w w1:=(hb.alloc hb.size _).trans (qa.mono (by have:=hb.size;simp;omega))
   rw[HR.out]
   clear hb qa d0 d1
   cases r
   ·go_wp2
    go_ret
    exact⟨zo (zdd yz HR.out).symm,yL⟩
   ·go_wp2
    go_roundg (l.length - (k+1))
    case measure=>omega
    case rel =>
     refine⟨k+1,by omega,rfl,by go_num,yL,fun j hj hjk=>?_⟩
     by_cases e:j=k
     ·subst e;exact HR.out
     ·exact H.out j hj (by omega)
  ·obtain rfl:k=l.length:=by omega
   go_wp2
   go_ret
   exact⟨zo (KX (fun i hi=>H.out i hi hi)).symm,hb⟩
theorem jN (n:Int) (w:World) :
 Calls Tryz.prog 61 #[zI n] w fun e w'=>e=.returned (.bool (qC n 1 30))/\w'=w:=by
 go_enter Tryz.func61,Tryz.ntmps61
 by_cases h:1<=n
 ·go_wp2
  go_ret
  exact⟨zo (by rw[Bool.eq_iff_iff,zF,decide_eq_true_iff];omega),rfl⟩
 ·go_wp2
  go_ret
  exact⟨zo (by rw[eq_comm,qc];omega),rfl⟩
theorem qi (a n:Int) (w:World) :
 Calls Tryz.prog 96 #[zI a,zI n] w fun e w'=>e=.returned (.bool (a == -1 || qC a 0 (n - 1)))/\w'=w:=by
 by_cases h:a=-1
 ·subst h
  go_enter Tryz.func96,Tryz.ntmps96
  go_wp2
  go_ret
  exact⟨rfl,rfl⟩
 have e1:(a == -1)=false:=zG.2 h
 go_enter Tryz.func96,Tryz.ntmps96
 go_wp2_with (go_at_call 58;refine(yc _ _ _).mono ?_;rintro e w' ⟨rfl,hw⟩;obtain rfl:=hw.symm)
 go_ret
 exact⟨zo (by simp[e1]),rfl⟩
theorem wL (c a:Int) (w:World) :
 Calls Tryz.prog 64 #[zI c,zI a] w fun e w'=>e=.returned (.bool (qC c 0 3 && ((c == 1) == (a == -1))))/\w'=w:=by
 by_cases h:0<=c
 ·by_cases h3:c<=3
  ·have hi:qC c 0 3=true:=zF.2 ⟨h,h3⟩
   rw[hi,Bool.true_and]
   go_enter Tryz.func64,Tryz.ntmps64
   go_wp2
   go_ret
   exact⟨zo (by first | rfl | simp),rfl⟩
  ·have hi:qC c 0 3=false:=qc.2 (by omega)
   rw[hi,Bool.false_and]
   have h3':3<c:=by omega
   go_enter Tryz.func64,Tryz.ntmps64
   go_wp2
   go_ret
   exact⟨rfl,rfl⟩
 ·have hi:qC c 0 3=false:=qc.2 (by omega)
  rw[hi,Bool.false_and]
  have h':c<0:=by omega
  go_enter Tryz.func64,Tryz.ntmps64
  go_wp2
  go_ret
  exact⟨rfl,rfl⟩
theorem Yw (vp v:Value) (ms:zM) (l:yH) (w:World) (hp:yD w vp ms) (h:yo w v l) :
 Calls Tryz.prog 63 #[.agg #[vp],v] w fun e w'=>e=.returned (.bool (yA ms.length l))/\zO w w':=by
 obtain⟨ap,cp,rfl,hlp,_⟩:=hp
 unfold maxLen at hlp
 have hB:∀o,zO w (w.alloc o):=fun o=>zR _ _
 have hN:∀o,yo (w.alloc o) v l:=fun o=>h.below (hB o)
 go_enter Tryz.func63,Tryz.ntmps63
 go_wp2_with (go_at_call 106;refine(wM _ _ _ _ (hN _)).mono ?_;rintro e w1 ⟨rfl,qa⟩)
 go_ret
 exact⟨rfl,(hB _).trans (qa.mono (by simp))⟩
theorem Ua {n:Nat} {s:Int}:(s == -1 || qC s 0 ((n:Int) - 1))=qC s (-1) ((n:Int) - 1):=by
 rw[Bool.eq_iff_iff,Bool.or_eq_true,zF,zF,beq_iff_eq]
 omega
theorem wK (vp vt vs:Value) (ms:zM) (c:Cl) (n:Nat) (w:World) (hp:yD w vp ms) (ht:yo w vt c.zg) (hs:yo w vs c.zf) (_hn:n<=maxLen) (hops:∀i,(h:i<ms.length)->ms[i].2.2.length<=1000000) :
 Calls Tryz.prog 97 #[.agg #[vp],.agg (ZO vt vs c),zI n] w fun e w'=>e=.returned (.bool (xN ms n c))/\zO w w':=by
 unfold ZO
 obtain⟨m,pc,zg,zf,zi,zv⟩:=c
 simp only[] at ht hs ⊢
 obtain⟨ap,cp,rfl,hlp,hcp⟩:=hp
 obtain⟨a1,k1,h1⟩:=ht.shape
 obtain⟨a2,k2,h2⟩:=hs.shape
 subst h1 h2
 have hst:zf.length<=9223372036854775807:=by obtain⟨_,_,_,hx,_⟩:=hs;unfold maxLen at hx;omega
 have htt:zg.length<=9223372036854775807:=by obtain⟨_,_,_,hx,_⟩:=ht;unfold maxLen at hx;omega
 unfold maxLen at hlp _hn
 have hA:zO w ((w.alloc (.cells #[.slice ap ms.length cp] 25)).alloc (.cells #[.int .i64 m,.int .i64 pc,.slice a1 zg.length k1,.slice a2 zf.length k2,.int .i64 zi,.bool zv] 96)):=(zR _ _).alloc (by simp) _
 have bp:((w.alloc (.cells #[.slice ap ms.length cp] 25)).alloc (.cells #[.int .i64 m,.int .i64 pc,.slice a1 zg.length k1,.slice a2 zf.length k2,.int .i64 zi,.bool zv] 96)).cell? (zH w.heap.size 0)=some (.slice ap ms.length cp):=by simp[go_sem]
 have bc:=wb (w.alloc (.cells #[.slice ap ms.length cp] 25)) 96 (.int .i64 m) (.int .i64 pc) (.slice a1 zg.length k1) (.slice a2 zf.length k2) (.int .i64 zi) (.bool zv)
 simp only[World.size_alloc] at bc
 go_enter Tryz.func97,Tryz.ntmps97
 go_upto_region 1 with fail
 generalize (w.alloc (.cells #[.slice ap ms.length cp] 25)).alloc (.cells #[.int .i64 m,.int .i64 pc,.slice a1 zg.length k1,.slice a2 zf.length k2,.int .i64 zi,.bool zv] 96)=W0 at *
 obtain⟨⟨x0,x1,x2,x3,x4,x5⟩,_⟩:=jS bc
 have hAd:∀k,zO w (W0.drewN k):=fun k=>X0 hA k
 have zA:=hA.size
 clear bc
 cases hm:qC m 0 ((ms.length:Int) - 1)
 ·have HC:Hid (xN ms n ⟨m,pc,zg,zf,zi,zv⟩=false):=zdm hm
  clear hcp ht hs hops
  go_wp2_with (go_at_call 58;refine(yc _ _ _).mono ?_;rintro e w' ⟨rfl,hw⟩;obtain rfl:=hw.symm;rw[hm])
  go_ret
  exact⟨zo HC.out.symm,hA⟩
 have QP:=zF.1 hm
 obtain⟨mn,hmn⟩:=Int.eq_ofNat_of_zero_le QP.1
 subst hmn
 have wX:mn<ms.length:=by omega
 have hmz:(mn:Int)<(ms.length:Int):=by omega
 obtain⟨b,o,vo,rfl,c0,c1,c2,c3⟩:=hcp mn wX
 have d0:=zc hA c0
 have d1:=zc hA c1
 have d2:=zc hA c2
 obtain⟨ao,co,j5⟩:=c3.shape
 subst j5
 have hol:ms[mn].2.2.length<=1000000:=hops mn wX
 have HMK:Hid (xN ms n ⟨mn,pc,zg,zf,zi,zv⟩=_):=zeE wX pc zg zf zi zv
 have H3:=fun(w':World) (hb:zO w w')=>c3.below hb
 clear hcp c0 c1 c2 c3 hops
 have hx:=@Ua n zi
 cases hse:qC zi (-1) ((n:Int) - 1)
 ·have HC:Hid (xN ms n ⟨mn,pc,zg,zf,zi,zv⟩=false):=by
   have:=HMK.out
   rw[hse] at this
   show _=_
   simpa using this
  rw[hse] at hx
  have HX:Hid ((zi == -1 || qC zi 0 ((n:Int) - 1))=false):=hx
  clear ht hs H3 hx
  go_wp2_with (first | (go_at_call 58;refine(yc _ _ _).mono ?_;rintro e w' ⟨rfl,hw⟩;obtain rfl:=hw.symm;rw[hm]) | (go_at_call 96;refine(qi _ _ _).mono ?_;rintro e w' ⟨rfl,hw⟩;obtain rfl:=hw.symm;rw[HX.out]))
  go_ret
  exact⟨zo HC.out.symm,hA⟩
 rw[hse] at hx
 have HX:Hid ((zi == -1 || qC zi 0 ((n:Int) - 1))=true):=hx
 clear hx
 have hol2:((ms[mn].2.2.length:Nat):Int)<=1000000:=by omega
 have hpe:((ms[mn].2.2.length:Nat):Int)+1 - 1=(ms[mn].2.2.length:Nat):=by omega
 go_upto_region 4 with(first | (go_at_call 58;refine(yc _ _ _).mono ?_;rintro e w' ⟨rfl,hw⟩;obtain rfl:=hw.symm;rw[hm]) | (go_at_call 96;refine(qi _ _ _).mono ?_;rintro e w' ⟨rfl,hw⟩;obtain rfl:=hw.symm;rw[HX.out]))
 have hB:=hA.alloc zA (.cells #[.int .i64 ms[mn].1,.int .i64 ms[mn].2.1,.slice ao ms[mn].2.2.length co] 68)
 have hW:=zR W0 (.cells #[.int .i64 ms[mn].1,.int .i64 ms[mn].2.1,.slice ao ms[mn].2.2.length co] 68)
 have y1:=zc hW x1
 have y2:=zc hW x2
 have y3:=zc hW x3
 have y4:=zc hW x4
 have y5:=zc hW x5
 have z1:(W0.alloc (.cells #[.int .i64 ms[mn].1,.int .i64 ms[mn].2.1,.slice ao ms[mn].2.2.length co] 68)).cell? (zH W0.heap.size 1)=some (.int .i64 ms[mn].2.1):=by simp[go_sem]
 have z2:(W0.alloc (.cells #[.int .i64 ms[mn].1,.int .i64 ms[mn].2.1,.slice ao ms[mn].2.2.length co] 68)).cell? (zH W0.heap.size 2)=some (.slice ao ms[mn].2.2.length co):=by simp[go_sem]
 generalize W0.alloc (.cells #[.int .i64 ms[mn].1,.int .i64 ms[mn].2.1,.slice ao ms[mn].2.2.length co] 68)=W1 at *
 have VO:=ht.below hB
 have hs1:=hs.below hB
 clear x0 x1 x2 x3 x4 x5 bp hA hAd zA d0 d1 d2 H3 HX hm QP hW ht hs
 generalize W0.heap.size=bm at *
 generalize ms[mn].2.2.length=no at *
 generalize ms[mn].2.1=T at *
 generalize ms[mn].1=A at *
 cases hpc:qC pc 0 (no:Int)
 ·have HC:Hid (xN ms n ⟨mn,pc,zg,zf,zi,zv⟩=false):=by
   have:=HMK.out
   show _=_
   rw[this]
   simp[hpc]
  clear VO hs1 HMK
  go_wp2_with (go_at_call 58;refine(yc _ _ _).mono ?_;rintro e w' ⟨rfl,hw⟩;obtain rfl:=hw.symm;rw[hpe,hpc])
  go_ret
  exact⟨zo HC.out.symm,hB⟩
 by_cases hT:¬(zg.length:Int)=T
 ·have HC:Hid (xN ms n ⟨mn,pc,zg,zf,zi,zv⟩=false):=by
   have:=HMK.out
   show _=_
   rw[this]
   simp[hT]
  clear VO hs1 HMK
  go_wp2_with (go_at_call 58;refine(yc _ _ _).mono ?_;rintro e w' ⟨rfl,hw⟩;obtain rfl:=hw.symm;rw[hpe,hpc])
  go_ret
  exact⟨zo HC.out.symm,hB⟩
 have hT:=Decidable.not_not.1 hT
 subst hT
 by_cases h6:¬zf.length<=6
 ·have h6':6<(zf.length:Int):=by omega
  have HC:Hid (xN ms n ⟨mn,pc,zg,zf,zi,zv⟩=false):=by
   have:=HMK.out
   show _=_
   rw[this]
   simp[h6]
  clear VO hs1 HMK
  go_wp2_with (go_at_call 58;refine(yc _ _ _).mono ?_;rintro e w' ⟨rfl,hw⟩;obtain rfl:=hw.symm;rw[hpe,hpc])
  go_ret
  exact⟨zo HC.out.symm,hB⟩
 have h6:=Decidable.not_not.1 h6
 have h6':(zf.length:Int)<=6:=by omega
 have HM2:Hid (xN ms n ⟨mn,pc,zg,zf,zi,zv⟩=(yA n zg && yA n zf && (!zv || (zi == -1 && zf.length == 0)))):=by
  have:=HMK.out
  show _=_
  rw[this]
  simp[hpc,h6,hse]
 clear HMK
 have FIN:Hid ((!zv || (zi == -1 && zf.length == 0))=true->xN ms n ⟨mn,pc,zg,zf,zi,zv⟩=(yA n zg && yA n zf)):=fun h=>by rw[HM2.out,h,Bool.and_true]
 have BAD:Hid ((!zv || (zi == -1 && zf.length == 0))=false->xN ms n ⟨mn,pc,zg,zf,zi,zv⟩=false):=fun h=>by rw[HM2.out,h,Bool.and_false]
 clear HM2
 have VT:=wM _ _ (n:Int) _ VO
 have HV:Hid (∀w',zO W1 w'->Calls Tryz.prog 106 #[.slice a2 zf.length k2,zI n] w' fun e w2=>e=.returned (.bool (yA n zf))/\zO w' w2):=fun w' hb=>wM _ _ (n:Int) _ (hs1.below hb)
 have HT:Hid (Calls Tryz.prog 106 #[.slice a1 zg.length k1,zI n] W1 fun e w2=>e=.returned (.bool (yA n zg))/\zO W1 w2):=VT
 clear VT VO hs1
 have zB:=hB.size
 cases hd:zv
 ·subst hd
  have HF:Hid (xN ms n ⟨mn,pc,zg,zf,zi,false⟩=(yA n zg && yA n zf)):=FIN.out rfl
  clear FIN BAD
  obtain⟨vt1,zdZ⟩:∃r,yA n zg=r:=⟨_,rfl⟩
  have HVT:Hid (yA n zg=vt1):=zdZ
  clear zdZ
  cases vt1
  ·go_wp2_with (first | (go_at_call 58;refine(yc _ _ _).mono ?_;rintro e w' ⟨rfl,hw⟩;obtain rfl:=hw.symm;rw[hpe,hpc]) | (go_at_call 106;refine HT.out.mono ?_;rintro e w2 ⟨rfl,yL⟩;rw[HVT.out]))
   go_ret
   exact⟨zo (by rw[HF.out,HVT.out,Bool.false_and]),hB.trans (yL.mono zB)⟩
  ·go_wp2_with (first | (go_at_call 58;refine(yc _ _ _).mono ?_;rintro e w' ⟨rfl,hw⟩;obtain rfl:=hw.symm;rw[hpe,hpc]) | (go_at_call 106;have hh:=yL;clear hh;refine(HV.out _ yL).mono ?_;rintro e w3 ⟨rfl,xn⟩) | (go_at_call 106;refine HT.out.mono ?_;rintro e w2 ⟨rfl,yL⟩;rw[HVT.out];have y3w:=zc yL y3;have zb2:=yL.size))
   go_ret
   exact⟨zo (by rw[HF.out,HVT.out,Bool.true_and]),(hB.trans (yL.mono zB)).trans (xn.mono (Nat.le_trans zB zb2))⟩
 ·subst hd
  by_cases h0:¬zf.length=0
  ·have h0':0<(zf.length:Int):=by omega
   have HC:Hid (xN ms n ⟨mn,pc,zg,zf,zi,true⟩=false):=BAD.out (by simp[h0])
   clear HT HV FIN BAD
   go_wp2_with (go_at_call 58;refine(yc _ _ _).mono ?_;rintro e w' ⟨rfl,hw⟩;obtain rfl:=hw.symm;rw[hpe,hpc])
   go_ret
   exact⟨zo HC.out.symm,hB⟩
  obtain rfl:zf=[]:=List.eq_nil_of_length_eq_zero (Decidable.not_not.1 h0)
  replace HV:Hid (∀w',zO W1 w'->Calls Tryz.prog 106 #[.slice a2 0 k2,zI n] w' fun e w2=>e=.returned (.bool (yA n []))/\zO w' w2):=HV
  replace y3:W1.cell? (zH (w.heap.size+1) 3)=some (.slice a2 0 k2):=y3
  clear h0 h6 h6' hst
  by_cases h1:¬zi=-1
  ·have e1:(zi == -1)=false:=zG.2 h1
   have e1':(zi != -1)=true:=by simp[h1]
   have HC:Hid (xN ms n ⟨mn,pc,zg,[],zi,true⟩=false):=BAD.out (by simp[h1])
   clear HT HV FIN BAD
   go_wp2_with (go_at_call 58;refine(yc _ _ _).mono ?_;rintro e w' ⟨rfl,hw⟩;obtain rfl:=hw.symm;rw[hpe,hpc])
   go_ret
   exact⟨zo HC.out.symm,hB⟩
  have h1:=Decidable.not_not.1 h1
  subst h1
  have HF:Hid (xN ms n ⟨mn,pc,zg,[],-1,true⟩=(yA n zg && yA n [])):=FIN.out rfl
  clear FIN BAD
  obtain⟨vt1,zdZ⟩:∃r,yA n zg=r:=⟨_,rfl⟩
  have HVT:Hid (yA n zg=vt1):=zdZ
  clear zdZ
  cases vt1
  ·go_wp2_with (first | (go_at_call 58;refine(yc _ _ _).mono ?_;rintro e w' ⟨rfl,hw⟩;obtain rfl:=hw.symm;rw[hpe,hpc]) | (go_at_call 106;refine HT.out.mono ?_;rintro e w2 ⟨rfl,yL⟩;rw[HVT.out]))
   go_ret
   exact⟨zo (by rw[HF.out,HVT.out,Bool.false_and]),hB.trans (yL.mono zB)⟩
  ·go_wp2_with (first | (go_at_call 58;refine(yc _ _ _).mono ?_;rintro e w' ⟨rfl,hw⟩;obtain rfl:=hw.symm;rw[hpe,hpc]) | (go_at_call 106;have hh:=yL;clear hh;refine(HV.out _ yL).mono ?_;rintro e w3 ⟨rfl,xn⟩) | (go_at_call 106;refine HT.out.mono ?_;rintro e w2 ⟨rfl,yL⟩;rw[HVT.out];have y3w:=zc yL y3;have zb2:=yL.size))
   go_ret
   exact⟨zo (by rw[HF.out,HVT.out,Bool.true_and]),(hB.trans (yL.mono zB)).trans (xn.mono (Nat.le_trans zB zb2))⟩
end Go.Proofs.YtbjgjjkgfnfejaaGreatDoor
