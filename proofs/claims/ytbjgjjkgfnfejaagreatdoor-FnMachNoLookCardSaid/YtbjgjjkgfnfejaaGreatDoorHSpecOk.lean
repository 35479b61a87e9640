/-
  The document's model of HeapOk, its pieces: l11Val, l11Vals, l11Said, l11Form answer the plain functions; they write to nothing that was there.
-/
import Derived.Test.YtbjgjjkgfnfejaaGreatDoorImplOk3
import Derived.Test.YtbjgjjkgfnfejaaGreatDoorHCopy
import Derived.BigQuiet
namespace Go.Proofs.YtbjgjjkgfnfejaaGreatDoor
set_option maxHeartbeats 4000000
open Go.RowKit
theorem JA {B:Nat} {a w:World} (h:Below B a w):∀n,Below B a (w.drewN n)
 | 0=>h
 | n+1=>by
  have:=JA h n
  exact⟨this.os,this.tape,this.output,this.size,this.block⟩
theorem zeB {ms:zM} {n:Nat} {c:Cl} (h:qy c.m 0 ((ms.length:Int) - 1)=false):kf ms n c=false:=by simp[kf,h]
theorem zfX {ms:zM} {n mn:Nat} (hm:mn<ms.length) (pc:Int) (zh zf:yH) (zi:Int) (zy:Bool) :
 kf ms n ⟨mn,pc,zh,zf,zi,zy⟩=(qy pc 0 (ms[mn].2.2.length:Int) && decide ((zh.length:Int)=ms[mn].2.1) && decide (zf.length<=6) && (qy zi (-1) ((n:Int) - 1) && yI n zh && yI n zf && (!zy || (zi == -1 && zf.length == 0)))):=by
 have e:ms.getD ((mn:Int)).toNat (0,0,[])=ms[mn]:=by simp[hm]
 have h1:qy ((mn:Int)) 0 ((ms.length:Int) - 1)=true:=zx.2 (by omega)
 simp only[kf,e,h1,Bool.true_and]
theorem Ud (k a n:Int) (w:World) :
 Calls Tryz.prog 136 #[.agg #[zI k,zI a],zI n] w fun e w'=>e=.returned (.bool (qW n k a))/\zO w w':=by
 have hB:∀o,zO w (w.alloc o):=fun o=>zR _ _
 by_cases h1:k=1
 ·subst h1
  go_enter Tryz.func136,Tryz.ntmps136
  go_wp2_with (go_at_call 58;refine(zZ _ _ _).mono ?_;rintro e w' ⟨rfl,rfl⟩)
  go_ret
  exact⟨rfl,hB _⟩
 have e1:(k == 1)=false:=zG.2 h1
 by_cases h2:k=2
 ·subst h2
  go_enter Tryz.func136,Tryz.ntmps136
  go_wp2_with (go_at_call 58;refine(zZ _ _ _).mono ?_;rintro e w' ⟨rfl,rfl⟩)
  go_ret
  exact⟨rfl,hB _⟩
 have e2:(k == 2)=false:=zG.2 h2
 by_cases h0:k=0
 ·subst h0
  go_enter Tryz.func136,Tryz.ntmps136
  by_cases ha:a=0
  ·go_wp2
   go_ret
   exact⟨zp (by simp[qW,ha]),hB _⟩
  ·go_wp2
   go_ret
   exact⟨zp (by simp[qW,ha]),hB _⟩
 have e0:(k == 0)=false:=zG.2 h0
 go_enter Tryz.func136,Tryz.ntmps136
 go_wp2
 go_ret
 exact⟨zp (by simp[qW,h0,h1,h2]),hB _⟩
theorem wO (v:Value) (l:yH) (n:Int) (w:World) (h:yi w v l) :
 Calls Tryz.prog 106 #[v,zI n] w fun e w'=>e=.returned (.bool (yI n l))/\zO w w':=by
 obtain⟨a,cap,rfl,hl,hc⟩:=h
 unfold maxLen at hl
 go_enter Tryz.func106,Tryz.ntmps106
 go_wp2
 go_loopg [9] l.length (fun g i wr=>∃k:Nat,k<=l.length/\g=l.length - k/\i=zI k/\zO w wr/\∀j,(hj:j<l.length)->j<k->qW n l[j].1 l[j].2=true)
 case atStart=>exact⟨0,Nat.zero_le _,rfl,rfl,zS,fun j _ h=>absurd h yB⟩
 case round =>
  obtain⟨k,hk,rfl,rfl,hb,hall⟩:=hrel
  have H:Hid (∀j,(hj:j<l.length)->j<k->qW n l[j].1 l[j].2=true):=hall
  clear hall
  by_cases yt:k<l.length
  ·obtain⟨b,o,rfl,c0,c1⟩:=hc k yt
   have d0:=zc hb c0
   have d1:=zc hb c1
   have v7:(k:Int)<(l.length:Int):=by omega
   clear c0 c1
   obtain⟨r,hr⟩:∃r,qW n l[k].1 l[k].2=r:=⟨_,rfl⟩
   have HR:Hid (qW n l[k].1 l[k].2=r):=hr
   clear hr
   go_wp2_with fail
   refine(Ud _ _ n _).mono ?_
   rintro e w1 ⟨rfl,qk⟩
   have yE:zO w w1:=(hb.alloc hb.size _).trans (qk.mono (by have:=hb.size;simp;omega))
   rw[HR.out]
   clear hb qk d0 d1
   cases r
   ·go_wp2
    go_ret
    exact⟨zp (zep yt HR.out).symm,yE⟩
   ·go_wp2
    go_roundg (l.length - (k+1))
    case measure=>omega
    case rel =>
     refine⟨k+1,by omega,rfl,by go_num,yE,fun j hj hjk=>?_⟩
     by_cases e:j=k
     ·subst e;exact HR.out
     ·exact H.out j hj (by omega)
  ·obtain rfl:k=l.length:=by omega
   go_wp2
   go_ret
   exact⟨zp (VN (fun i hi=>H.out i hi hi)).symm,hb⟩
theorem K3 (n:Int) (w:World) :
 Calls Tryz.prog 61 #[zI n] w fun e w'=>e=.returned (.bool (qy n 1 30))/\w'=w:=by
 go_enter Tryz.func61,Tryz.ntmps61
 by_cases h:1<=n
 ·go_wp2
  go_ret
  exact⟨zp (by rw[Bool.eq_iff_iff,zx,decide_eq_true_iff];omega),rfl⟩
 ·go_wp2
  go_ret
  exact⟨zp (by rw[eq_comm,qw];omega),rfl⟩
theorem kV (a n:Int) (w:World) :
 Calls Tryz.prog 96 #[zI a,zI n] w fun e w'=>e=.returned (.bool (a == -1 || qy a 0 (n - 1)))/\w'=w:=by
 by_cases h:a=-1
 ·subst h
  go_enter Tryz.func96,Tryz.ntmps96
  go_wp2
  go_ret
  exact⟨rfl,rfl⟩
 have e1:(a == -1)=false:=zG.2 h
 go_enter Tryz.func96,Tryz.ntmps96
 go_wp2_with (go_at_call 58;refine(zZ _ _ _).mono ?_;rintro e w' ⟨rfl,hw⟩;obtain rfl:=hw.symm)
 go_ret
 exact⟨zp (by simp[e1]),rfl⟩
theorem K4 (c a:Int) (w:World) :
 Calls Tryz.prog 64 #[zI c,zI a] w fun e w'=>e=.returned (.bool (qy c 0 3 && ((c == 1) == (a == -1))))/\w'=w:=by
 by_cases h:0<=c
 ·by_cases h3:c<=3
  ·have hi:qy c 0 3=true:=zx.2 ⟨h,h3⟩
   rw[hi,Bool.true_and]
   go_enter Tryz.func64,Tryz.ntmps64
   go_wp2
   go_ret
   exact⟨zp (by first | rfl | simp),rfl⟩
  ·have hi:qy c 0 3=false:=qw.2 (by omega)
   rw[hi,Bool.false_and]
   have h3':3<c:=by omega
   go_enter Tryz.func64,Tryz.ntmps64
   go_wp2
   go_ret
   exact⟨rfl,rfl⟩
 ·have hi:qy c 0 3=false:=qw.2 (by omega)
  rw[hi,Bool.false_and]
  have h':c<0:=by omega
  go_enter Tryz.func64,Tryz.ntmps64
  go_wp2
  go_ret
  exact⟨rfl,rfl⟩
theorem K7 (vp v:Value) (ms:zM) (l:yH) (w:World) (hp:yD w vp ms) (h:yi w v l) :
 Calls Tryz.prog 63 #[.agg #[vp],v] w fun e w'=>e=.returned (.bool (yI ms.length l))/\zO w w':=by
 obtain⟨ap,cp,rfl,hlp,_⟩:=hp
 unfold maxLen at hlp
 have hB:∀o,zO w (w.alloc o):=fun o=>zR _ _
 have hN:∀o,yi (w.alloc o) v l:=fun o=>h.below (hB o)
 go_enter Tryz.func63,Tryz.ntmps63
 go_wp2_with (go_at_call 106;refine(wO _ _ _ _ (hN _)).mono ?_;rintro e w1 ⟨rfl,qk⟩)
 go_ret
 exact⟨rfl,(hB _).trans (qk.mono (by simp))⟩
theorem zej {n:Nat} {s:Int}:(s == -1 || qy s 0 ((n:Int) - 1))=qy s (-1) ((n:Int) - 1):=by
 rw[Bool.eq_iff_iff,Bool.or_eq_true,zx,zx,beq_iff_eq]
 omega
theorem YL (vp vt vs:Value) (ms:zM) (c:Cl) (n:Nat) (w:World) (hp:yD w vp ms) (ht:yi w vt c.zh) (hs:yi w vs c.zf) (_hn:n<=maxLen) (hops:∀i,(h:i<ms.length)->ms[i].2.2.length<=1000000) :
 Calls Tryz.prog 97 #[.agg #[vp],.agg (kC vt vs c),zI n] w fun e w'=>e=.returned (.bool (kf ms n c))/\zO w w':=by
 unfold kC
 obtain⟨m,pc,zh,zf,zi,zy⟩:=c
 simp only[] at ht hs ⊢
 obtain⟨ap,cp,rfl,hlp,hcp⟩:=hp
 obtain⟨a1,k1,h1⟩:=ht.shape
 obtain⟨a2,k2,h2⟩:=hs.shape
 subst h1 h2
 have hst:zf.length<=9223372036854775807:=by obtain⟨_,_,_,hx,_⟩:=hs;unfold maxLen at hx;omega
 have htt:zh.length<=9223372036854775807:=by obtain⟨_,_,_,hx,_⟩:=ht;unfold maxLen at hx;omega
 unfold maxLen at hlp _hn
 have hA:zO w ((w.alloc (.cells #[.slice ap ms.length cp] 25)).alloc (.cells #[.int .i64 m,.int .i64 pc,.slice a1 zh.length k1,.slice a2 zf.length k2,.int .i64 zi,.bool zy] 96)):=(zR _ _).alloc (by simp) _
 have bp:((w.alloc (.cells #[.slice ap ms.length cp] 25)).alloc (.cells #[.int .i64 m,.int .i64 pc,.slice a1 zh.length k1,.slice a2 zf.length k2,.int .i64 zi,.bool zy] 96)).cell? (zH w.heap.size 0)=some (.slice ap ms.length cp):=by simp[go_sem]
 have bc:=Z7 (w.alloc (.cells #[.slice ap ms.length cp] 25)) 96 (.int .i64 m) (.int .i64 pc) (.slice a1 zh.length k1) (.slice a2 zf.length k2) (.int .i64 zi) (.bool zy)
 simp only[World.size_alloc] at bc
 go_enter Tryz.func97,Tryz.ntmps97
 go_upto_region 1 with fail
 generalize (w.alloc (.cells #[.slice ap ms.length cp] 25)).alloc (.cells #[.int .i64 m,.int .i64 pc,.slice a1 zh.length k1,.slice a2 zf.length k2,.int .i64 zi,.bool zy] 96)=W0 at *
 obtain⟨⟨x0,x1,x2,x3,x4,x5⟩,_⟩:=xu bc
 have hAd:∀k,zO w (W0.drewN k):=fun k=>JA hA k
 have zA:=hA.size
 clear bc
 cases hm:qy m 0 ((ms.length:Int) - 1)
 ·have HC:Hid (kf ms n ⟨m,pc,zh,zf,zi,zy⟩=false):=zeB hm
  clear hcp ht hs hops
  go_wp2_with (go_at_call 58;refine(zZ _ _ _).mono ?_;rintro e w' ⟨rfl,hw⟩;obtain rfl:=hw.symm;rw[hm])
  go_ret
  exact⟨zp HC.out.symm,hA⟩
 have ww:=zx.1 hm
 obtain⟨mn,hmn⟩:=Int.eq_ofNat_of_zero_le ww.1
 subst hmn
 have Zm:mn<ms.length:=by omega
 have hmz:(mn:Int)<(ms.length:Int):=by omega
 obtain⟨b,o,vo,rfl,c0,c1,c2,c3⟩:=hcp mn Zm
 have d0:=zc hA c0
 have d1:=zc hA c1
 have d2:=zc hA c2
 obtain⟨ao,co,jw⟩:=c3.shape
 subst jw
 have hol:ms[mn].2.2.length<=1000000:=hops mn Zm
 have HMK:Hid (kf ms n ⟨mn,pc,zh,zf,zi,zy⟩=_):=zfX Zm pc zh zf zi zy
 have H3:=fun(w':World) (hb:zO w w')=>c3.below hb
 clear hcp c0 c1 c2 c3 hops
 have hx:=@zej n zi
 cases hse:qy zi (-1) ((n:Int) - 1)
 ·have HC:Hid (kf ms n ⟨mn,pc,zh,zf,zi,zy⟩=false):=by
   have:=HMK.out
   rw[hse] at this
   show _=_
   simpa using this
  rw[hse] at hx
  have HX:Hid ((zi == -1 || qy zi 0 ((n:Int) - 1))=false):=hx
  clear ht hs H3 hx
  go_wp2_with (first | (go_at_call 58;refine(zZ _ _ _).mono ?_;rintro e w' ⟨rfl,hw⟩;obtain rfl:=hw.symm;rw[hm]) | (go_at_call 96;refine(kV _ _ _).mono ?_;rintro e w' ⟨rfl,hw⟩;obtain rfl:=hw.symm;rw[HX.out]))
  go_ret
  exact⟨zp HC.out.symm,hA⟩
 rw[hse] at hx
 have HX:Hid ((zi == -1 || qy zi 0 ((n:Int) - 1))=true):=hx
 clear hx
 have hol2:((ms[mn].2.2.length:Nat):Int)<=1000000:=by omega
 have hpe:((ms[mn].2.2.length:Nat):Int)+1 - 1=(ms[mn].2.2.length:Nat):=by omega
 go_upto_region 4 with(first | (go_at_call 58;refine(zZ _ _ _).mono ?_;rintro e w' ⟨rfl,hw⟩;obtain rfl:=hw.symm;rw[hm]) | (go_at_call 96;refine(kV _ _ _).mono ?_;rintro e w' ⟨rfl,hw⟩;obtain rfl:=hw.symm;rw[HX.out]))
 have hB:=hA.alloc zA (.cells #[.int .i64 ms[mn].1,.int .i64 ms[mn].2.1,.slice ao ms[mn].2.2.length co] 68)
 have hW:=zR W0 (.cells #[.int .i64 ms[mn].1,.int .i64 ms[mn].2.1,.slice ao ms[mn].2.2.length co] 68)
 have y1:=zc hW x1
 have y2:=zc hW x2
 have y3:=zc hW x3
 have y4:=zc hW x4
 have y5:=zc hW x5
 have z1:(W0.alloc (.cells #[.int .i64 ms[mn].1,.int .i64 ms[mn].2.1,.slice ao ms[mn].2.2.length co] 68)).cell? (zH W0.heap.size 1)=some (.int .i64 ms[mn].2.1):=by simp[go_sem]
 have z2:(W0.alloc (.cells #[.int .i64 ms[mn].1,.int .i64 ms[mn].2.1,.slice ao ms[mn].2.2.length co] 68)).cell? (zH W0.heap.size 2)=some (.slice ao ms[mn].2.2.length co):=by simp[go_sem]
 generalize W0.alloc (.cells #[.int .i64 ms[mn].1,.int .i64 ms[mn].2.1,.slice ao ms[mn].2.2.length co] 68)=W1 at *
 have UE:=ht.below hB
 have hs1:=hs.below hB
 clear x0 x1 x2 x3 x4 x5 bp hA hAd zA d0 d1 d2 H3 HX hm ww hW ht hs
 generalize W0.heap.size=bm at *
 generalize ms[mn].2.2.length=no at *
 generalize ms[mn].2.1=T at *
 generalize ms[mn].1=A at *
 cases hpc:qy pc 0 (no:Int)
 ·have HC:Hid (kf ms n ⟨mn,pc,zh,zf,zi,zy⟩=false):=by
   have:=HMK.out
   show _=_
   rw[this]
   simp[hpc]
  clear UE hs1 HMK
  go_wp2_with (go_at_call 58;refine(zZ _ _ _).mono ?_;rintro e w' ⟨rfl,hw⟩;obtain rfl:=hw.symm;rw[hpe,hpc])
  go_ret
  exact⟨zp HC.out.symm,hB⟩
 by_cases hT:¬(zh.length:Int)=T
 ·have HC:Hid (kf ms n ⟨mn,pc,zh,zf,zi,zy⟩=false):=by
   have:=HMK.out
   show _=_
   rw[this]
   simp[hT]
  clear UE hs1 HMK
  go_wp2_with (go_at_call 58;refine(zZ _ _ _).mono ?_;rintro e w' ⟨rfl,hw⟩;obtain rfl:=hw.symm;rw[hpe,hpc])
  go_ret
  exact⟨zp HC.out.symm,hB⟩
 have hT:=Decidable.not_not.1 hT
 subst hT
 by_cases h6:¬zf.length<=6
 ·have h6':6<(zf.length:Int):=by omega
  have HC:Hid (kf ms n ⟨mn,pc,zh,zf,zi,zy⟩=false):=by
   have:=HMK.out
   show _=_
   rw[this]
   simp[h6]
  clear UE hs1 HMK
  go_wp2_with (go_at_call 58;refine(zZ _ _ _).mono ?_;rintro e w' ⟨rfl,hw⟩;obtain rfl:=hw.symm;rw[hpe,hpc])
  go_ret
  exact⟨zp HC.out.symm,hB⟩
 have h6:=Decidable.not_not.1 h6
 have h6':(zf.length:Int)<=6:=by omega
 have HM2:Hid (kf ms n ⟨mn,pc,zh,zf,zi,zy⟩=(yI n zh && yI n zf && (!zy || (zi == -1 && zf.length == 0)))):=by
  have:=HMK.out
  show _=_
  rw[this]
  simp[hpc,h6,hse]
 clear HMK
 have FIN:Hid ((!zy || (zi == -1 && zf.length == 0))=true->kf ms n ⟨mn,pc,zh,zf,zi,zy⟩=(yI n zh && yI n zf)):=fun h=>by rw[HM2.out,h,Bool.and_true]
 have BAD:Hid ((!zy || (zi == -1 && zf.length == 0))=false->kf ms n ⟨mn,pc,zh,zf,zi,zy⟩=false):=fun h=>by rw[HM2.out,h,Bool.and_false]
 clear HM2
 have VT:=wO _ _ (n:Int) _ UE
 have HV:Hid (∀w',zO W1 w'->Calls Tryz.prog 106 #[.slice a2 zf.length k2,zI n] w' fun e w2=>e=.returned (.bool (yI n zf))/\zO w' w2):=fun w' hb=>wO _ _ (n:Int) _ (hs1.below hb)
 have HT:Hid (Calls Tryz.prog 106 #[.slice a1 zh.length k1,zI n] W1 fun e w2=>e=.returned (.bool (yI n zh))/\zO W1 w2):=VT
 clear VT UE hs1
 have zB:=hB.size
 cases hd:zy
 ·subst hd
  have HF:Hid (kf ms n ⟨mn,pc,zh,zf,zi,false⟩=(yI n zh && yI n zf)):=FIN.out rfl
  clear FIN BAD
  obtain⟨vt1,zfh⟩:∃r,yI n zh=r:=⟨_,rfl⟩
  have HVT:Hid (yI n zh=vt1):=zfh
  clear zfh
  cases vt1
  ·go_wp2_with (first | (go_at_call 58;refine(zZ _ _ _).mono ?_;rintro e w' ⟨rfl,hw⟩;obtain rfl:=hw.symm;rw[hpe,hpc]) | (go_at_call 106;refine HT.out.mono ?_;rintro e w2 ⟨rfl,yE⟩;rw[HVT.out]))
   go_ret
   exact⟨zp (by rw[HF.out,HVT.out,Bool.false_and]),hB.trans (yE.mono zB)⟩
  ·go_wp2_with (first | (go_at_call 58;refine(zZ _ _ _).mono ?_;rintro e w' ⟨rfl,hw⟩;obtain rfl:=hw.symm;rw[hpe,hpc]) | (go_at_call 106;have hh:=yE;clear hh;refine(HV.out _ yE).mono ?_;rintro e w3 ⟨rfl,qR⟩) | (go_at_call 106;refine HT.out.mono ?_;rintro e w2 ⟨rfl,yE⟩;rw[HVT.out];have y3w:=zc yE y3;have zb2:=yE.size))
   go_ret
   exact⟨zp (by rw[HF.out,HVT.out,Bool.true_and]),(hB.trans (yE.mono zB)).trans (qR.mono (Nat.le_trans zB zb2))⟩
 ·subst hd
  by_cases h0:¬zf.length=0
  ·have h0':0<(zf.length:Int):=by omega
   have HC:Hid (kf ms n ⟨mn,pc,zh,zf,zi,true⟩=false):=BAD.out (by simp[h0])
   clear HT HV FIN BAD
   go_wp2_with (go_at_call 58;refine(zZ _ _ _).mono ?_;rintro e w' ⟨rfl,hw⟩;obtain rfl:=hw.symm;rw[hpe,hpc])
   go_ret
   exact⟨zp HC.out.symm,hB⟩
  obtain rfl:zf=[]:=List.eq_nil_of_length_eq_zero (Decidable.not_not.1 h0)
  replace HV:Hid (∀w',zO W1 w'->Calls Tryz.prog 106 #[.slice a2 0 k2,zI n] w' fun e w2=>e=.returned (.bool (yI n []))/\zO w' w2):=HV
  replace y3:W1.cell? (zH (w.heap.size+1) 3)=some (.slice a2 0 k2):=y3
  clear h0 h6 h6' hst
  by_cases h1:¬zi=-1
  ·have e1:(zi == -1)=false:=zG.2 h1
   have e1':(zi != -1)=true:=by simp[h1]
   have HC:Hid (kf ms n ⟨mn,pc,zh,[],zi,true⟩=false):=BAD.out (by simp[h1])
   clear HT HV FIN BAD
   go_wp2_with (go_at_call 58;refine(zZ _ _ _).mono ?_;rintro e w' ⟨rfl,hw⟩;obtain rfl:=hw.symm;rw[hpe,hpc])
   go_ret
   exact⟨zp HC.out.symm,hB⟩
  have h1:=Decidable.not_not.1 h1
  subst h1
  have HF:Hid (kf ms n ⟨mn,pc,zh,[],-1,true⟩=(yI n zh && yI n [])):=FIN.out rfl
  clear FIN BAD
  obtain⟨vt1,zfh⟩:∃r,yI n zh=r:=⟨_,rfl⟩
  have HVT:Hid (yI n zh=vt1):=zfh
  clear zfh
  cases vt1
  ·go_wp2_with (first | (go_at_call 58;refine(zZ _ _ _).mono ?_;rintro e w' ⟨rfl,hw⟩;obtain rfl:=hw.symm;rw[hpe,hpc]) | (go_at_call 106;refine HT.out.mono ?_;rintro e w2 ⟨rfl,yE⟩;rw[HVT.out]))
   go_ret
   exact⟨zp (by rw[HF.out,HVT.out,Bool.false_and]),hB.trans (yE.mono zB)⟩
  ·go_wp2_with (first | (go_at_call 58;refine(zZ _ _ _).mono ?_;rintro e w' ⟨rfl,hw⟩;obtain rfl:=hw.symm;rw[hpe,hpc]) | (go_at_call 106;have hh:=yE;clear hh;refine(HV.out _ yE).mono ?_;rintro e w3 ⟨rfl,qR⟩) | (go_at_call 106;refine HT.out.mono ?_;rintro e w2 ⟨rfl,yE⟩;rw[HVT.out];have y3w:=zc yE y3;have zb2:=yE.size))
   go_ret
   exact⟨zp (by rw[HF.out,HVT.out,Bool.true_and]),(hB.trans (yE.mono zB)).trans (qR.mono (Nat.le_trans zB zb2))⟩
end Go.Proofs.YtbjgjjkgfnfejaaGreatDoor
