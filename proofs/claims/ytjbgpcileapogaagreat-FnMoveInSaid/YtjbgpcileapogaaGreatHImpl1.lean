/-
  The document's model of HeapOk, its pieces: l11Val, l11Vals, l11Said, l11Form answer the plain functions; they write to nothing that was there.
-/
import Derived.Test.YtjbgpcileapogaaGreatImplOk
import Derived.Test.YtjbgpcileapogaaGreatHCopy2
import Derived.BigQuiet
namespace Go.Proofs.YtjbgpcileapogaaGreat
open Go.RowKit
set_option maxHeartbeats 1000000 in
theorem Jz (k a n:Int) (w:World) (hn0:0<=n) (hn1:n<=9223372036854775807) :
 Calls Tryz.prog 122 #[.agg #[.int .i64 k,.int .i64 a],.int .i64 n] w fun e w'=>e=.returned (.bool (yN n k a))/\Below w.heap.size w w':=by
 have hB:∀o,Below w.heap.size w (w.alloc o):=fun o=>zB _ _
 by_cases h0:k=0
 ·subst h0
  go_enter Tryz.func122,Tryz.ntmps122
  go_wp2
  go_ret
  exact⟨rfl,hB _⟩
 have e0:(k == 0)=false:=zG.2 h0
 by_cases h1:k=1
 ·subst h1
  go_enter Tryz.func122,Tryz.ntmps122
  go_wp2_with (go_at_call 57;refine(yv _ _ _ _).mono ?_;rintro e w' ⟨rfl,rfl⟩)
  go_ret
  exact⟨rfl,hB _⟩
 have e1:(k == 1)=false:=zG.2 h1
 by_cases h2:k=2
 ·subst h2
  go_enter Tryz.func122,Tryz.ntmps122
  go_wp2_with (go_at_call 57;refine(yv _ _ _ _).mono ?_;rintro e w' ⟨rfl,rfl⟩)
  go_ret
  exact⟨rfl,hB _⟩
 have e2:(k == 2)=false:=zG.2 h2
 go_enter Tryz.func122,Tryz.ntmps122
 go_wp2
 go_ret
 exact⟨zm (by simp[yN,h0,h1,h2]),hB _⟩
set_option maxHeartbeats 1000000 in
theorem Xh (v:Value) (l:zL) (n:Int) (w:World) (h:zR w v l) (hn0:0<=n) (hn1:n<=9223372036854775807) :
 Calls Tryz.prog 123 #[v,.int .i64 n] w fun e w'=>e=.returned (.bool (yk n l))/\Below w.heap.size w w':=by
 obtain⟨a,zp,rfl,hl,hc⟩:=h
 unfold maxLen at hl
 go_enter Tryz.func123,Tryz.ntmps123
 go_wp2
 go_loopg [5] l.length (fun g i wr=>∃k:Nat,k<=l.length/\g=l.length - k/\i=.int .i64 k/\Below w.heap.size w wr/\∀j,(hj:j<l.length)->j<k->yN n l[j].1 l[j].2=true)
 case atStart=>exact⟨0,Nat.zero_le _,rfl,rfl,zC,fun j _ h=>absurd h zF⟩
 case round =>
  obtain⟨k,hk,rfl,rfl,hb,hall⟩:=hrel
  have H:Hid (∀j,(hj:j<l.length)->j<k->yN n l[j].1 l[j].2=true):=hall
  clear hall
  by_cases hlt:k<l.length
  ·obtain⟨b,o,rfl,c0,c1⟩:=hc k hlt
   have d0:=zc hb c0
   have d1:=zc hb c1
   have hkz:(k:Int)<(l.length:Int):=by omega
   clear c0 c1
   obtain⟨r,hr⟩:∃r,yN n l[k].1 l[k].2=r:=⟨_,rfl⟩
   have HR:Hid (yN n l[k].1 l[k].2=r):=hr
   clear hr
   go_wp2_with fail
   refine(Jz _ _ n _ hn0 hn1).mono ?_
   rintro e w1 ⟨rfl,hb1⟩
   have hb2:Below w.heap.size w w1:=hb.trans (hb1.mono hb.size)
   rw[HR.out]
   clear hb hb1 d0 d1
   cases r
   ·go_wp2
    go_ret
    exact⟨zm (QY hlt HR.out).symm,hb2⟩
   ·go_wp2
    go_roundg (l.length - (k+1))
    case measure=>omega
    case rel =>
     refine⟨k+1,by omega,rfl,by go_num,hb2,fun j hj hjk=>?_⟩
     by_cases e:j=k
     ·subst e;exact HR.out
     ·exact H.out j hj (by omega)
  ·obtain rfl:k=l.length:=by omega
   go_wp2
   go_ret
   exact⟨zm (wO (fun i hi=>H.out i hi hi)).symm,hb⟩
theorem uT {B:Nat} {a w:World} (h:Below B a w):∀n,Below B a (w.drewN n)
 | 0=>h
 | n+1=>by
  have:=uT h n
  exact⟨this.os,this.tape,this.output,this.size,this.block⟩
theorem U8 {n n' k a:Int} (h:k≠2):yN n k a=yN n' k a:=by simp[yN,h]
set_option maxHeartbeats 2000000 in
theorem Uy (vp v:Value) (ms:zM) (l:zL) (w:World) (hp:yy w vp ms) (h:zR w v l) :
 Calls Tryz.prog 58 #[.agg #[vp],v] w fun e w'=>e=.returned (.bool (yk ms.length l))/\Below w.heap.size w w':=by
 obtain⟨a,zp,rfl,hl,hc⟩:=h
 obtain⟨ap,cp,rfl,hlp,_⟩:=hp
 unfold maxLen at hl hlp
 have hA:=zB w (.cells #[.slice ap ms.length cp] 25)
 have b0:(w.alloc (.cells #[.slice ap ms.length cp] 25)).cell? ⟨w.heap.size,0,none⟩=some (.slice ap ms.length cp):=by simp[go_sem]
 go_enter Tryz.func58,Tryz.ntmps58
 go_wp2
 go_loopg [5] l.length (fun g i wr=>∃k:Nat,k<=l.length/\g=l.length - k/\i=.int .i64 k/\wr.cell? ⟨w.heap.size,0,none⟩=some (.slice ap ms.length cp)/\Below w.heap.size w wr/\∀j,(hj:j<l.length)->j<k->yN ms.length l[j].1 l[j].2=true)
 case atStart=>exact⟨0,Nat.zero_le _,rfl,rfl,b0,hA,fun j _ h=>absurd h zF⟩
 case round =>
  obtain⟨k,hk,rfl,rfl,br,hb,hall⟩:=hrel
  have H:Hid (∀j,(hj:j<l.length)->j<k->yN ms.length l[j].1 l[j].2=true):=hall
  clear hall hA b0
  have hsz:=hb.size
  have hbw:w.heap.size<wr.heap.size:=World.block_lt_of_cell? _ _ br
  by_cases hlt:k<l.length
  ·obtain⟨b,o,rfl,c0,c1⟩:=hc k hlt
   have d0:=zc hb c0
   have d1:=zc hb c1
   have hkz:(k:Int)<(l.length:Int):=by omega
   clear c0 c1
   have HN:Hid (∀r,yN ms.length l[k].1 l[k].2=r->r=true->∀j,(hj:j<l.length)->j<k+1->yN ms.length l[j].1 l[j].2=true):=fun r hr e j hj hjk=>by
    by_cases e':j=k
    ·subst e';rw[hr];exact e
    ·exact H.out j hj (by omega)
   have HF:Hid (yN ms.length l[k].1 l[k].2=false->yk ms.length l=false):=fun hr=>QY hlt hr
   generalize l[k].1=K at *
   generalize l[k].2=A at *
   have brN:=fun o=>zc (zB _ o) br
   have hbN:=fun o=>hb.alloc hsz o
   by_cases h2:K=2
   ·subst h2
    obtain⟨r,hr⟩:∃r,yO A 0 ((ms.length:Int) - 1)=r:=⟨_,rfl⟩
    have HR:Hid (yO A 0 ((ms.length:Int) - 1)=r):=hr
    clear hr
    cases r
    ·go_wp2_with (go_at_call 57;refine(yv _ _ _ _).mono ?_;rintro e w' ⟨rfl,hw⟩;obtain rfl:=hw.symm;rw[HR.out])
     go_ret
     exact⟨zm (HF.out HR.out).symm,hbN _⟩
    ·go_wp2_with (go_at_call 57;refine(yv _ _ _ _).mono ?_;rintro e w' ⟨rfl,hw⟩;obtain rfl:=hw.symm;rw[HR.out])
     go_roundg (l.length - (k+1))
     case measure=>omega
     case rel=>exact⟨k+1,by omega,rfl,by go_num,brN _,hbN _,HN.out _ HR.out rfl⟩
   ·have e2:(K == 2)=false:=zG.2 h2
    have n2:(K != 2)=true:=bne_iff_ne.2 h2
    obtain⟨r,hr⟩:∃r,yN 0 K A=r:=⟨_,rfl⟩
    have HR:Hid (yN 0 K A=r):=hr
    have HR':Hid (yN ms.length K A=r):=(U8 h2).trans hr
    clear hr
    go_wp2_with fail
    refine(Jz K A 0 _ (by omega) (by omega)).mono ?_
    rintro e w1 ⟨rfl,hb1⟩
    have br1:=zc hb1 (brN _)
    have hb2:Below w.heap.size w w1:=(hbN _).trans (hb1.mono (by simp;omega))
    rw[HR.out]
    clear hb1 brN hbN d0 d1 br
    cases r
    ·go_wp2
     go_ret
     exact⟨zm (HF.out HR'.out).symm,hb2⟩
    ·go_wp2
     go_roundg (l.length - (k+1))
     case measure=>omega
     case rel=>exact⟨k+1,by omega,rfl,by go_num,br1,hb2,HN.out _ HR'.out rfl⟩
  ·obtain rfl:k=l.length:=by omega
   go_wp2
   go_ret
   exact⟨zm (wO (fun i hi=>H.out i hi hi)).symm,hb⟩
theorem Uc {ms:zM} {n:Nat} {c:Cl} (h:yO c.m 0 ((ms.length:Int) - 1)=false):yT ms n c=false:=by simp[yT,h]
theorem zay {ms:zM} {n mn:Nat} (hm:mn<ms.length) (pc:Int) (zg ze:zL) (zf:Int) (zv:Bool) :
 yT ms n ⟨mn,pc,zg,ze,zf,zv⟩=(yO pc 0 (ms[mn].2.2.length:Int) && decide ((zg.length:Int)=ms[mn].2.1) && decide (ze.length<=6) && (yO zf (-1) ((n:Int) - 1) && yk n zg && yk n ze && (!zv || (zf == -1 && ze.length == 0)))):=by
 have e:ms.getD ((mn:Int)).toNat (0,0,[])=ms[mn]:=by simp[hm]
 have h1:yO ((mn:Int)) 0 ((ms.length:Int) - 1)=true:=zH.2 (by omega)
 simp only[yT,e,h1,Bool.true_and]
set_option maxHeartbeats 4000000 in
theorem Xg (vp vt vs:Value) (ms:zM) (c:Cl) (n:Nat) (w:World) (hp:yy w vp ms) (ht:zR w vt c.zg) (hs:zR w vs c.ze) (hn:n<=maxLen) :
 Calls Tryz.prog 59 #[.agg #[vp],.agg (qt vt vs c),.int .i64 n] w fun e w'=>e=.returned (.bool (yT ms n c))/\Below w.heap.size w w':=by
 unfold qt
 obtain⟨m,pc,zg,ze,zf,zv⟩:=c
 simp only[] at ht hs ⊢
 obtain⟨ap,cp,rfl,hlp,hcp⟩:=hp
 obtain⟨a1,k1,h1⟩:=ht.shape
 obtain⟨a2,k2,h2⟩:=hs.shape
 subst h1 h2
 have hst:ze.length<=9223372036854775807:=by obtain⟨_,_,_,hx,_⟩:=hs;unfold maxLen at hx;omega
 have htt:zg.length<=9223372036854775807:=by obtain⟨_,_,_,hx,_⟩:=ht;unfold maxLen at hx;omega
 unfold maxLen at hlp hn
 have hA:Below w.heap.size w ((w.alloc (.cells #[.slice ap ms.length cp] 25)).alloc (.cells #[.int .i64 m,.int .i64 pc,.slice a1 zg.length k1,.slice a2 ze.length k2,.int .i64 zf,.bool zv] 37)):=(zB _ _).alloc (by simp) _
 have bp:((w.alloc (.cells #[.slice ap ms.length cp] 25)).alloc (.cells #[.int .i64 m,.int .i64 pc,.slice a1 zg.length k1,.slice a2 ze.length k2,.int .i64 zf,.bool zv] 37)).cell? ⟨w.heap.size,0,none⟩=some (.slice ap ms.length cp):=by simp[go_sem]
 have bc:=jx (w.alloc (.cells #[.slice ap ms.length cp] 25)) 37 (.int .i64 m) (.int .i64 pc) (.slice a1 zg.length k1) (.slice a2 ze.length k2) (.int .i64 zf) (.bool zv)
 simp only[World.size_alloc] at bc
 go_enter Tryz.func59,Tryz.ntmps59
 go_upto_region 1 with fail
 generalize (w.alloc (.cells #[.slice ap ms.length cp] 25)).alloc (.cells #[.int .i64 m,.int .i64 pc,.slice a1 zg.length k1,.slice a2 ze.length k2,.int .i64 zf,.bool zv] 37)=W0 at *
 obtain⟨⟨x0,x1,x2,x3,x4,x5⟩,_⟩:=zZ bc
 have hAd:∀k,Below w.heap.size w (W0.drewN k):=fun k=>uT hA k
 have zA:=hA.size
 clear bc
 cases hm:yO m 0 ((ms.length:Int) - 1)
 ·have HC:Hid (yT ms n ⟨m,pc,zg,ze,zf,zv⟩=false):=Uc hm
  clear hcp ht hs
  go_quiet ((go_at_call 57;exact Calls.quiet_of_same (yv _ _ _ _)))
  go_wp2
  go_ret
  exact⟨zm HC.out.symm,hAd _⟩
 have hm2:=zH.1 hm
 obtain⟨mn,hmn⟩:=Int.eq_ofNat_of_zero_le hm2.1
 subst hmn
 have ZU:mn<ms.length:=by omega
 have hmz:(mn:Int)<(ms.length:Int):=by omega
 obtain⟨b,o,vo,rfl,c0,c1,c2,c3⟩:=hcp mn ZU
 have d1:=zc hA c1
 have d2:=zc hA c2
 obtain⟨ao,co,xz⟩:=c3.shape
 subst xz
 have hol:ms[mn].2.2.length<=9223372036854775807:=by obtain⟨_,_,_,hx,_⟩:=c3;unfold maxLen at hx;omega
 have HMK:Hid (yT ms n ⟨mn,pc,zg,ze,zf,zv⟩=_):=zay ZU pc zg ze zf zv
 clear hcp c0 c1 c2 c3
 generalize ms[mn].2.2.length=no at *
 generalize ms[mn].2.1=T at *
 cases hpc:yO pc 0 (no:Int)
 ·have HC:Hid (yT ms n ⟨mn,pc,zg,ze,zf,zv⟩=false):=by
   have:=HMK.out
   rw[hpc] at this
   show _=_
   simpa using this
  clear HMK ht hs
  go_quiet ((go_at_call 57;exact Calls.quiet_of_same (yv _ _ _ _)))
  go_wp2
  go_ret
  exact⟨zm HC.out.symm,hAd _⟩
 by_cases htl:(zg.length:Int)=T
 ·subst htl
  by_cases hsl:ze.length<=6
  ·have hslz:(ze.length:Int)<=6:=by omega
   have HC:Hid (yT ms n ⟨mn,pc,zg,ze,zf,zv⟩=(yO zf (-1) ((n:Int) - 1) && yk n zg && yk n ze && (!zv || (zf == -1 && ze.length == 0)))):=by
    have:=HMK.out
    rw[hpc,decide_eq_true hsl] at this
    show _=_
    simpa using this
   clear HMK
   go_quiet ((go_at_call 57;exact Calls.quiet_of_same (yv _ _ _ _)))
   clear x0 x1 bp d1 d2
   have zq:∀k,w.heap.size<=(W0.drewN k).heap.size:=fun k=>(hAd k).size
   cases hsd:yO zf (-1) ((n:Int) - 1)
   ·go_wp2_with (go_at_call 57;refine(yv _ _ _ _).mono ?_;rintro e w' ⟨rfl,hw⟩;obtain rfl:=hw.symm)
    go_ret
    exact⟨zm (by rw[HC.out,hsd];rfl),hAd _⟩
   go_wp2_with (go_at_call 57;refine(yv _ _ _ _).mono ?_;rintro e w' ⟨rfl,hw⟩;obtain rfl:=hw.symm)
   refine(Xh _ zg n _ (ht.below (hAd _)) (by omega) (by omega)).mono ?_
   rintro e w2 ⟨rfl,hb2⟩
   have hB2:Below w.heap.size w w2:=(hAd _).trans (hb2.mono (zq _))
   have z2:=hB2.size
   have u3:w2.cell? ⟨w.heap.size+1,3,none⟩=some (.slice a2 ze.length k2):=zc hb2 x3
   have u4:w2.cell? ⟨w.heap.size+1,4,none⟩=some (.int .i64 zf):=zc hb2 x4
   have u5:w2.cell? ⟨w.heap.size+1,5,none⟩=some (.bool zv):=zc hb2 x5
   clear hb2 x2 x3 x4 x5 hA hAd zA zq
   cases xZ:yk n zg
   ·go_wp2
    go_ret
    exact⟨zm (by rw[HC.out,hsd,xZ];rfl),hB2⟩
   go_wp2_with fail
   refine(Xh _ ze n _ (hs.below hB2) (by omega) (by omega)).mono ?_
   rintro e w3 ⟨rfl,hb3⟩
   have hB3:Below w.heap.size w w3:=hB2.trans (hb3.mono z2)
   have v3:=zc hb3 u3
   have v4:=zc hb3 u4
   have v5:=zc hb3 u5
   clear hb3 u3 u4 u5
   cases hvs:yk n ze
   ·go_wp2
    go_ret
    exact⟨zm (by rw[HC.out,hsd,xZ,hvs];rfl),hB3⟩
   cases zv
   ·go_wp2
    go_ret
    exact⟨zm (by rw[HC.out,hsd,xZ,hvs];rfl),hB3⟩
   by_cases hse:zf=-1
   ·subst hse
    by_cases hs0:ze.length=0
    ·have hs0z:((ze.length:Int) == 0)=true:=by rw[beq_iff_eq];omega
     have HS0:Hid (ze.length=0):=hs0
     clear hs0
     go_wp2
     go_ret
     exact⟨zm (by rw[HC.out,hsd,xZ,hvs,HS0.out];rfl),hB3⟩
    ·have hs0z:((ze.length:Int) == 0)=false:=by rw[zG];omega
     have hs0b:(ze.length == 0)=false:=by rw[zG];exact hs0
     go_wp2
     go_ret
     exact⟨zm (by rw[HC.out,hsd,xZ,hvs,hs0b];rfl),hB3⟩
   ·have hseb:(zf == -1)=false:=zG.2 hse
    go_wp2
    go_ret
    exact⟨zm (by rw[HC.out,hsd,xZ,hvs,hseb];rfl),hB3⟩
  ·have hslz:(6:Int)<(ze.length:Int):=by omega
   have HC:Hid (yT ms n ⟨mn,pc,zg,ze,zf,zv⟩=false):=by
    have:=HMK.out
    rw[hpc,decide_eq_false hsl] at this
    show _=_
    simpa using this
   clear HMK ht hs hsl
   go_quiet ((go_at_call 57;exact Calls.quiet_of_same (yv _ _ _ _)))
   go_wp2
   go_ret
   exact⟨zm HC.out.symm,hAd _⟩
 ·have htb:((zg.length:Int) != T)=true:=bne_iff_ne.2 htl
  have HC:Hid (yT ms n ⟨mn,pc,zg,ze,zf,zv⟩=false):=by
   have:=HMK.out
   rw[hpc,decide_eq_false htl] at this
   show _=_
   simpa using this
  clear HMK ht hs
  go_quiet ((go_at_call 57;exact Calls.quiet_of_same (yv _ _ _ _)))
  go_wp2
  go_ret
  exact⟨zm HC.out.symm,hAd _⟩
set_option maxHeartbeats 1000000 in
theorem Kh (k a n:Int) (w:World) :
 Calls Tryz.prog 168 #[.agg #[.int .i64 k,.int .i64 a],.int .i64 n] w fun e w'=>e=.returned (.bool (yN n k a))/\Below w.heap.size w w':=by
 have hB:∀o,Below w.heap.size w (w.alloc o):=fun o=>zB _ _
 by_cases h1:k=1
 ·subst h1
  go_enter Tryz.func168,Tryz.ntmps168
  go_wp2_with (go_at_call 61;refine(yd _ _ _).mono ?_;rintro e w' ⟨rfl,rfl⟩)
  go_ret
  exact⟨rfl,hB _⟩
 have e1:(k == 1)=false:=zG.2 h1
 by_cases h2:k=2
 ·subst h2
  go_enter Tryz.func168,Tryz.ntmps168
  go_wp2_with (go_at_call 61;refine(yd _ _ _).mono ?_;rintro e w' ⟨rfl,rfl⟩)
  go_ret
  exact⟨rfl,hB _⟩
 have e2:(k == 2)=false:=zG.2 h2
 by_cases h0:k=0
 ·subst h0
  go_enter Tryz.func168,Tryz.ntmps168
  by_cases ha:a=0
  ·go_wp2
   go_ret
   exact⟨zm (by simp[yN,ha]),hB _⟩
  ·go_wp2
   go_ret
   exact⟨zm (by simp[yN,ha]),hB _⟩
 have e0:(k == 0)=false:=zG.2 h0
 go_enter Tryz.func168,Tryz.ntmps168
 go_wp2
 go_ret
 exact⟨zm (by simp[yN,h0,h1,h2]),hB _⟩
set_option maxHeartbeats 1000000 in
theorem uH (v:Value) (l:zL) (n:Int) (w:World) (h:zR w v l) :
 Calls Tryz.prog 130 #[v,.int .i64 n] w fun e w'=>e=.returned (.bool (yk n l))/\Below w.heap.size w w':=by
 obtain⟨a,zp,rfl,hl,hc⟩:=h
 unfold maxLen at hl
 go_enter Tryz.func130,Tryz.ntmps130
 go_wp2
 go_loopg [9] l.length (fun g i wr=>∃k:Nat,k<=l.length/\g=l.length - k/\i=.int .i64 k/\Below w.heap.size w wr/\∀j,(hj:j<l.length)->j<k->yN n l[j].1 l[j].2=true)
 case atStart=>exact⟨0,Nat.zero_le _,rfl,rfl,zC,fun j _ h=>absurd h zF⟩
 case round =>
  obtain⟨k,hk,rfl,rfl,hb,hall⟩:=hrel
  have H:Hid (∀j,(hj:j<l.length)->j<k->yN n l[j].1 l[j].2=true):=hall
  clear hall
  by_cases hlt:k<l.length
  ·obtain⟨b,o,rfl,c0,c1⟩:=hc k hlt
   have d0:=zc hb c0
   have d1:=zc hb c1
   have hkz:(k:Int)<(l.length:Int):=by omega
   clear c0 c1
   obtain⟨r,hr⟩:∃r,yN n l[k].1 l[k].2=r:=⟨_,rfl⟩
   have HR:Hid (yN n l[k].1 l[k].2=r):=hr
   clear hr
   go_wp2_with fail
   refine(Kh _ _ n _).mono ?_
   rintro e w1 ⟨rfl,hb1⟩
   have hb2:Below w.heap.size w w1:=(hb.alloc hb.size _).trans (hb1.mono (by have:=hb.size;simp;omega))
   rw[HR.out]
   clear hb hb1 d0 d1
   cases r
   ·go_wp2
    go_ret
    exact⟨zm (QY hlt HR.out).symm,hb2⟩
   ·go_wp2
    go_roundg (l.length - (k+1))
    case measure=>omega
    case rel =>
     refine⟨k+1,by omega,rfl,by go_num,hb2,fun j hj hjk=>?_⟩
     by_cases e:j=k
     ·subst e;exact HR.out
     ·exact H.out j hj (by omega)
  ·obtain rfl:k=l.length:=by omega
   go_wp2
   go_ret
   exact⟨zm (wO (fun i hi=>H.out i hi hi)).symm,hb⟩
theorem jk (n:Int) (w:World) :
 Calls Tryz.prog 73 #[.int .i64 n] w fun e w'=>e=.returned (.bool (yO n 1 30))/\w'=w:=by
 go_enter Tryz.func73,Tryz.ntmps73
 by_cases h:1<=n
 ·go_wp2
  go_ret
  exact⟨zm (by rw[Bool.eq_iff_iff,zH,decide_eq_true_iff];omega),rfl⟩
 ·go_wp2
  go_ret
  exact⟨zm (by rw[eq_comm,qI];omega),rfl⟩
theorem yM (a n:Int) (w:World) :
 Calls Tryz.prog 112 #[.int .i64 a,.int .i64 n] w fun e w'=>e=.returned (.bool (a == -1 || yO a 0 (n - 1)))/\w'=w:=by
 by_cases h:a=-1
 ·subst h
  go_enter Tryz.func112,Tryz.ntmps112
  go_wp2
  go_ret
  exact⟨rfl,rfl⟩
 have e1:(a == -1)=false:=zG.2 h
 go_enter Tryz.func112,Tryz.ntmps112
 go_wp2_with (go_at_call 61;refine(yd _ _ _).mono ?_;rintro e w' ⟨rfl,hw⟩;obtain rfl:=hw.symm)
 go_ret
 exact⟨zm (by simp[e1]),rfl⟩
theorem uF (c a:Int) (w:World) :
 Calls Tryz.prog 76 #[.int .i64 c,.int .i64 a] w fun e w'=>e=.returned (.bool (yO c 0 3 && ((c == 1) == (a == -1))))/\w'=w:=by
 by_cases h:0<=c
 ·by_cases h3:c<=3
  ·have hi:yO c 0 3=true:=zH.2 ⟨h,h3⟩
   rw[hi,Bool.true_and]
   go_enter Tryz.func76,Tryz.ntmps76
   go_wp2
   go_ret
   exact⟨zm (by first | rfl | simp),rfl⟩
  ·have hi:yO c 0 3=false:=qI.2 (by omega)
   rw[hi,Bool.false_and]
   have h3':3<c:=by omega
   go_enter Tryz.func76,Tryz.ntmps76
   go_wp2
   go_ret
   exact⟨rfl,rfl⟩
 ·have hi:yO c 0 3=false:=qI.2 (by omega)
  rw[hi,Bool.false_and]
  have h':c<0:=by omega
  go_enter Tryz.func76,Tryz.ntmps76
  go_wp2
  go_ret
  exact⟨rfl,rfl⟩
theorem Zr (vp v:Value) (ms:zM) (l:zL) (w:World) (hp:yy w vp ms) (h:zR w v l) :
 Calls Tryz.prog 75 #[.agg #[vp],v] w fun e w'=>e=.returned (.bool (yk ms.length l))/\Below w.heap.size w w':=by
 obtain⟨ap,cp,rfl,hlp,_⟩:=hp
 unfold maxLen at hlp
 have hB:∀o,Below w.heap.size w (w.alloc o):=fun o=>zB _ _
 have hN:∀o,zR (w.alloc o) v l:=fun o=>h.below (hB o)
 go_enter Tryz.func75,Tryz.ntmps75
 go_wp2_with (go_at_call 130;refine(uH _ _ _ _ (hN _)).mono ?_;rintro e w1 ⟨rfl,hb1⟩)
 go_ret
 exact⟨rfl,(hB _).trans (hb1.mono (by simp))⟩
theorem KW {n:Nat} {s:Int}:(s == -1 || yO s 0 ((n:Int) - 1))=yO s (-1) ((n:Int) - 1):=by
 rw[Bool.eq_iff_iff,Bool.or_eq_true,zH,zH,beq_iff_eq]
 omega
set_option maxHeartbeats 4000000 in
theorem uE (vp vt vs:Value) (ms:zM) (c:Cl) (n:Nat) (w:World) (hp:yy w vp ms) (ht:zR w vt c.zg) (hs:zR w vs c.ze) (_hn:n<=maxLen) (hops:∀i,(h:i<ms.length)->ms[i].2.2.length<=1000000) :
 Calls Tryz.prog 113 #[.agg #[vp],.agg (qt vt vs c),.int .i64 n] w fun e w'=>e=.returned (.bool (yT ms n c))/\Below w.heap.size w w':=by
 unfold qt
 obtain⟨m,pc,zg,ze,zf,zv⟩:=c
 simp only[] at ht hs ⊢
 obtain⟨ap,cp,rfl,hlp,hcp⟩:=hp
 obtain⟨a1,k1,h1⟩:=ht.shape
 obtain⟨a2,k2,h2⟩:=hs.shape
 subst h1 h2
 have hst:ze.length<=9223372036854775807:=by obtain⟨_,_,_,hx,_⟩:=hs;unfold maxLen at hx;omega
 have htt:zg.length<=9223372036854775807:=by obtain⟨_,_,_,hx,_⟩:=ht;unfold maxLen at hx;omega
 unfold maxLen at hlp _hn
 have hA:Below w.heap.size w ((w.alloc (.cells #[.slice ap ms.length cp] 25)).alloc (.cells #[.int .i64 m,.int .i64 pc,.slice a1 zg.length k1,.slice a2 ze.length k2,.int .i64 zf,.bool zv] 37)):=(zB _ _).alloc (by simp) _
 have bp:((w.alloc (.cells #[.slice ap ms.length cp] 25)).alloc (.cells #[.int .i64 m,.int .i64 pc,.slice a1 zg.length k1,.slice a2 ze.length k2,.int .i64 zf,.bool zv] 37)).cell? ⟨w.heap.size,0,none⟩=some (.slice ap ms.length cp):=by simp[go_sem]
 have bc:=jx (w.alloc (.cells #[.slice ap ms.length cp] 25)) 37 (.int .i64 m) (.int .i64 pc) (.slice a1 zg.length k1) (.slice a2 ze.length k2) (.int .i64 zf) (.bool zv)
 simp only[World.size_alloc] at bc
 go_enter Tryz.func113,Tryz.ntmps113
 go_upto_region 1 with fail
 generalize (w.alloc (.cells #[.slice ap ms.length cp] 25)).alloc (.cells #[.int .i64 m,.int .i64 pc,.slice a1 zg.length k1,.slice a2 ze.length k2,.int .i64 zf,.bool zv] 37)=W0 at *
 obtain⟨⟨x0,x1,x2,x3,x4,x5⟩,_⟩:=zZ bc
 have hAd:∀k,Below w.heap.size w (W0.drewN k):=fun k=>uT hA k
 have zA:=hA.size
 clear bc
 cases hm:yO m 0 ((ms.length:Int) - 1)
 ·have HC:Hid (yT ms n ⟨m,pc,zg,ze,zf,zv⟩=false):=Uc hm
  clear hcp ht hs hops
  go_wp2_with (go_at_call 61;refine(yd _ _ _).mono ?_;rintro e w' ⟨rfl,hw⟩;obtain rfl:=hw.symm;rw[hm])
  go_ret
  exact⟨zm HC.out.symm,hA⟩
 have hm2:=zH.1 hm
 obtain⟨mn,hmn⟩:=Int.eq_ofNat_of_zero_le hm2.1
 subst hmn
 have ZU:mn<ms.length:=by omega
 have hmz:(mn:Int)<(ms.length:Int):=by omega
 obtain⟨b,o,vo,rfl,c0,c1,c2,c3⟩:=hcp mn ZU
 have d0:=zc hA c0
 have d1:=zc hA c1
 have d2:=zc hA c2
 obtain⟨ao,co,xz⟩:=c3.shape
 subst xz
 have hol:ms[mn].2.2.length<=1000000:=hops mn ZU
 have HMK:Hid (yT ms n ⟨mn,pc,zg,ze,zf,zv⟩=_):=zay ZU pc zg ze zf zv
 have H3:=fun(w':World) (hb:Below w.heap.size w w')=>c3.below hb
 clear hcp c0 c1 c2 c3 hops
 have hx:=@KW n zf
 cases hse:yO zf (-1) ((n:Int) - 1)
 ·have HC:Hid (yT ms n ⟨mn,pc,zg,ze,zf,zv⟩=false):=by
   have:=HMK.out
   rw[hse] at this
   show _=_
   simpa using this
  rw[hse] at hx
  have HX:Hid ((zf == -1 || yO zf 0 ((n:Int) - 1))=false):=hx
  clear ht hs H3 hx
  go_wp2_with (first | (go_at_call 61;refine(yd _ _ _).mono ?_;rintro e w' ⟨rfl,hw⟩;obtain rfl:=hw.symm;rw[hm]) | (go_at_call 112;refine(yM _ _ _).mono ?_;rintro e w' ⟨rfl,hw⟩;obtain rfl:=hw.symm;rw[HX.out]))
  go_ret
  exact⟨zm HC.out.symm,hA⟩
 rw[hse] at hx
 have HX:Hid ((zf == -1 || yO zf 0 ((n:Int) - 1))=true):=hx
 clear hx
 have hol2:((ms[mn].2.2.length:Nat):Int)<=1000000:=by omega
 have hpe:((ms[mn].2.2.length:Nat):Int)+1 - 1=(ms[mn].2.2.length:Nat):=by omega
 go_upto_region 4 with(first | (go_at_call 61;refine(yd _ _ _).mono ?_;rintro e w' ⟨rfl,hw⟩;obtain rfl:=hw.symm;rw[hm]) | (go_at_call 112;refine(yM _ _ _).mono ?_;rintro e w' ⟨rfl,hw⟩;obtain rfl:=hw.symm;rw[HX.out]))
 have hB:=hA.alloc zA (.cells #[.int .i64 ms[mn].1,.int .i64 ms[mn].2.1,.slice ao ms[mn].2.2.length co] 48)
 have hW:=zB W0 (.cells #[.int .i64 ms[mn].1,.int .i64 ms[mn].2.1,.slice ao ms[mn].2.2.length co] 48)
 have y1:=zc hW x1
 have y2:=zc hW x2
 have y3:=zc hW x3
 have y4:=zc hW x4
 have y5:=zc hW x5
 have z1:(W0.alloc (.cells #[.int .i64 ms[mn].1,.int .i64 ms[mn].2.1,.slice ao ms[mn].2.2.length co] 48)).cell? ⟨W0.heap.size,1,none⟩=some (.int .i64 ms[mn].2.1):=by simp[go_sem]
 have z2:(W0.alloc (.cells #[.int .i64 ms[mn].1,.int .i64 ms[mn].2.1,.slice ao ms[mn].2.2.length co] 48)).cell? ⟨W0.heap.size,2,none⟩=some (.slice ao ms[mn].2.2.length co):=by simp[go_sem]
 generalize W0.alloc (.cells #[.int .i64 ms[mn].1,.int .i64 ms[mn].2.1,.slice ao ms[mn].2.2.length co] 48)=W1 at *
 have ht1:=ht.below hB
 have hs1:=hs.below hB
 clear x0 x1 x2 x3 x4 x5 bp hA hAd zA d0 d1 d2 H3 HX hm hm2 hW ht hs
 generalize W0.heap.size=bm at *
 generalize ms[mn].2.2.length=no at *
 generalize ms[mn].2.1=T at *
 generalize ms[mn].1=A at *
 cases hpc:yO pc 0 (no:Int)
 ·have HC:Hid (yT ms n ⟨mn,pc,zg,ze,zf,zv⟩=false):=by
   have:=HMK.out
   show _=_
   rw[this]
   simp[hpc]
  clear ht1 hs1 HMK
  go_wp2_with (go_at_call 61;refine(yd _ _ _).mono ?_;rintro e w' ⟨rfl,hw⟩;obtain rfl:=hw.symm;rw[hpe,hpc])
  go_ret
  exact⟨zm HC.out.symm,hB⟩
 by_cases hT:¬(zg.length:Int)=T
 ·have HC:Hid (yT ms n ⟨mn,pc,zg,ze,zf,zv⟩=false):=by
   have:=HMK.out
   show _=_
   rw[this]
   simp[hT]
  clear ht1 hs1 HMK
  go_wp2_with (go_at_call 61;refine(yd _ _ _).mono ?_;rintro e w' ⟨rfl,hw⟩;obtain rfl:=hw.symm;rw[hpe,hpc])
  go_ret
  exact⟨zm HC.out.symm,hB⟩
 have hT:=Decidable.not_not.1 hT
 subst hT
 by_cases h6:¬ze.length<=6
 ·have h6':6<(ze.length:Int):=by omega
  have HC:Hid (yT ms n ⟨mn,pc,zg,ze,zf,zv⟩=false):=by
   have:=HMK.out
   show _=_
   rw[this]
   simp[h6]
  clear ht1 hs1 HMK
  go_wp2_with (go_at_call 61;refine(yd _ _ _).mono ?_;rintro e w' ⟨rfl,hw⟩;obtain rfl:=hw.symm;rw[hpe,hpc])
  go_ret
  exact⟨zm HC.out.symm,hB⟩
 have h6:=Decidable.not_not.1 h6
 have h6':(ze.length:Int)<=6:=by omega
 have HM2:Hid (yT ms n ⟨mn,pc,zg,ze,zf,zv⟩=(yk n zg && yk n ze && (!zv || (zf == -1 && ze.length == 0)))):=by
  have:=HMK.out
  show _=_
  rw[this]
  simp[hpc,h6,hse]
 clear HMK
 have FIN:Hid ((!zv || (zf == -1 && ze.length == 0))=true->yT ms n ⟨mn,pc,zg,ze,zf,zv⟩=(yk n zg && yk n ze)):=fun h=>by rw[HM2.out,h,Bool.and_true]
 have BAD:Hid ((!zv || (zf == -1 && ze.length == 0))=false->yT ms n ⟨mn,pc,zg,ze,zf,zv⟩=false):=fun h=>by rw[HM2.out,h,Bool.and_false]
 clear HM2
 have VT:=uH _ _ (n:Int) _ ht1
 have HV:Hid (∀w',Below W1.heap.size W1 w'->Calls Tryz.prog 130 #[.slice a2 ze.length k2,.int .i64 n] w' fun e w2=>e=.returned (.bool (yk n ze))/\Below w'.heap.size w' w2):=fun w' hb=>uH _ _ (n:Int) _ (hs1.below hb)
 have HT:Hid (Calls Tryz.prog 130 #[.slice a1 zg.length k1,.int .i64 n] W1 fun e w2=>e=.returned (.bool (yk n zg))/\Below W1.heap.size W1 w2):=VT
 clear VT ht1 hs1
 have zB:=hB.size
 cases hd:zv
 ·subst hd
  have HF:Hid (yT ms n ⟨mn,pc,zg,ze,zf,false⟩=(yk n zg && yk n ze)):=FIN.out rfl
  clear FIN BAD
  obtain⟨vt1,zce⟩:∃r,yk n zg=r:=⟨_,rfl⟩
  have HVT:Hid (yk n zg=vt1):=zce
  clear zce
  cases vt1
  ·go_wp2_with (first | (go_at_call 61;refine(yd _ _ _).mono ?_;rintro e w' ⟨rfl,hw⟩;obtain rfl:=hw.symm;rw[hpe,hpc]) | (go_at_call 130;refine HT.out.mono ?_;rintro e w2 ⟨rfl,hb2⟩;rw[HVT.out]))
   go_ret
   exact⟨zm (by rw[HF.out,HVT.out,Bool.false_and]),hB.trans (hb2.mono zB)⟩
  ·go_wp2_with (first | (go_at_call 61;refine(yd _ _ _).mono ?_;rintro e w' ⟨rfl,hw⟩;obtain rfl:=hw.symm;rw[hpe,hpc]) | (go_at_call 130;have hh:=hb2;clear hh;refine(HV.out _ hb2).mono ?_;rintro e w3 ⟨rfl,hb3⟩) | (go_at_call 130;refine HT.out.mono ?_;rintro e w2 ⟨rfl,hb2⟩;rw[HVT.out];have y3w:=zc hb2 y3;have zb2:=hb2.size))
   go_ret
   exact⟨zm (by rw[HF.out,HVT.out,Bool.true_and]),(hB.trans (hb2.mono zB)).trans (hb3.mono (Nat.le_trans zB zb2))⟩
 ·subst hd
  by_cases h0:¬ze.length=0
  ·have h0':0<(ze.length:Int):=by omega
   have HC:Hid (yT ms n ⟨mn,pc,zg,ze,zf,true⟩=false):=BAD.out (by simp[h0])
   clear HT HV FIN BAD
   go_wp2_with (go_at_call 61;refine(yd _ _ _).mono ?_;rintro e w' ⟨rfl,hw⟩;obtain rfl:=hw.symm;rw[hpe,hpc])
   go_ret
   exact⟨zm HC.out.symm,hB⟩
  obtain rfl:ze=[]:=List.eq_nil_of_length_eq_zero (Decidable.not_not.1 h0)
  replace HV:Hid (∀w',Below W1.heap.size W1 w'->Calls Tryz.prog 130 #[.slice a2 0 k2,.int .i64 n] w' fun e w2=>e=.returned (.bool (yk n []))/\Below w'.heap.size w' w2):=HV
  replace y3:W1.cell? ⟨w.heap.size+1,3,none⟩=some (.slice a2 0 k2):=y3
  clear h0 h6 h6' hst
  by_cases h1:¬zf=-1
  ·have e1:(zf == -1)=false:=zG.2 h1
   have e1':(zf != -1)=true:=by simp[h1]
   have HC:Hid (yT ms n ⟨mn,pc,zg,[],zf,true⟩=false):=BAD.out (by simp[h1])
   clear HT HV FIN BAD
   go_wp2_with (go_at_call 61;refine(yd _ _ _).mono ?_;rintro e w' ⟨rfl,hw⟩;obtain rfl:=hw.symm;rw[hpe,hpc])
   go_ret
   exact⟨zm HC.out.symm,hB⟩
  have h1:=Decidable.not_not.1 h1
  subst h1
  have HF:Hid (yT ms n ⟨mn,pc,zg,[],-1,true⟩=(yk n zg && yk n [])):=FIN.out rfl
  clear FIN BAD
  obtain⟨vt1,zce⟩:∃r,yk n zg=r:=⟨_,rfl⟩
  have HVT:Hid (yk n zg=vt1):=zce
  clear zce
  cases vt1
  ·go_wp2_with (first | (go_at_call 61;refine(yd _ _ _).mono ?_;rintro e w' ⟨rfl,hw⟩;obtain rfl:=hw.symm;rw[hpe,hpc]) | (go_at_call 130;refine HT.out.mono ?_;rintro e w2 ⟨rfl,hb2⟩;rw[HVT.out]))
   go_ret
   exact⟨zm (by rw[HF.out,HVT.out,Bool.false_and]),hB.trans (hb2.mono zB)⟩
  ·go_wp2_with (first | (go_at_call 61;refine(yd _ _ _).mono ?_;rintro e w' ⟨rfl,hw⟩;obtain rfl:=hw.symm;rw[hpe,hpc]) | (go_at_call 130;have hh:=hb2;clear hh;refine(HV.out _ hb2).mono ?_;rintro e w3 ⟨rfl,hb3⟩) | (go_at_call 130;refine HT.out.mono ?_;rintro e w2 ⟨rfl,hb2⟩;rw[HVT.out];have y3w:=zc hb2 y3;have zb2:=hb2.size))
   go_ret
   exact⟨zm (by rw[HF.out,HVT.out,Bool.true_and]),(hB.trans (hb2.mono zB)).trans (hb3.mono (Nat.le_trans zB zb2))⟩
end Go.Proofs.YtjbgpcileapogaaGreat
