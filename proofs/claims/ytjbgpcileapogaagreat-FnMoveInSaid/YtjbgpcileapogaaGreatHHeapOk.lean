/-
  The calls that wait for one another: the chain, in plain words, and the document's model of it (l11Chain).
-/
import Derived.Test.YtjbgpcileapogaaGreatHImpl1
import Derived.Test.YtjbgpcileapogaaGreatInts
import Derived.Test.YtjbgpcileapogaaGreatQB
namespace Go.Proofs.YtjbgpcileapogaaGreat
open Go.RowKit
def yR (cs:List Cl):Nat->Int->Option (List Nat)
 | 0,a=>if a<0 then some [] else none
 | f+1,a=>if a<0 then some [] else if h:a.toNat<cs.length then(if cs[a.toNat].zv then none else(yR cs f cs[a.toNat].zf).map (a.toNat :: ·)) else none
def yg (cs:List Cl) (now:Int):List Nat:=(yR cs cs.length now).getD []
theorem yZ {cs:List Cl} {f:Nat} {a:Int} (h:a<0):yR cs f a=some []:=by
 cases f <;> simp[yR,h]
theorem vJ {cs:List Cl} {a:Int} (h:0<=a):yR cs 0 a=none:=by
 simp[yR];omega
theorem uR {cs:List Cl} {f:Nat} {a:Nat} (h:¬a<cs.length):yR cs f (a:Int)=none:=by
 cases f with
 | zero=>exact vJ (by omega)
 | succ f =>
  simp only[yR]
  rw[if_neg (by omega),dif_neg (by simpa using h)]
theorem vI {cs:List Cl} {f:Nat} {a:Nat} (h:a<cs.length) (hd:cs[a].zv=true):yR cs f (a:Int)=none:=by
 cases f with
 | zero=>exact vJ (by omega)
 | succ f =>
  simp only[yR,Int.toNat_natCast]
  rw[if_neg (by omega),dif_pos h,if_pos hd]
theorem j7 {cs:List Cl} {f:Nat} {a:Nat} (h:a<cs.length) (hd:cs[a].zv=false):yR cs (f+1) (a:Int)=(yR cs f cs[a].zf).map (a :: ·):=by
 simp only[yR,Int.toNat_natCast]
 rw[if_neg (by omega),dif_pos h,hd]
 rfl
def ug (l:List Nat):List Int:=l.map fun(k:Nat)=>(k:Int)
theorem qP (l:List Nat):(ug l).length=l.length:=by simp[ug]
theorem KN (l:List Nat) (k:Nat):ug l ++ [(k:Int)]=ug (l ++ [k]):=by simp[ug]
theorem Tryz.infoInt2:(Tryz.prog.info? 3).map (fun i=>(i.zero,i.size,i.bytes))=some (some (.int .i64 0),1,8):=by kernel_rfl
theorem Ut (w:World):zO w.heap.size (w.alloc (.cells #[] 3)) (.slice (some ⟨w.heap.size,0,none⟩) 0 0) [] :=
 .inr ⟨w.heap.size,0,0,rfl,Nat.le_refl _,by simp,Nat.le_refl _,Nat.zero_le _,fun i hi=>absurd hi zF,fun i hi=>absurd hi zF⟩
set_option maxRecDepth 100000 in
set_option maxHeartbeats 4000000 in
theorem wE (vc vs:Value) (h:Hp) (w:World) (hh:qa w vc vs h) (hn:h.za.length<=900000) :
 Calls Tryz.prog 55 #[.agg (yn vc vs h)] w fun e w'=>∃v,e=.returned v/\zO w.heap.size w' v (ug (yg h.za h.now))/\Below w.heap.size w w':=by
 unfold yn
 obtain⟨cs,now,born,zl,code⟩:=h
 obtain⟨hhc,hhs⟩:=hh
 simp only[] at hhc hhs hn ⊢
 obtain⟨aD,kD,hvs⟩:=hhs.shape
 subst hvs
 obtain⟨ac,kc,rfl,_,hcl⟩:=hhc
 have hA:=zB w (.cells #[.slice ac cs.length kc,.int .i64 now,.int .i64 born,.slice aD zl.length kD,.int .i64 code] 29)
 have b0:(w.alloc (.cells #[.slice ac cs.length kc,.int .i64 now,.int .i64 born,.slice aD zl.length kD,.int .i64 code] 29)).cell? ⟨w.heap.size,0,none⟩=some (.slice ac cs.length kc):=by simp[go_sem]
 have b1:(w.alloc (.cells #[.slice ac cs.length kc,.int .i64 now,.int .i64 born,.slice aD zl.length kD,.int .i64 code] 29)).cell? ⟨w.heap.size,1,none⟩=some (.int .i64 now):=by simp[go_sem]
 go_enter Tryz.func55,Tryz.ntmps55
 go_upto_region 1 with fail
 generalize w.alloc (.cells #[.slice ac cs.length kc,.int .i64 now,.int .i64 born,.slice aD zl.length kD,.int .i64 code] 29)=W0 at *
 have zA:=hA.size
 have hw0:w.heap.size<W0.heap.size:=World.block_lt_of_cell? _ _ b0
 have bN:=fun o=>zc (zB _ o) b0
 have b1N:=fun o=>zc (zB _ o) b1
 have r0:=Ut W0
 have hB0:=hA.alloc zA (.cells #[] 3)
 go_upto_region 3 with fail
 go_wp2_with fail
 have HW:Hid (yR cs cs.length now=(yR cs (cs.length - ([]:List Nat).length) now).map (([]:List Nat) ++ ·)):=by
  show _=_
  simp
 obtain⟨i0,hi,hz0,hz1,hz2⟩:=info_parts Tryz.infoInt2
 clear hA b0 b1 b1N hhs
 go_loopg [3,4] cs.length (fun d v at_ wr=>∃(pre:List Nat) (a:Int),pre.length<=cs.length/\d=cs.length - pre.length/\at_=.int .i64 a/\zO W0.heap.size wr v (ug pre)/\wr.cell? ⟨w.heap.size,0,none⟩=some (.slice ac cs.length kc)/\Below w.heap.size w wr/\W0.heap.size<=wr.heap.size/\yR cs cs.length now=(yR cs (cs.length - pre.length) a).map (pre ++ ·))
 case atStart=>exact⟨[],now,Nat.zero_le _,rfl,rfl,r0,bN _,hB0,by simp,HW.out⟩
 case round =>
  obtain⟨pre,a,hpl,rfl,rfl,zS,br,hb,Wj,Us⟩:=hrel
  have HK:Hid (yR cs cs.length now=(yR cs (cs.length - pre.length) a).map (pre ++ ·)):=Us
  clear Us bN r0 hB0 HW
  have hsz:=hb.size
  have hbw:w.heap.size<wr.heap.size:=World.block_lt_of_cell? _ _ br
  obtain⟨av,kv,hv,_⟩:=zS.slice
  rw[qP] at hv
  subst hv
  by_cases ha:a<0
  ·have HE:Hid (ug (yg cs now)=ug pre):=by
    show _=_
    unfold yg
    rw[HK.out,yZ ha]
    simp
   go_wp2
   go_ret
   exact⟨_,rfl,by rw[HE.out];exact zS.mono (by omega),hb⟩
  obtain⟨an,han⟩:=Int.eq_ofNat_of_zero_le (show 0<=a by omega)
  subst han
  clear ha
  have hnone:yR cs (cs.length - pre.length) (an:Int)=none->ug (yg cs now)=[]:=fun e=>by
   unfold yg
   rw[HK.out,e]
   rfl
  have HN:Hid (yR cs (cs.length - pre.length) (an:Int)=none->ug (yg cs now)=[]):=hnone
  clear hnone
  have hE:∀W:World,w.heap.size<=W.heap.size->zO w.heap.size (W.alloc (.cells #[] 3)) (.slice (some ⟨W.heap.size,0,none⟩) 0 0) []:=fun W hz=>(Ut W).mono hz
  by_cases hfull:cs.length<=pre.length
  ·have hfz:(cs.length:Int)<=(pre.length:Int):=by omega
   have HE:Hid (ug (yg cs now)=[]):=HN.out (by rw[show cs.length - pre.length=0 by omega];exact vJ (by omega))
   go_wp2
   go_ret
   exact⟨_,rfl,by rw[HE.out];exact hE _ hsz,hb.alloc hsz _⟩
  have hfz:(pre.length:Int)<(cs.length:Int):=by omega
  by_cases hin:cs.length<=an
  ·have hinz:(cs.length:Int)<=(an:Int):=by omega
   have HE:Hid (ug (yg cs now)=[]):=HN.out (uR (by omega))
   go_wp2
   go_ret
   exact⟨_,rfl,by rw[HE.out];exact hE _ hsz,hb.alloc hsz _⟩
  have han:an<cs.length:=by omega
  have hanz:(an:Int)<(cs.length:Int):=by omega
  obtain⟨b,o,vt,vs,rfl,hc⟩:=hcl an han
  have d4:=zc hb hc.c4
  have d5:=zc hb hc.c5
  have hbl:b<w.heap.size:=World.block_lt_of_cell? _ _ hc.c4
  rcases hdd:cs[an].zv with _ | _
  ·rw[hdd] at d5
   have HS:Hid (yR cs cs.length now=(yR cs (cs.length - (pre ++ [an]).length) cs[an].zf).map ((pre ++ [an]) ++ ·)):=by
    show _=_
    rw[HK.out,show cs.length - pre.length=(cs.length - (pre ++ [an]).length)+1 by simp;omega,j7 han hdd]
    rw[Option.map_map]
    congr 1
    funext x
    simp
   generalize cs[an].zf=sd at *
   clear HN hE hc
   go_wp2_with (at_builtin;refine Jc Tryz.underlying39 hi hz0 hz1 hz2 _ (by rfl) _ _ (by rfl) _ (ug pre) (by rfl) zS _ _ _ rfl (by rfl) (by rw[qP];omega) Wj ?_;intro g2 Yv cp2 w2 hrow2 hg2 hor2 hlt2;have br2:=hg2.cell br (fun e=>by have h9:W0.heap.size<=w.heap.size:=(zS.lt _ e.symm).1;omega);have e4:=hg2.cell d4 (fun e=>by have h9:W0.heap.size<=b:=(zS.lt _ e.symm).1;omega))
   have hb2:Below w.heap.size w w2:=hb.grown hg2 hsz (fun k e=>by have:=(zS.lt k e).1;omega)
   have hz2':=hg2.size
   rw[KN] at hrow2
   have HL:Hid ((pre ++ [an]).length=pre.length+1):=by show _=_;simp
   clear hg2 hor2 hlt2 zS d4 d5 br
   go_wp2
   go_roundg (cs.length - (pre ++ [an]).length)
   case measure=>have:=HL.out;omega
   case rel=>exact⟨pre ++ [an],_,by have:=HL.out;omega,rfl,rfl,by simpa [qP] using hrow2,br2,hb2,by omega,HS.out⟩
  ·rw[hdd] at d5
   have HE:Hid (ug (yg cs now)=[]):=HN.out (vI han hdd)
   go_wp2
   go_ret
   exact⟨_,rfl,by rw[HE.out];exact hE _ hsz,hb.alloc hsz _⟩
theorem J5 {cs:List Cl}:∀(f:Nat) (a:Int) (l:List Nat),yR cs f a=some l->∀k∈l,∃h:k<cs.length,cs[k].zv=false
 | 0,a,l,h,k,hk=>by
  simp only[yR] at h
  split at h
  ·cases h;cases hk
  ·cases h
 | f+1,a,l,h,k,hk=>by
  simp only[yR] at h
  split at h
  ·cases h;cases hk
  ·split at h
   ·rename_i hn ha
    split at h
    ·cases h
    ·rename_i hd
     obtain⟨l',hl',rfl⟩:=Option.map_eq_some_iff.1 h
     rcases List.mem_cons.1 hk with rfl | hk
     ·exact⟨ha,by simpa using hd⟩
     ·exact J5 f _ l' hl' k hk
   ·cases h
theorem Jf {cs:List Cl} {now:Int} {k:Nat} (h:k∈yg cs now):∃h:k<cs.length,cs[k].zv=false:=by
 unfold yg at h
 cases hw:yR cs cs.length now with
 | none=>rw[hw] at h;cases h
 | some l=>rw[hw] at h;exact J5 _ _ _ hw k h
def wb (cs:List Cl) (ch:List Nat):Bool:=(ch.drop 1).all fun k=>decide ((cs.getD k Cl.none).ze.length<6)
theorem zcB {cs:List Cl} {ch:List Nat} {i:Nat} (h1:1<=i) (hi:i<ch.length) (hk:ch[i]<cs.length) (h:¬cs[ch[i]].ze.length<6):wb cs ch=false:=by
 unfold wb
 rw[List.all_eq_false]
 refine⟨ch[i],?_,by simp[hk,h]⟩
 have:ch[i]=(ch.drop 1)[i - 1]'(by simp;omega):=by
  rw[List.getElem_drop]
  congr 1
  omega
 rw[this]
 exact List.getElem_mem _
theorem KT {cs:List Cl} {ch:List Nat} (hin:∀k∈ch,k<cs.length) (h:∀i,(hi:i<ch.length)->1<=i->∀hk:ch[i]<cs.length,cs[ch[i]].ze.length<6):wb cs ch=true:=by
 unfold wb
 rw[List.all_eq_true]
 intro k hk
 obtain⟨j,hj,rfl⟩:=List.getElem_of_mem hk
 have hj':j+1<ch.length:=by simp at hj;omega
 have e:(ch.drop 1)[j]=ch[j+1]:=by simp
 rw[e]
 have hk':=hin _ (List.getElem_mem hj')
 have:=h (j+1) hj' (by omega) hk'
 simp[hk',this]
set_option maxRecDepth 100000 in
set_option maxHeartbeats 4000000 in
theorem Xi (vc vs:Value) (h:Hp) (w:World) (hh:qa w vc vs h) (hn:h.za.length<=900000) :
 Calls Tryz.prog 60 #[.agg (yn vc vs h)] w fun e w'=>e=.returned (.bool (wb h.za (yg h.za h.now)))/\Below w.heap.size w w':=by
 obtain⟨ac,kc,Yq⟩:=hh.c.shape
 obtain⟨aD,kD,hvs⟩:=hh.s.shape
 subst Yq hvs
 have hA:=zB w (.cells (yn (.slice ac h.za.length kc) (.slice aD h.zl.length kD) h) 29)
 have b0:(w.alloc (.cells (yn (.slice ac h.za.length kc) (.slice aD h.zl.length kD) h) 29)).cell? ⟨w.heap.size,0,none⟩=some (.slice ac h.za.length kc):=by simp[go_sem,yn]
 unfold yn at hA b0 ⊢
 go_enter Tryz.func60,Tryz.ntmps60
 go_wp2_with fail
 generalize w.alloc (.cells #[.slice ac h.za.length kc,.int .i64 h.now,.int .i64 h.born,.slice aD h.zl.length kD,.int .i64 h.code] 29)=W0 at *
 have zA:=hA.size
 refine(wE _ _ h _ (hh.below hA) hn).mono ?_
 rintro e w1 ⟨v,rfl,zS,hb1⟩
 have hB1:Below w.heap.size w w1:=hA.trans (hb1.mono zA)
 have c0:=zc hb1 b0
 have hin:Hid (∀k∈yg h.za h.now,k<h.za.length):=fun k hk=>(Jf hk).1
 clear hA b0 hb1
 obtain⟨ch,hch⟩:∃ch,yg h.za h.now=ch:=⟨_,rfl⟩
 rw[hch] at zS hin
 have HCH:Hid (yg h.za h.now=ch):=hch
 clear hch
 obtain⟨av,kv,hv,hlv⟩:=zS.slice
 rw[qP] at hv hlv
 subst hv
 unfold maxLen at hlv
 have z1:=hB1.size
 go_wp2_with fail
 go_loopg [4] ch.length (fun d i wr=>∃k:Nat,1<=k/\k<=ch.length+1/\d=ch.length+1 - k/\i=.int .i64 k/\Below w1.heap.size w1 wr/\∀j,(hj:j<ch.length)->1<=j->j<k->∀hk:ch[j]<h.za.length,h.za[ch[j]].ze.length<6)
 case atStart=>exact⟨1,Nat.le_refl _,by omega,by omega,rfl,zC,fun j _ h1 h2=>absurd h2 (by omega)⟩
 case round =>
  obtain⟨k,hk1,hk,rfl,rfl,hb,hall⟩:=hrel
  have H:Hid (∀j,(hj:j<ch.length)->1<=j->j<k->∀hk:ch[j]<h.za.length,h.za[ch[j]].ze.length<6):=hall
  clear hall
  by_cases hlt:k<ch.length
  ·have hkz:(k:Int)<(ch.length:Int):=by omega
   have hik:=hin.out _ (List.getElem_mem hlt)
   have hkn:k<(ug ch).length:=by rw[qP];exact hlt
   obtain⟨g1,o1,q1,e1,_⟩:=zS.form (by omega)
   rw[qP] at e1
   cases e1
   have rc:=((zS.below hb).cell hkn).1
   have en:(ug ch)[k]=((ch[k]:Nat):Int):=by simp[ug]
   rw[en] at rc
   have cr:=zc hb c0
   obtain⟨acx,kcx,hx,_,hcl⟩:=hh.c
   cases hx
   obtain⟨b,o,vt,vs,rfl,hc⟩:=hcl _ hik
   have hcr:=(hc.below hB1).below hb
   have d3:=hcr.c3
   obtain⟨a3,k3,h3⟩:=hcr.s.shape
   rw[h3] at d3
   have hikz:((ch[k]:Nat):Int)<(h.za.length:Int):=by omega
   have HNO:Hid (¬h.za[ch[k]].ze.length<6->wb h.za ch=false):=fun hno=>zcB hk1 hlt hik hno
   have HYES:Hid (h.za[ch[k]].ze.length<6->∀j,(hj:j<ch.length)->1<=j->j<k+1->∀hk:ch[j]<h.za.length,h.za[ch[j]].ze.length<6):=fun hy j hj hj1 hjk hk'=>by
    by_cases e:j=k
    ·subst e;exact hy
    ·exact H.out j hj hj1 (by omega) hk'
   clear hcl hc hcr en h3
   generalize h.za[ch[k]].ze.length=sl at *
   generalize ch[k]=ck at *
   by_cases h6:sl<6
   ·have h6z:(sl:Int)<6:=by omega
    go_wp2_with fail
    go_region
    all_goals
     go_wp2
     go_roundg (ch.length+1 - (k+1))
     case measure=>omega
     case rel=>exact⟨k+1,by omega,by omega,rfl,by go_num,hb.drew,HYES.out h6⟩
   ·have h6z:(6:Int)<=(sl:Int):=by omega
    go_wp2_with fail
    go_region
    all_goals
     go_wp2
     go_ret
     exact⟨zm (by rw[HCH.out];exact(HNO.out h6).symm),hB1.trans (hb.drew.mono z1)⟩
  ·have hkz:(ch.length:Int)<=(k:Int):=by omega
   go_wp2
   go_ret
   exact⟨zm (by rw[HCH.out];exact(KT hin.out (fun i hi h1 hk'=>H.out i hi h1 (by omega) hk')).symm),hB1.trans (hb.mono z1)⟩
def qw (ms:zM) (h:Hp):Bool :=
 yt ms && yO h.now (-1) ((h.za.length:Int) - 1) && yO h.born 1 30 && decide ((h.za.length:Int)<=h.born) && yO h.code 0 3 && yk ms.length h.zl && ((h.code == 1) == decide (h.now<0))
def yY (cs:List Cl):Nat:=(cs.filter fun c=>!c.zv).length
def kZ (h:Hp):Bool:=(decide (h.now<0) || !(h.za.getD h.now.toNat Cl.none).zv) && ((yg h.za h.now).length == yY h.za) && wb h.za (yg h.za h.now)
def ym (ms:zM) (h:Hp):Bool:=qw ms h && h.za.all (yT ms h.za.length) && kZ h
theorem Zn {ms:zM} {h:Hp} (e:qw ms h=false):ym ms h=false:=by simp[ym,e]
theorem Zm {ms:zM} {h:Hp} {i:Nat} (hi:i<h.za.length) (e:yT ms h.za.length h.za[i]=false):ym ms h=false:=by
 simp only[ym,YL hi e,Bool.and_false,Bool.false_and]
theorem Ju {ms:zM} {h:Hp} (e:qw ms h=true) (hc:∀i,(hi:i<h.za.length)->yT ms h.za.length h.za[i]=true):ym ms h=kZ h:=by
 simp only[ym,e,Ya hc,Bool.true_and]
theorem Yr {cs:List Cl} {k:Nat} (hk:k<cs.length):yY (cs.take (k+1))=yY (cs.take k)+(if cs[k].zv then 0 else 1):=by
 unfold yY
 rw[List.take_succ_eq_append_getElem hk,List.filter_append,List.length_append]
 congr 1
 by_cases e:cs[k].zv=true <;> simp[e]
set_option maxRecDepth 100000 in
set_option maxHeartbeats 8000000 in
theorem ZE (vp vc vs:Value) (ms:zM) (h:Hp) (w:World) (hp:yy w vp ms) (hh:qa w vc vs h) (hn:h.za.length<=1048576) :
 Calls Tryz.prog 17 #[.agg #[vp],.agg (yn vc vs h)] w fun e w'=>e=.returned (.bool (ym ms h))/\Below w.heap.size w w':=by
 obtain⟨ac,kc,Yq⟩:=hh.c.shape
 obtain⟨aD,kD,hvs⟩:=hh.s.shape
 obtain⟨ap,cp,hvp,hlp,_⟩:=id hp
 subst Yq hvs hvp
 unfold maxLen at hlp
 unfold yn
 have hA:Below w.heap.size w ((w.alloc (.cells #[.slice ap ms.length cp] 25)).alloc (.cells #[.slice ac h.za.length kc,.int .i64 h.now,.int .i64 h.born,.slice aD h.zl.length kD,.int .i64 h.code] 29)):=(zB _ _).alloc (by simp) _
 have bp:((w.alloc (.cells #[.slice ap ms.length cp] 25)).alloc (.cells #[.slice ac h.za.length kc,.int .i64 h.now,.int .i64 h.born,.slice aD h.zl.length kD,.int .i64 h.code] 29)).cell? ⟨w.heap.size,0,none⟩=some (.slice ap ms.length cp):=by simp[go_sem]
 have bh:=qG (w.alloc (.cells #[.slice ap ms.length cp] 25)) 29 (.slice ac h.za.length kc) (.int .i64 h.now) (.int .i64 h.born) (.slice aD h.zl.length kD) (.int .i64 h.code)
 simp only[World.size_alloc] at bh
 go_enter Tryz.func17,Tryz.ntmps17
 go_upto_region 1 with fail
 generalize (w.alloc (.cells #[.slice ap ms.length cp] 25)).alloc (.cells #[.slice ac h.za.length kc,.int .i64 h.now,.int .i64 h.born,.slice aD h.zl.length kD,.int .i64 h.code] 29)=W0 at *
 obtain⟨⟨x0,x1,x2,x3,x4⟩,_⟩:=zJ bh
 have zA:=hA.size
 go_wp2_with fail
 refine(uQ _ ms _ (hp.below hA)).mono ?_
 rintro e w1 ⟨rfl,hb1⟩
 have hB1:Below w.heap.size w w1:=hA.trans (hb1.mono zA)
 have bp1:=zc hb1 bp
 have bh1:=zz hb1 bh
 have z1:=hB1.size
 clear hA bp bh x0 x1 x2 x3 x4 hb1
 obtain⟨⟨x0,x1,x2,x3,x4⟩,_⟩:=zJ bh1
 have HH:Hid (qw ms h=false->ym ms h=false):=Zn
 cases h1:yt ms
 ·have HE:Hid (ym ms h=false):=HH.out (by simp[qw,h1])
  go_wp2
  go_ret
  exact⟨zm HE.out.symm,hB1⟩
 cases h2:yO h.now (-1) ((h.za.length:Int) - 1)
 ·have HE:Hid (ym ms h=false):=HH.out (by simp[qw,h2])
  go_wp2_with (go_at_call 57;refine(yv _ _ _ _).mono ?_;rintro e w' ⟨rfl,hw⟩;obtain rfl:=hw.symm)
  go_ret
  exact⟨zm HE.out.symm,hB1⟩
 cases h3:yO h.born 1 30
 ·have HE:Hid (ym ms h=false):=HH.out (by simp[qw,h3])
  go_wp2_with (go_at_call 57;refine(yv _ _ _ _).mono ?_;rintro e w' ⟨rfl,hw⟩;obtain rfl:=hw.symm)
  go_ret
  exact⟨zm HE.out.symm,hB1⟩
 have h3':=zH.1 h3
 by_cases h4:h.born<(h.za.length:Int)
 ·have HE:Hid (ym ms h=false):=HH.out (by simp only[qw,decide_eq_false (show ¬(h.za.length:Int)<=h.born by omega),Bool.and_false,Bool.false_and])
  go_wp2_with (go_at_call 57;refine(yv _ _ _ _).mono ?_;rintro e w' ⟨rfl,hw⟩;obtain rfl:=hw.symm)
  go_ret
  exact⟨zm HE.out.symm,hB1⟩
 have h4':(h.za.length:Int)<=h.born:=by omega
 replace hn:h.za.length<=900000:=by omega
 clear h4
 cases h5:yO h.code 0 3
 ·have HE:Hid (ym ms h=false):=HH.out (by simp[qw,h5])
  go_wp2_with (go_at_call 57;refine(yv _ _ _ _).mono ?_;rintro e w' ⟨rfl,hw⟩;obtain rfl:=hw.symm)
  go_ret
  exact⟨zm HE.out.symm,hB1⟩
 go_wp2_with (go_at_call 57;refine(yv _ _ _ _).mono ?_;rintro e w' ⟨rfl,hw⟩;obtain rfl:=hw.symm)
 refine(Uy _ _ ms h.zl _ (hp.below hB1) (hh.below hB1).s).mono ?_
 rintro e w2 ⟨rfl,hb2⟩
 have hB2:Below w.heap.size w w2:=hB1.trans (hb2.mono z1)
 have bp2:=zc hb2 bp1
 have bh2:=zz hb2 bh1
 have z2:=hB2.size
 clear hB1 bp1 bh1 x0 x1 x2 x3 x4 hb2
 obtain⟨⟨x0,x1,x2,x3,x4⟩,_⟩:=zJ bh2
 cases h6:yk ms.length h.zl
 ·have HE:Hid (ym ms h=false):=HH.out (by simp[qw,h6])
  go_wp2
  go_ret
  exact⟨zm HE.out.symm,hB2⟩
 have HEND:Hid (((h.code == 1) == decide (h.now<0))=true->(∀i,(hi:i<h.za.length)->yT ms h.za.length h.za[i]=true)->ym ms h=kZ h):=fun h7=>Ju (by simp only[qw,h1,h2,h3,decide_eq_true h4',h5,h6,h7,Bool.true_and])
 have h2':=zH.1 h2
 by_cases hc1:h.code=1
 ·have hcb:(h.code == 1)=true:=by rw[beq_iff_eq];exact hc1
  have HC1:Hid (h.code=1):=hc1
  clear hc1
  by_cases hnn:h.now<0
  ·have hdn:decide (h.now<0)=true:=decide_eq_true hnn
   replace HEND:Hid ((∀i,(hi:i<h.za.length)->yT ms h.za.length h.za[i]=true)->ym ms h=kZ h):=HEND.out (by rw[hcb,decide_eq_true hnn];rfl)
   have hnb:(h.za.length:Int)<=30:=by omega
   clear h1 h2 h3 h5 h6 HH
   go_wp2_with fail
   go_loopg [6,7] h.za.length (fun d lv i wr=>∃(k l:Nat),k<=h.za.length/\d=h.za.length - k/\lv=.int .i64 l/\i=.int .i64 k/\l<=k/\Hid (l=yY (h.za.take k))/\Below w2.heap.size w2 wr/\∀j,(hj:j<h.za.length)->j<k->yT ms h.za.length h.za[j]=true)
   case atStart=>exact⟨0,0,Nat.zero_le _,rfl,rfl,rfl,Nat.le_refl _,by show 0=_;simp[yY],zC,fun j _ hj=>absurd hj zF⟩
   case round =>
    obtain⟨k,l,hk,rfl,rfl,rfl,hlk,HL,hbr,hall⟩:=hrel
    have HA:Hid (∀j,(hj:j<h.za.length)->j<k->yT ms h.za.length h.za[j]=true):=hall
    clear hall
    have hBr:Below w.heap.size w wr:=hB2.trans (hbr.mono z2)
    have zr:=hBr.size
    have bpr:=zc hbr bp2
    have bhr:=zz hbr bh2
    obtain⟨⟨y0,y1,y2,y3,y4⟩,_⟩:=zJ bhr
    clear x0 x1 x2 x3 x4
    by_cases hlt:k<h.za.length
    ·have hkz:(k:Int)<(h.za.length:Int):=by omega
     obtain⟨_,_,hx,_,hcl⟩:=(hh.below hBr).c
     cases hx
     obtain⟨b,o,vt,vs',rfl,hc⟩:=hcl k hlt
     obtain⟨d0,d1,d2,d3,d4,d5,dt,ds⟩:=hc
     obtain⟨a1,k1,e1⟩:=dt.shape
     obtain⟨a2,k2,e2⟩:=ds.shape
     rw[e1] at d2 dt
     rw[e2] at d3 ds
     clear e1 e2 hcl
     have DT:zR wr.drew _ _:=dt.below zC.drew
     have DS:zR wr.drew _ _:=ds.below zC.drew
     have DP:yy wr.drew _ ms:=(hp.below hBr).below zC.drew
     have HNO:Hid (yT ms h.za.length h.za[k]=false->ym ms h=false):=Zm hlt
     have HST:Hid (yY (h.za.take (k+1))=yY (h.za.take k)+(if h.za[k].zv then 0 else 1)):=Yr hlt
     have HYES:Hid (yT ms h.za.length h.za[k]=true->∀j,(hj:j<h.za.length)->j<k+1->yT ms h.za.length h.za[j]=true):=fun hy j hj hjk=>by
      by_cases e:j=k
      ·subst e;exact hy
      ·exact HA.out j hj (by omega)
     obtain⟨r,hr⟩:∃r,yT ms h.za.length h.za[k]=r:=⟨_,rfl⟩
     have HR:Hid (yT ms h.za.length h.za[k]=r):=hr
     clear hr dt ds
     go_wp2_with fail
     go_region_with (go_at_call 59;refine(Xg _ _ _ ms h.za[k] h.za.length _ DP DT DS (by unfold maxLen;omega)).mono ?_;rintro e w3 ⟨rfl,hb3⟩;rw[HR.out])
     all_goals
      have Qz:Below w2.heap.size w2 w3:=hbr.drew.trans (hb3.mono hbr.size)
      have hB3:Below w.heap.size w w3:=hB2.trans (Qz.mono z2)
      have b3:=zz Qz bh2
      obtain⟨⟨v0,v1,v2,v3,v4⟩,_⟩:=zJ b3
      have f5:w3.cell? ⟨b,o+k * 6+5,none⟩=some (.bool h.za[k].zv):=zc hb3 d5
      clear hb3 d0 d1 d2 d3 d4 d5 DT DS DP y0 y1 y2 y3 y4 b3 bpr bhr
      cases r
      ·go_wp2
       go_ret
       exact⟨zm (HNO.out HR.out).symm,hB3⟩
      ·have hy:=HYES.out HR.out
       have HY:Hid (∀j,(hj:j<h.za.length)->j<k+1->yT ms h.za.length h.za[j]=true):=hy
       clear hy HYES HNO
       cases hdd:h.za[k].zv
       ·rw[hdd] at f5
        have HL':Hid (l+1=yY (h.za.take (k+1))):=by show _=_;rw[HST.out,<-HL.out,hdd];rfl
        go_wp2
        go_roundg (h.za.length - (k+1))
        case measure=>omega
        case rel=>exact⟨k+1,l+1,by omega,rfl,by go_num,by go_num,by omega,HL',Qz,HY.out⟩
       ·rw[hdd] at f5
        have HL':Hid (l=yY (h.za.take (k+1))):=by show _=_;rw[HST.out,<-HL.out,hdd];rfl
        go_wp2
        go_roundg (h.za.length - (k+1))
        case measure=>omega
        case rel=>exact⟨k+1,l,by omega,rfl,rfl,by go_num,by omega,HL',Qz,HY.out⟩
    ·obtain rfl:k=h.za.length:=by omega
     have HE:Hid (ym ms h=kZ h):=HEND.out (fun i hi=>HA.out i hi hi)
     have HLN:Hid (l=yY h.za):=by show _=_;rw[HL.out,List.take_length]
     clear HL HA HEND
     have HED:Hid (kZ h=(((yg h.za h.now).length == l) && wb h.za (yg h.za h.now))):=by
      show _=_
      unfold kZ
      rw[hdn,HLN.out]
      rfl
     go_wp2_with fail
     refine(wE _ _ h _ (hh.below hBr) hn).mono ?_
     rintro e w3 ⟨v3,rfl,zS,hb3⟩
     have hB3:Below w.heap.size w w3:=hBr.trans (hb3.mono zr)
     have z3:=hB3.size
     have b3:=zz hb3 bhr
     obtain⟨⟨v0,v1,v2,v3',v4⟩,_⟩:=zJ b3
     obtain⟨av,kv,hv,hlv⟩:=zS.slice
     rw[qP] at hv hlv
     subst hv
     unfold maxLen at hlv
     clear hb3 zS
     by_cases hl:(yg h.za h.now).length=l
     ·have hlb:(((yg h.za h.now).length:Int) == (l:Int))=true:=by rw[beq_iff_eq];omega
      have HLL:Hid ((yg h.za h.now).length=l):=hl
      clear hl
      go_wp2_with fail
      refine(Xi _ _ h _ (hh.below hB3) hn).mono ?_
      rintro e w4 ⟨rfl,hb4⟩
      have hB4:Below w.heap.size w w4:=hB3.trans (hb4.mono z3)
      clear hb4
      go_wp2
      go_ret
      exact⟨zm (by rw[HE.out,HED.out,HLL.out];simp),hB4⟩
     ·have hlb:(((yg h.za h.now).length:Int) == (l:Int))=false:=by rw[zG];omega
      have hlb':((yg h.za h.now).length == l)=false:=zG.2 hl
      go_wp2
      go_ret
      exact⟨zm (by rw[HE.out,HED.out,hlb'];rfl),hB3⟩
  ·have hn0:0<=h.now:=by omega
   have hdn:decide (h.now<0)=false:=decide_eq_false hnn
   have HE:Hid (ym ms h=false):=HH.out (by unfold qw;rw[hcb,decide_eq_false hnn,show(true == false)=false from rfl,Bool.and_false])
   clear hnn
   go_wp2
   go_ret
   exact⟨zm HE.out.symm,hB2⟩
 ·have hcb:(h.code == 1)=false:=zG.2 hc1
  by_cases hnn:h.now<0
  ·have HE:Hid (ym ms h=false):=HH.out (by unfold qw;rw[hcb,decide_eq_true hnn,show(false == true)=false from rfl,Bool.and_false])
   go_wp2
   go_ret
   exact⟨zm HE.out.symm,hB2⟩
  ·have hn0:0<=h.now:=by omega
   have hdn:decide (h.now<0)=false:=decide_eq_false hnn
   replace HEND:Hid ((∀i,(hi:i<h.za.length)->yT ms h.za.length h.za[i]=true)->ym ms h=kZ h):=HEND.out (by rw[hcb,decide_eq_false hnn];rfl)
   clear hnn
   have hnb:(h.za.length:Int)<=30:=by omega
   clear h1 h2 h3 h5 h6 HH
   go_wp2_with fail
   go_loopg [6,7] h.za.length (fun d lv i wr=>∃(k l:Nat),k<=h.za.length/\d=h.za.length - k/\lv=.int .i64 l/\i=.int .i64 k/\l<=k/\Hid (l=yY (h.za.take k))/\Below w2.heap.size w2 wr/\∀j,(hj:j<h.za.length)->j<k->yT ms h.za.length h.za[j]=true)
   case atStart=>exact⟨0,0,Nat.zero_le _,rfl,rfl,rfl,Nat.le_refl _,by show 0=_;simp[yY],zC,fun j _ hj=>absurd hj zF⟩
   case round =>
    obtain⟨k,l,hk,rfl,rfl,rfl,hlk,HL,hbr,hall⟩:=hrel
    have HA:Hid (∀j,(hj:j<h.za.length)->j<k->yT ms h.za.length h.za[j]=true):=hall
    clear hall
    have hBr:Below w.heap.size w wr:=hB2.trans (hbr.mono z2)
    have zr:=hBr.size
    have bpr:=zc hbr bp2
    have bhr:=zz hbr bh2
    obtain⟨⟨y0,y1,y2,y3,y4⟩,_⟩:=zJ bhr
    clear x0 x1 x2 x3 x4
    by_cases hlt:k<h.za.length
    ·have hkz:(k:Int)<(h.za.length:Int):=by omega
     obtain⟨_,_,hx,_,hcl⟩:=(hh.below hBr).c
     cases hx
     obtain⟨b,o,vt,vs',rfl,hc⟩:=hcl k hlt
     obtain⟨d0,d1,d2,d3,d4,d5,dt,ds⟩:=hc
     obtain⟨a1,k1,e1⟩:=dt.shape
     obtain⟨a2,k2,e2⟩:=ds.shape
     rw[e1] at d2 dt
     rw[e2] at d3 ds
     clear e1 e2 hcl
     have DT:zR wr.drew _ _:=dt.below zC.drew
     have DS:zR wr.drew _ _:=ds.below zC.drew
     have DP:yy wr.drew _ ms:=(hp.below hBr).below zC.drew
     have HNO:Hid (yT ms h.za.length h.za[k]=false->ym ms h=false):=Zm hlt
     have HST:Hid (yY (h.za.take (k+1))=yY (h.za.take k)+(if h.za[k].zv then 0 else 1)):=Yr hlt
     have HYES:Hid (yT ms h.za.length h.za[k]=true->∀j,(hj:j<h.za.length)->j<k+1->yT ms h.za.length h.za[j]=true):=fun hy j hj hjk=>by
      by_cases e:j=k
      ·subst e;exact hy
      ·exact HA.out j hj (by omega)
     obtain⟨r,hr⟩:∃r,yT ms h.za.length h.za[k]=r:=⟨_,rfl⟩
     have HR:Hid (yT ms h.za.length h.za[k]=r):=hr
     clear hr dt ds
     go_wp2_with fail
     go_region_with (go_at_call 59;refine(Xg _ _ _ ms h.za[k] h.za.length _ DP DT DS (by unfold maxLen;omega)).mono ?_;rintro e w3 ⟨rfl,hb3⟩;rw[HR.out])
     all_goals
      have Qz:Below w2.heap.size w2 w3:=hbr.drew.trans (hb3.mono hbr.size)
      have hB3:Below w.heap.size w w3:=hB2.trans (Qz.mono z2)
      have b3:=zz Qz bh2
      obtain⟨⟨v0,v1,v2,v3,v4⟩,_⟩:=zJ b3
      have f5:w3.cell? ⟨b,o+k * 6+5,none⟩=some (.bool h.za[k].zv):=zc hb3 d5
      clear hb3 d0 d1 d2 d3 d4 d5 DT DS DP y0 y1 y2 y3 y4 b3 bpr bhr
      cases r
      ·go_wp2
       go_ret
       exact⟨zm (HNO.out HR.out).symm,hB3⟩
      ·have hy:=HYES.out HR.out
       have HY:Hid (∀j,(hj:j<h.za.length)->j<k+1->yT ms h.za.length h.za[j]=true):=hy
       clear hy HYES HNO
       cases hdd:h.za[k].zv
       ·rw[hdd] at f5
        have HL':Hid (l+1=yY (h.za.take (k+1))):=by show _=_;rw[HST.out,<-HL.out,hdd];rfl
        go_wp2
        go_roundg (h.za.length - (k+1))
        case measure=>omega
        case rel=>exact⟨k+1,l+1,by omega,rfl,by go_num,by go_num,by omega,HL',Qz,HY.out⟩
       ·rw[hdd] at f5
        have HL':Hid (l=yY (h.za.take (k+1))):=by show _=_;rw[HST.out,<-HL.out,hdd];rfl
        go_wp2
        go_roundg (h.za.length - (k+1))
        case measure=>omega
        case rel=>exact⟨k+1,l,by omega,rfl,rfl,by go_num,by omega,HL',Qz,HY.out⟩
    ·obtain rfl:k=h.za.length:=by omega
     have HE:Hid (ym ms h=kZ h):=HEND.out (fun i hi=>HA.out i hi hi)
     have HLN:Hid (l=yY h.za):=by show _=_;rw[HL.out,List.take_length]
     clear HL HA HEND
     obtain⟨nn,hnn⟩:=Int.eq_ofNat_of_zero_le hn0
     have hnl:nn<h.za.length:=by omega
     have HNN:Hid (h.now=(nn:Int)):=hnn
     have hnz:(nn:Int)<(h.za.length:Int):=by omega
     rw[hnn] at y1
     obtain⟨_,_,hx,_,hcl⟩:=(hh.below hBr).c
     cases hx
     obtain⟨b,o,vt,vs',rfl,hc⟩:=hcl nn hnl
     have d5:=hc.c5
     clear hcl hc hnn
     have hdn':decide ((nn:Int)<0)=false:=decide_eq_false (by omega)
     cases hdd:h.za[nn].zv
     ·rw[hdd] at d5
      have HED:Hid (kZ h=(((yg h.za h.now).length == l) && wb h.za (yg h.za h.now))):=by
       show _=_
       unfold kZ
       rw[hdn,HLN.out,HNN.out,Int.toNat_natCast,show h.za.getD nn Cl.none=h.za[nn] by simp[hnl],hdd]
       rfl
      go_wp2_with fail
      rw[<-HNN.out]
      refine(wE _ _ h _ (hh.below hBr) hn).mono ?_
      rintro e w3 ⟨v3,rfl,zS,hb3⟩
      have hB3:Below w.heap.size w w3:=hBr.trans (hb3.mono zr)
      have z3:=hB3.size
      have b3:=zz hb3 bhr
      obtain⟨⟨v0,v1,v2,v3',v4⟩,_⟩:=zJ b3
      obtain⟨av,kv,hv,hlv⟩:=zS.slice
      rw[qP] at hv hlv
      subst hv
      unfold maxLen at hlv
      clear hb3 zS
      by_cases hl:(yg h.za h.now).length=l
      ·have hlb:(((yg h.za h.now).length:Int) == (l:Int))=true:=by rw[beq_iff_eq];omega
       have HLL:Hid ((yg h.za h.now).length=l):=hl
       clear hl
       go_wp2_with fail
       refine(Xi _ _ h _ (hh.below hB3) hn).mono ?_
       rintro e w4 ⟨rfl,hb4⟩
       have hB4:Below w.heap.size w w4:=hB3.trans (hb4.mono z3)
       clear hb4
       go_wp2
       go_ret
       exact⟨zm (by rw[HE.out,HED.out,HLL.out];simp),hB4⟩
      ·have hlb:(((yg h.za h.now).length:Int) == (l:Int))=false:=by rw[zG];omega
       have hlb':((yg h.za h.now).length == l)=false:=zG.2 hl
       go_wp2
       go_ret
       exact⟨zm (by rw[HE.out,HED.out,hlb'];rfl),hB3⟩
     ·rw[hdd] at d5
      have HED:Hid (kZ h=false):=by
       show _=_
       unfold kZ
       rw[hdn,HNN.out,Int.toNat_natCast,show h.za.getD nn Cl.none=h.za[nn] by simp[hnl],hdd]
       rfl
      go_wp2
      go_ret
      exact⟨zm (by rw[HE.out,HED.out]),hBr⟩
def xX (cs:List Cl):Nat->Int->Option Nat
 | 0,a=>if 0<=a/\a.toNat<cs.length then none else some 0
 | f+1,a=>if h:0<=a/\a.toNat<cs.length then(if(cs[a.toNat]'h.2).zv then none else(xX cs f (cs[a.toNat]'h.2).zf).map (·+1)) else some 0
theorem vC {cs:List Cl} {f:Nat} {a:Int} (h:¬(0<=a/\a<(cs.length:Int))):xX cs f a=some 0:=by
 have h':¬(0<=a/\a.toNat<cs.length):=by omega
 cases f
 ·simp only[xX,if_neg h']
 ·simp only[xX,dif_neg h']
theorem Ye {cs:List Cl} {a:Nat} (h:a<cs.length):xX cs 0 (a:Int)=none:=by
 simp only[xX]
 rw[if_pos (by simp;exact h)]
theorem Yd {cs:List Cl} {f:Nat} {a:Nat} (h:a<cs.length) (hd:cs[a].zv=true):xX cs f (a:Int)=none:=by
 cases f with
 | zero=>exact Ye h
 | succ f =>
  simp only[xX,Int.toNat_natCast]
  rw[dif_pos ⟨by omega,h⟩,if_pos hd]
theorem Ji {cs:List Cl} {f:Nat} {a:Nat} (h:a<cs.length) (hd:cs[a].zv=false):xX cs (f+1) (a:Int)=(xX cs f cs[a].zf).map (·+1):=by
 simp only[xX,Int.toNat_natCast]
 rw[dif_pos ⟨by omega,h⟩,hd]
 rfl
def qO (cs:List Cl) (now:Int):Nat:=(xX cs cs.length now).getD 0
theorem Jj {cs:List Cl} (hs:∀i,(h:i<cs.length)->-1<=cs[i].zf/\cs[i].zf<(cs.length:Int)):∀(f:Nat) (a:Int),-1<=a->a<(cs.length:Int)->xX cs f a=(yR cs f a).map List.length
 | f,a,h0,h1=>by
  by_cases hn:a<0
  ·rw[yZ hn,vC (by omega)];rfl
  obtain⟨n,rfl⟩:=Int.eq_ofNat_of_zero_le (show 0<=a by omega)
  have hl:n<cs.length:=by omega
  cases f with
  | zero=>rw[Ye hl,vJ (by omega)];rfl
  | succ f =>
   cases hd:cs[n].zv
   ·rw[Ji hl hd,j7 hl hd,Jj hs f _ (hs n hl).1 (hs n hl).2]
    cases yR cs f cs[n].zf <;> rfl
   ·rw[Yd hl hd,vI hl hd];rfl
theorem YP {cs:List Cl} {now:Int} (hs:∀i,(h:i<cs.length)->-1<=cs[i].zf/\cs[i].zf<(cs.length:Int)) (h0:-1<=now) (h1:now<(cs.length:Int)):qO cs now=(yg cs now).length:=by
 unfold qO yg
 rw[Jj hs _ _ h0 h1]
 cases yR cs cs.length now <;> rfl
set_option maxRecDepth 100000 in
set_option maxHeartbeats 4000000 in
theorem QD (vc vs:Value) (h:Hp) (w:World) (hh:qa w vc vs h) (hn:h.za.length<=900000) :
 Calls Tryz.prog 18 #[.agg (yn vc vs h)] w fun e w'=>e=.returned (.int .i64 (qO h.za h.now:Nat))/\Below w.heap.size w w':=by
 unfold yn
 obtain⟨cs,now,born,zl,code⟩:=h
 obtain⟨hhc,hhs⟩:=hh
 simp only[] at hhc hhs hn ⊢
 obtain⟨aD,kD,hvs⟩:=hhs.shape
 subst hvs
 obtain⟨ac,kc,rfl,_,hcl⟩:=hhc
 have hA:=zB w (.cells #[.slice ac cs.length kc,.int .i64 now,.int .i64 born,.slice aD zl.length kD,.int .i64 code] 29)
 have b0:(w.alloc (.cells #[.slice ac cs.length kc,.int .i64 now,.int .i64 born,.slice aD zl.length kD,.int .i64 code] 29)).cell? ⟨w.heap.size,0,none⟩=some (.slice ac cs.length kc):=by simp[go_sem]
 have b1:(w.alloc (.cells #[.slice ac cs.length kc,.int .i64 now,.int .i64 born,.slice aD zl.length kD,.int .i64 code] 29)).cell? ⟨w.heap.size,1,none⟩=some (.int .i64 now):=by simp[go_sem]
 go_enter Tryz.func18,Tryz.ntmps18
 go_upto_region 1 with fail
 generalize w.alloc (.cells #[.slice ac cs.length kc,.int .i64 now,.int .i64 born,.slice aD zl.length kD,.int .i64 code] 29)=W0 at *
 have HW:Hid (xX cs cs.length now=(xX cs (cs.length - 0) now).map (·+0)):=by
  show _=_
  simp
 clear hhs
 go_wp2_with fail
 go_loopg [3,4] cs.length (fun d v at_ wr=>∃(k:Nat) (a:Int),k<=cs.length/\d=cs.length - k/\v=.int .i64 (k:Nat)/\at_=.int .i64 a/\wr.cell? ⟨w.heap.size,0,none⟩=some (.slice ac cs.length kc)/\Below w.heap.size w wr/\xX cs cs.length now=(xX cs (cs.length - k) a).map (·+k))
 case atStart=>exact⟨0,now,Nat.zero_le _,rfl,rfl,rfl,b0,hA,HW.out⟩
 case round =>
  obtain⟨k,a,hk,rfl,rfl,rfl,br,hb,Us⟩:=hrel
  have HK:Hid (xX cs cs.length now=(xX cs (cs.length - k) a).map (·+k)):=Us
  clear Us HW b0 b1 hA
  have hsz:=hb.size
  by_cases ha:¬(0<=a/\a<(cs.length:Int))
  ·have HI:Hid (yO a 0 ((cs.length:Int) - 1)=false):=qI.2 (by omega)
   have HE:Hid (qO cs now=k):=by
    show _=_
    unfold qO
    rw[HK.out,vC ha]
    simp
   go_wp2_with (go_at_call 61;refine(yd _ _ _).mono ?_;rintro e w' ⟨rfl,hw⟩;obtain rfl:=hw.symm;rw[HI.out])
   go_ret
   exact⟨by rw[HE.out];rfl,hb⟩
  have ha:=Decidable.not_not.1 ha
  have HI:Hid (yO a 0 ((cs.length:Int) - 1)=true):=zH.2 (by omega)
  obtain⟨an,rfl⟩:=Int.eq_ofNat_of_zero_le ha.1
  have han:an<cs.length:=by omega
  have hanz:(an:Int)<(cs.length:Int):=by omega
  obtain⟨b,o,vt,vs,rfl,hc⟩:=hcl an han
  have d4:=zc hb hc.c4
  have d5:=zc hb hc.c5
  have HN:Hid (xX cs (cs.length - k) (an:Int)=none->qO cs now=0):=fun e=>by
   unfold qO
   rw[HK.out,e]
   rfl
  clear hcl hc ha
  rcases hdd:cs[an].zv with _ | _
  ·rw[hdd] at d5
   by_cases hf:cs.length<=k
   ·have HE:Hid (qO cs now=0):=HN.out (by rw[show cs.length - k=0 by omega];exact Ye han)
    have hkk:((k:Int) == (cs.length:Int))=true:=by simp;omega
    obtain rfl:k=cs.length:=by omega
    clear HN HK hdd
    go_wp2_with (go_at_call 61;refine(yd _ _ _).mono ?_;rintro e w' ⟨rfl,hw⟩;obtain rfl:=hw.symm;rw[HI.out])
    go_ret
    exact⟨by rw[HE.out];rfl,hb⟩
   ·have HS:Hid (xX cs cs.length now=(xX cs (cs.length - (k+1)) cs[an].zf).map (·+(k+1))):=by
     show _=_
     rw[HK.out,show cs.length - k=(cs.length - (k+1))+1 by omega,Ji han hdd]
     cases xX cs (cs.length - (k+1)) cs[an].zf with
     | none=>rfl
     | some q=>simp;omega
    have hkk:((k:Int) == (cs.length:Int))=false:=by simp;omega
    have hkl:(k:Int)<(cs.length:Int):=by omega
    clear HN HK hdd
    go_wp2_with (go_at_call 61;refine(yd _ _ _).mono ?_;rintro e w' ⟨rfl,hw⟩;obtain rfl:=hw.symm;rw[HI.out])
    go_roundg (cs.length - (k+1))
    case measure=>omega
    case rel=>exact⟨k+1,cs[an].zf,by omega,rfl,by go_num,rfl,br,hb,HS.out⟩
  ·rw[hdd] at d5
   have HE:Hid (qO cs now=0):=HN.out (Yd han hdd)
   clear HN HK hdd
   go_wp2_with (go_at_call 61;refine(yd _ _ _).mono ?_;rintro e w' ⟨rfl,hw⟩;obtain rfl:=hw.symm;rw[HI.out])
   go_ret
   exact⟨by rw[HE.out];rfl,hb⟩
set_option maxRecDepth 100000 in
set_option maxHeartbeats 4000000 in
theorem Vx (v v':Value) (f:List Int) (w:World) (h:jO w v f) (h':jO w v' f) :
 Calls Tryz.prog 15 #[v,v'] w fun e w'=>e=.returned (.bool true)/\Below w.heap.size w w':=by
 obtain⟨a1,c1,rfl,hl,hc⟩:=h
 obtain⟨a2,c2,rfl,_,hc'⟩:=h'
 unfold maxLen at hl
 go_enter Tryz.func15,Tryz.ntmps15
 go_wp2
 go_loopg [5] f.length (fun d i wr=>∃k:Nat,k<=f.length/\d=f.length - k/\i=.int .i64 k/\Below w.heap.size w wr)
 case atStart=>exact⟨0,Nat.zero_le _,rfl,rfl,zC⟩
 case round =>
  obtain⟨k,hk,rfl,rfl,hb⟩:=hrel
  by_cases hlt:k<f.length
  ·have hkz:(k:Int)<(f.length:Int):=by omega
   obtain⟨g1,o1,e1,q1⟩:=hc k hlt
   subst e1
   obtain⟨g2,o2,e2,q2⟩:=hc' k hlt
   subst e2
   have d1:=zc hb q1
   have d2:=zc hb q2
   clear hc hc' q1 q2
   go_wp2_with fail
   go_region
   all_goals
    go_wp2
    go_roundg (f.length - (k+1))
    case measure=>omega
    case rel=>exact⟨k+1,by omega,rfl,by go_num,hb.drew⟩
  ·obtain rfl:k=f.length:=by omega
   go_wp2
   go_ret
   exact⟨rfl,hb⟩
set_option maxRecDepth 100000 in
set_option maxHeartbeats 4000000 in
theorem Kj (v v':Value) (fs:List Fr) (w:World) (h:xU w v fs) (h':xU w v' fs) :
 Calls Tryz.prog 68 #[v,v'] w fun e w'=>e=.returned (.bool true)/\Below w.heap.size w w':=by
 obtain⟨a1,c1,rfl,hl,hc⟩:=h
 obtain⟨a2,c2,rfl,_,hc'⟩:=h'
 unfold maxLen at hl
 go_enter Tryz.func68,Tryz.ntmps68
 go_wp2
 go_loopg [5] fs.length (fun d i wr=>∃k:Nat,k<=fs.length/\d=fs.length - k/\i=.int .i64 k/\Below w.heap.size w wr)
 case atStart=>exact⟨0,Nat.zero_le _,rfl,rfl,zC⟩
 case round =>
  obtain⟨k,hk,rfl,rfl,hb⟩:=hrel
  by_cases hlt:k<fs.length
  ·have hkz:(k:Int)<(fs.length:Int):=by omega
   obtain⟨b1,o1,t1,s1,e1,q1⟩:=hc k hlt
   subst e1
   obtain⟨b2,o2,t2,s2,e2,q2⟩:=hc' k hlt
   subst e2
   obtain⟨d0,d1,d2,d3,d4,dt,ds⟩:=q1.below hb
   obtain⟨f0,f1,f2,f3,f4,ft,fs'⟩:=q2.below hb
   obtain⟨F,hF⟩:∃F,fs[k]=F:=⟨_,rfl⟩
   rw[hF] at d0 d1 d2 dt ds f0 f1 f2 ft fs'
   have zb:=hb.size
   clear hc hc' q1 q2 hF
   go_wp2_with fail
   have D0:=Gr.cell d0
   have D1:=Gr.cell d1
   have D2:=Gr.cell d2
   have D3:=Gr.cell d3
   have D4:=Gr.cell d4
   have F0:=Gr.cell f0
   have F1:=Gr.cell f1
   have F2:=Gr.cell f2
   have F3:=Gr.cell f3
   have F4:=Gr.cell f4
   obtain⟨p1,p2,p3⟩:=dt.shape
   obtain⟨p4,p5,p6⟩:=ds.shape
   obtain⟨p7,p8,p9⟩:=ft.shape
   obtain⟨p10,p11,p12⟩:=fs'.shape
   subst p3 p6 p9 p12
   have HT:=qe (W:=wr) fun W' (hW:Below wr.heap.size wr W')=>vX _ _ F.zg W' (dt.below hW) (ft.below hW)
   have HS:=qe (W:=wr) fun W' (hW:Below wr.heap.size wr W')=>vX _ _ F.ze W' (ds.below hW) (fs'.below hW)
   clear d0 d1 d2 d3 d4 f0 f1 f2 f3 f4 dt ds ft fs'
   refine WQ.region (by kernel_rfl) (by kernel_rfl) ?_
   iterate 65 (refine WQ.step (fun K hK=>?_);go_simp;first
    | (with_reducible refine hK _ ?_;clear hK K)
    | (with_reducible refine yH ?_;refine hK _ ?_;clear hK K)
    | (simp(contextual:=true) only [D0,D1,D2,D3,D4,F0,F1,F2,F3,F4,Result.andThen_ok,true_and];with_reducible refine yH ?_;refine hK _ ?_;clear hK K)
    | (with_reducible refine yp HT ?_;refine hK _ ?_;clear hK K)
    | (with_reducible refine yp HS ?_;refine hK _ ?_;clear hK K))
   refine WQ.nil ?_
   intro W3 hG3
   have hb2:=hb.trans (hG3.to.mono zb)
   clear hG3 HT HS D0 D1 D2 D3 D4 F0 F1 F2 F3 F4
   go_wp2
   go_roundg (fs.length - (k+1))
   case measure=>omega
   case rel=>exact⟨k+1,by omega,rfl,by go_num,hb2⟩
  ·obtain rfl:k=fs.length:=by omega
   go_wp2
   go_ret
   exact⟨rfl,hb⟩
set_option maxRecDepth 100000 in
set_option maxHeartbeats 4000000 in
theorem Xl (vp vo vt vs vp' vo' Ku vs':Value) (m:Mc) (w:World) (h:yF w vp vo vt vs m) (h':yF w vp' vo' Ku vs' m) :
 Calls Tryz.prog 22 #[.agg (zI vp vo vt vs m).toArray,.agg (zI vp' vo' Ku vs' m).toArray] w fun e w'=>e=.returned (.bool true)/\Below w.heap.size w w':=by
 obtain⟨ap,cp,hvp,hlp,hcp⟩:=id h.p
 obtain⟨ao,co,xz,hlo,hco⟩:=id h.o
 obtain⟨at',ct,xZ,hlt',hct⟩:=id h.t
 obtain⟨as',cs,hvs⟩:=h.s.shape
 subst hvp xz xZ hvs
 unfold zI
 obtain⟨bp,dp,hvp',_,hcp'⟩:=id h'.p
 obtain⟨bo,dq,zcd,_,hco'⟩:=id h'.o
 obtain⟨bt,dr,hvt',_,hct'⟩:=id h'.t
 obtain⟨bs,dz,hvs'⟩:=h'.s.shape
 subst hvp' zcd hvt' hvs'
 unfold maxLen at hlp hlt'
 go_enter Tryz.func22,Tryz.ntmps22
 go_upto_region 1 with fail
 refine ye (fun W=>Below w.heap.size w W/\Bx W w.heap.size 42 [.int .i64 m.cells,.slice ap m.zd.length cp,.slice ao m.order.length co,.int .i64 m.now,.slice at' m.zh.length ct,.int .i64 m.born,.slice as' m.zl.length cs,.int .i64 m.code]/\Bx W (w.heap.size+1) 42 [.int .i64 m.cells,.slice bp m.zd.length dp,.slice bo m.order.length dq,.int .i64 m.now,.slice bt m.zh.length dr,.int .i64 m.born,.slice bs m.zl.length dz,.int .i64 m.code]) ⟨(zB _ _).alloc (by simp) _,(Bx.new w _ _).alloc _,Bx.newAt _ _ _ (by simp)⟩ ?_
 rintro W ⟨hb,hm,hn⟩
 obtain⟨⟨m0,m1,m2,m3,m4,m5,m6,m7⟩,_⟩:=xy hm
 obtain⟨⟨n0,n1,n2,n3,n4,n5,n6,n7⟩,_⟩:=xy hn
 have zb:=hb.size
 clear hco hco'
 have HO:=Vx _ _ m.order W (h.o.below hb) (h'.o.below hb)
 go_wp2_with fail
 refine HO.mono ?_
 rintro e W2 ⟨rfl,t2⟩
 have hb2:=hb.trans (t2.mono zb)
 have hm2:=hm.below t2
 have hn2:=hn.below t2
 have z2:=hb2.size
 clear t2 hm hn HO m0 m1 m2 m3 m4 m5 m6 m7 n0 n1 n2 n3 n4 n5 n6 n7
 obtain⟨⟨m0,m1,m2,m3,m4,m5,m6,m7⟩,_⟩:=xy hm2
 obtain⟨⟨n0,n1,n2,n3,n4,n5,n6,n7⟩,_⟩:=xy hn2
 have HS:=vX _ _ m.zl W2 (h.s.below hb2) (h'.s.below hb2)
 go_wp2_with fail
 refine HS.mono ?_
 rintro e W3 ⟨rfl,t3⟩
 have hb3:=hb2.trans (t3.mono z2)
 have Xc:=hm2.below t3
 have hn3:=hn2.below t3
 clear t3 HS hm2 hn2 hb2 z2 hb zb m0 m1 m2 m3 m4 m5 m6 m7 n0 n1 n2 n3 n4 n5 n6 n7
 obtain⟨⟨m0,m1,m2,m3,m4,m5,m6,m7⟩,_⟩:=xy Xc
 obtain⟨⟨n0,n1,n2,n3,n4,n5,n6,n7⟩,_⟩:=xy hn3
 go_wp2_with fail
 go_loopg [5] m.zd.length (fun d i wr=>∃k:Nat,k<=m.zd.length/\d=m.zd.length - k/\i=.int .i64 k/\Below w.heap.size w wr/\Below W3.heap.size W3 wr)
 case atStart=>exact⟨0,Nat.zero_le _,rfl,rfl,hb3,zC⟩
 case round =>
  obtain⟨k,hk,rfl,rfl,hbr,hbW⟩:=hrel
  have zr:=hbr.size
  have zW:=hbW.size
  have hmr:=Xc.below hbW
  have hnr:=hn3.below hbW
  clear m0 m1 m2 m3 m4 m5 m6 m7 n0 n1 n2 n3 n4 n5 n6 n7
  obtain⟨⟨m0,m1,m2,m3,m4,m5,m6,m7⟩,_⟩:=xy hmr
  obtain⟨⟨n0,n1,n2,n3,n4,n5,n6,n7⟩,_⟩:=xy hnr
  by_cases hlt:k<m.zd.length
  ·have hkz:(k:Int)<(m.zd.length:Int):=by omega
   obtain⟨b1,o1,v1,e1,q1⟩:=hcp k hlt
   subst e1
   obtain⟨b2,o2,v2,e2,q2⟩:=hcp' k hlt
   subst e2
   obtain⟨p1,p2,p3⟩:=q1.f.shape
   obtain⟨p4,p5,p6⟩:=q2.f.shape
   subst p3 p6
   obtain⟨d0,d1,df⟩:=q1.below hbr
   obtain⟨f0,f1,ff⟩:=q2.below hbr
   obtain⟨P,hP⟩:∃P,m.zd[k]=P:=⟨_,rfl⟩
   rw[hP] at d0 d1 df f0 f1 ff
   clear hcp hcp' q1 q2 hP
   go_wp2_with fail
   have L1:=Gr.cell m1
   have E1:=Gr.cell n1
   have D0:=Gr.cell d0
   have D1:=Gr.cell d1
   have F0:=Gr.cell f0
   have F1:=Gr.cell f1
   have HF:=qe (W:=wr) fun W' (hW:Below wr.heap.size wr W')=>Kj _ _ P.zk W' (df.below hW) (ff.below hW)
   clear d0 d1 f0 f1 df ff m0 m1 m2 m3 m4 m5 m6 m7 n0 n1 n2 n3 n4 n5 n6 n7
   refine WQ.region (by kernel_rfl) (by kernel_rfl) ?_
   iterate 29 (refine WQ.step (fun K hK=>?_);go_simp;first
    | (with_reducible refine hK _ ?_;clear hK K)
    | (with_reducible refine yH ?_;refine hK _ ?_;clear hK K)
    | (simp(contextual:=true) only [L1,E1,D0,D1,F0,F1,Result.andThen_ok,true_and];with_reducible refine yH ?_;refine hK _ ?_;clear hK K)
    | (with_reducible refine yp HF ?_;refine hK _ ?_;clear hK K))
   refine WQ.nil ?_
   intro W4 hG4
   have hb4:=hbr.trans (hG4.to.mono zr)
   have hb5:=hbW.trans (hG4.to.mono zW)
   clear hG4 L1 E1 HF D0 D1 F0 F1
   go_wp2
   go_roundg (m.zd.length - (k+1))
   case measure=>omega
   case rel=>exact⟨k+1,by omega,rfl,by go_num,hb4,hb5⟩
  ·obtain rfl:k=m.zd.length:=by omega
   clear hcp hcp'
   go_wp2_with fail
   go_loopg [6] m.zh.length (fun d i wt=>∃k:Nat,k<=m.zh.length/\d=m.zh.length - k/\i=.int .i64 k/\Below w.heap.size w wt/\Below wr.heap.size wr wt)
   case atStart=>exact⟨0,Nat.zero_le _,rfl,rfl,hbr,zC⟩
   case round =>
    obtain⟨k,hk,rfl,rfl,hbt,Wi⟩:=hrel
    have zt:=hbt.size
    have zT:=Wi.size
    have hmt:=hmr.below Wi
    have hnt:=hnr.below Wi
    clear m0 m1 m2 m3 m4 m5 m6 m7 n0 n1 n2 n3 n4 n5 n6 n7
    obtain⟨⟨m0,m1,m2,m3,m4,m5,m6,m7⟩,_⟩:=xy hmt
    obtain⟨⟨n0,n1,n2,n3,n4,n5,n6,n7⟩,_⟩:=xy hnt
    by_cases hlt:k<m.zh.length
    ·have hkz:(k:Int)<(m.zh.length:Int):=by omega
     obtain⟨b1,o1,t1,s1,e1,q1⟩:=hct k hlt
     subst e1
     obtain⟨b2,o2,t2,s2,e2,q2⟩:=hct' k hlt
     subst e2
     obtain⟨d0,d1,d2,d3,d4,d5,d6,d7,dt,ds⟩:=q1.below hbt
     obtain⟨f0,f1,f2,f3,f4,f5,f6,f7,ft,fs⟩:=q2.below hbt
     obtain⟨p1,p2,p3⟩:=dt.shape
     obtain⟨p4,p5,p6⟩:=ds.shape
     obtain⟨p7,p8,p9⟩:=ft.shape
     obtain⟨p10,p11,p12⟩:=fs.shape
     subst p3 p6 p9 p12
     obtain⟨T,hT⟩:∃T,m.zh[k]=T:=⟨_,rfl⟩
     rw[hT] at d0 d1 d2 d3 d4 d5 d6 d7 dt ds f0 f1 f2 f3 f4 f5 f6 f7 ft fs
     clear hct hct' q1 q2 hT
     go_wp2_with fail
     have L4:=Gr.cell m4
     have E4:=Gr.cell n4
     have D0:=Gr.cell d0
     have F0:=Gr.cell f0
     have D1:=Gr.cell d1
     have F1:=Gr.cell f1
     have D2:=Gr.cell d2
     have F2:=Gr.cell f2
     have D3:=Gr.cell d3
     have F3:=Gr.cell f3
     have D4:=Gr.cell d4
     have F4:=Gr.cell f4
     have D5:=Gr.cell d5
     have F5:=Gr.cell f5
     have D6:=Gr.cell d6
     have F6:=Gr.cell f6
     have D7:=Gr.cell d7
     have F7:=Gr.cell f7
     have HC:=qe (W:=wr) fun W' (hW:Below wr.heap.size wr W')=>Xk T.left _ _ _ _ W' (dt.below hW) (ds.below hW) (ft.below hW) (fs.below hW)
     unfold qt at HC
     clear d0 d1 d2 d3 d4 d5 d6 d7 f0 f1 f2 f3 f4 f5 f6 f7 dt ds ft fs m0 m1 m2 m3 m4 m5 m6 m7 n0 n1 n2 n3 n4 n5 n6 n7
     refine WQ.region (by kernel_rfl) (by kernel_rfl) ?_
     iterate 44 (refine WQ.step (fun K hK=>?_);go_simp;first
      | (with_reducible refine hK _ ?_;clear hK K)
      | (with_reducible refine yH ?_;refine hK _ ?_;clear hK K)
      | (simp(contextual:=true) only [L4,E4,D0,D1,D2,D3,D4,D5,D6,D7,F0,F1,F2,F3,F4,F5,F6,F7,Result.andThen_ok,true_and];with_reducible refine yH ?_;refine hK _ ?_;clear hK K)
      | (with_reducible refine yp HC ?_;refine hK _ ?_;clear hK K))
     refine WQ.nil ?_
     intro W4 hG4
     have hb4:=hbt.trans (hG4.to.mono zt)
     have hb5:=Wi.trans (hG4.to.mono zT)
     clear hG4 L4 E4 HC D0 D1 D2 D3 D4 D5 D6 D7 F0 F1 F2 F3 F4 F5 F6 F7
     go_wp2
     go_roundg (m.zh.length - (k+1))
     case measure=>omega
     case rel=>exact⟨k+1,by omega,rfl,by go_num,hb4,hb5⟩
    ·obtain rfl:k=m.zh.length:=by omega
     go_wp2
     go_ret
     exact⟨rfl,hbt⟩
end Go.Proofs.YtjbgpcileapogaaGreat
