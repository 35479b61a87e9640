/-
  The program's HeapOk answers the plain heapOk; it writes to nothing that was there.
-/
import Derived.Test.YtjbgpcileapogaaGreatHImpl5
namespace Go.Proofs.YtjbgpcileapogaaGreat
open Go.RowKit
theorem zaH {ms:zM} (h:yt ms=true):∀i,(hi:i<ms.length)->ms[i].2.2.length<=1000000:=fun i hi=>by
 simp only[yt,Bool.and_eq_true] at h
 have:=List.all_eq_true.1 h.2 ms[i] (List.getElem_mem hi)
 simp only[yG,Bool.and_eq_true,zH,decide_eq_true_iff] at this
 omega
set_option maxRecDepth 100000 in
set_option maxHeartbeats 8000000 in
theorem Jw (vp vc vs:Value) (ms:zM) (h:Hp) (w:World) (hp:yy w vp ms) (hh:qa w vc vs h) (hn:h.za.length<=1048576) :
 Calls Tryz.prog 45 #[.agg #[vp],.agg (yn vc vs h)] w fun e w'=>e=.returned (.bool (ym ms h))/\Below w.heap.size w w':=by
 obtain⟨ac,kc,Yq⟩:=hh.c.shape
 obtain⟨aD,kD,hvs⟩:=hh.s.shape
 obtain⟨ap,cp,hvp,hlp,_⟩:=id hp
 subst Yq hvs hvp
 unfold maxLen at hlp
 unfold yn
 have hA:Below w.heap.size w ((w.alloc (.cells #[.slice ap ms.length cp] 25)).alloc (.cells #[.slice ac h.za.length kc,.int .i64 h.now,.int .i64 h.born,.slice aD h.zl.length kD,.int .i64 h.code] 29)):=(zB _ _).alloc (by simp) _
 have bp:((w.alloc (.cells #[.slice ap ms.length cp] 25)).alloc (.cells #[.slice ac h.za.length kc,.int .i64 h.now,.int .i64 h.born,.slice aD h.zl.length kD,.int .i64 h.code] 29)).cell? ⟨w.heap.size,0,none⟩=some (.slice ap ms.length cp):=by simp[go_sem]
 have bh:=qG (w.alloc (.cells #[.slice ap ms.length cp] 25)) 29 (.slice ac h.za.length kc) (.int .i64 h.now) (.int .i64 h.born) (.slice aD h.zl.length kD) (.int .i64 h.code)
 simp only[World.size_alloc] at bh
 go_enter Tryz.func45,Tryz.ntmps45
 go_upto_region 1 with fail
 generalize (w.alloc (.cells #[.slice ap ms.length cp] 25)).alloc (.cells #[.slice ac h.za.length kc,.int .i64 h.now,.int .i64 h.born,.slice aD h.zl.length kD,.int .i64 h.code] 29)=W0 at *
 obtain⟨⟨x0,x1,x2,x3,x4⟩,_⟩:=zJ bh
 have zA:=hA.size
 go_wp2_with fail
 refine(Zq _ ms _ (hp.below hA)).mono ?_
 rintro e w1 ⟨rfl,hb1⟩
 have hB1:Below w.heap.size w w1:=hA.trans (hb1.mono zA)
 have bp1:=zc hb1 bp
 have bh1:=zz hb1 bh
 have z1:=hB1.size
 clear hA bp bh x0 x1 x2 x3 x4 hb1
 obtain⟨⟨x0,x1,x2,x3,x4⟩,_⟩:=zJ bh1
 have HH:Hid (qw ms h=false->ym ms h=false):=Zn
 cases h1:yt ms
 ·have HE:Hid (ym ms h=false):=HH.out (by simp[qw,h1])
  go_wp2
  go_ret
  exact⟨zm HE.out.symm,hB1⟩
 have HO:=zaH h1
 have HOPS:Hid (∀i,(hi:i<ms.length)->ms[i].2.2.length<=1000000):=HO
 clear HO
 have hx:=@KW h.za.length h.now
 cases h2:yO h.now (-1) ((h.za.length:Int) - 1)
 ·have HE:Hid (ym ms h=false):=HH.out (by simp[qw,h2])
  rw[h2] at hx
  have HX:Hid ((h.now == -1 || yO h.now 0 ((h.za.length:Int) - 1))=false):=hx
  clear hx
  go_wp2_with (go_at_call 112;refine(yM _ _ _).mono ?_;rintro e w' ⟨rfl,hw⟩;obtain rfl:=hw.symm;rw[HX.out])
  go_ret
  exact⟨zm HE.out.symm,hB1⟩
 rw[h2] at hx
 have HX:Hid ((h.now == -1 || yO h.now 0 ((h.za.length:Int) - 1))=true):=hx
 clear hx
 have h2':=zH.1 h2
 cases h3:yO h.born 1 30
 ·have HE:Hid (ym ms h=false):=HH.out (by simp[qw,h3])
  go_wp2_with (first | (go_at_call 112;refine(yM _ _ _).mono ?_;rintro e w' ⟨rfl,hw⟩;obtain rfl:=hw.symm;rw[HX.out]) | (go_at_call 73;refine(jk _ _).mono ?_;rintro e w' ⟨rfl,hw⟩;obtain rfl:=hw.symm;rw[h3]))
  go_ret
  exact⟨zm HE.out.symm,hB1⟩
 have h3':=zH.1 h3
 by_cases h4:h.born<(h.za.length:Int)
 ·have HE:Hid (ym ms h=false):=HH.out (by simp only[qw,decide_eq_false (show ¬(h.za.length:Int)<=h.born by omega),Bool.and_false,Bool.false_and])
  go_wp2_with (first | (go_at_call 112;refine(yM _ _ _).mono ?_;rintro e w' ⟨rfl,hw⟩;obtain rfl:=hw.symm;rw[HX.out]) | (go_at_call 73;refine(jk _ _).mono ?_;rintro e w' ⟨rfl,hw⟩;obtain rfl:=hw.symm;rw[h3]))
  go_ret
  exact⟨zm HE.out.symm,hB1⟩
 have h4':(h.za.length:Int)<=h.born:=by omega
 replace hn:h.za.length<=900000:=by omega
 clear h4
 have HS:Hid (Calls Tryz.prog 75 #[.agg #[.slice ap ms.length cp],.slice aD h.zl.length kD] w1 fun e w'=>e=.returned (.bool (yk ms.length h.zl))/\Below w1.heap.size w1 w'):=Zr _ _ ms h.zl _ (hp.below hB1) (hh.below hB1).s
 obtain⟨r6,hr6⟩:∃r,yk ms.length h.zl=r:=⟨_,rfl⟩
 have H6:Hid (yk ms.length h.zl=r6):=hr6
 clear hr6
 cases r6
 ·have HE:Hid (ym ms h=false):=HH.out (by simp[qw,H6.out])
  go_wp2_with (first | (go_at_call 112;refine(yM _ _ _).mono ?_;rintro e w' ⟨rfl,hw⟩;obtain rfl:=hw.symm;rw[HX.out]) | (go_at_call 73;refine(jk _ _).mono ?_;rintro e w' ⟨rfl,hw⟩;obtain rfl:=hw.symm;rw[h3]) | (go_at_call 75;refine HS.out.mono ?_;rintro e w2 ⟨rfl,hb2⟩;rw[H6.out]))
  go_ret
  exact⟨zm HE.out.symm,hB1.trans (hb2.mono z1)⟩
 have hcd:((h.code == 1) == (h.now == -1))=((h.code == 1) == decide (h.now<0)):=by
  have:(h.now == -1)=decide (h.now<0):=by rw[Bool.eq_iff_iff,beq_iff_eq,decide_eq_true_iff];omega
  rw[this]
 obtain⟨r7,hr7⟩:∃r,(yO h.code 0 3 && ((h.code == 1) == (h.now == -1)))=r:=⟨_,rfl⟩
 have H7:Hid ((yO h.code 0 3 && ((h.code == 1) == (h.now == -1)))=r7):=hr7
 have H7':Hid ((yO h.code 0 3 && ((h.code == 1) == decide (h.now<0)))=r7):=by show _=_;rw[<-hcd];exact hr7
 clear hr7 hcd
 cases r7
 ·have HE:Hid (ym ms h=false):=HH.out (by
   have e:=H7'.out
   cases h5:yO h.code 0 3
   ·simp[qw,h5]
   ·rw[h5,Bool.true_and] at e
    simp only[qw,e,Bool.and_false])
  go_wp2_with (first | (go_at_call 112;refine(yM _ _ _).mono ?_;rintro e w' ⟨rfl,hw⟩;obtain rfl:=hw.symm;rw[HX.out]) | (go_at_call 73;refine(jk _ _).mono ?_;rintro e w' ⟨rfl,hw⟩;obtain rfl:=hw.symm;rw[h3]) | (go_at_call 75;refine HS.out.mono ?_;rintro e w2 ⟨rfl,hb2⟩;rw[H6.out];have y4:=zc hb2 x4;have y1:=zc hb2 x1) | (go_at_call 76;refine(uF _ _ _).mono ?_;rintro e w' ⟨rfl,hw⟩;obtain rfl:=hw.symm;rw[H7.out]))
  go_ret
  exact⟨zm HE.out.symm,hB1.trans (hb2.mono z1)⟩
 have HEND:Hid ((∀i,(hi:i<h.za.length)->yT ms h.za.length h.za[i]=true)->ym ms h=j6 h.za h.now):=fun hc=>by
  have e:=Bool.and_eq_true_iff.1 H7'.out
  rw[Ju (by simp only[qw,h1,h2,h3,decide_eq_true h4',e.1,e.2,H6.out,Bool.true_and]) hc,J4 hc h2'.1 (by omega)]
 go_wp2_with (first | (go_at_call 112;refine(yM _ _ _).mono ?_;rintro e w' ⟨rfl,hw⟩;obtain rfl:=hw.symm;rw[HX.out]) | (go_at_call 73;refine(jk _ _).mono ?_;rintro e w' ⟨rfl,hw⟩;obtain rfl:=hw.symm;rw[h3]) | (go_at_call 75;refine HS.out.mono ?_;rintro e w2 ⟨rfl,hb2⟩;rw[H6.out];have y4:=zc hb2 x4;have y1:=zc hb2 x1;have y0:=zc hb2 x0) | (go_at_call 76;refine(uF _ _ _).mono ?_;rintro e w' ⟨rfl,hw⟩;obtain rfl:=hw.symm;rw[H7.out]))
 have hB2:Below w.heap.size w w2:=hB1.trans (hb2.mono z1)
 have bp2:=zc hb2 bp1
 have bh2:=zz hb2 bh1
 have z2:=hB2.size
 clear hB1 bp1 bh1 x0 x1 x2 x3 x4 hb2 y0 y1 y4 HS H6 H7 H7' HX HH h1 h2 h3
 go_loopg [49] h.za.length (fun d i wr=>∃k:Nat,k<=h.za.length/\d=h.za.length - k/\i=.int .i64 (k:Nat)/\Below w2.heap.size w2 wr/\∀j,(hj:j<h.za.length)->j<k->yT ms h.za.length h.za[j]=true)
 case atStart=>exact⟨0,Nat.zero_le _,rfl,rfl,zC,fun j _ hj=>absurd hj zF⟩
 case round =>
  obtain⟨k,hk,rfl,rfl,hbr,hall⟩:=hrel
  have HA:Hid (∀j,(hj:j<h.za.length)->j<k->yT ms h.za.length h.za[j]=true):=hall
  clear hall
  have hBr:Below w.heap.size w wr:=hB2.trans (hbr.mono z2)
  have zr:=hBr.size
  have bpr:=zc hbr bp2
  have bhr:=zz hbr bh2
  obtain⟨⟨y0,y1,y2,y3,y4⟩,_⟩:=zJ bhr
  by_cases hlt:k<h.za.length
  ·have hkz:(k:Int)<(h.za.length:Int):=by omega
   obtain⟨_,_,hx,_,hcl⟩:=(hh.below hBr).c
   cases hx
   obtain⟨b,o,vt,vs',rfl,hc⟩:=hcl k hlt
   obtain⟨d0,d1,d2,d3,d4,d5,dt,ds⟩:=hc
   obtain⟨a1,k1,e1⟩:=dt.shape
   obtain⟨a2,k2,e2⟩:=ds.shape
   subst e1 e2
   clear hcl
   have HCL:Hid (∀W,Below wr.heap.size wr W->Calls Tryz.prog 113 #[.agg #[.slice ap ms.length cp],.agg #[.int .i64 h.za[k].m,.int .i64 h.za[k].pc,.slice a1 h.za[k].zg.length k1,.slice a2 h.za[k].ze.length k2,.int .i64 h.za[k].zf,.bool h.za[k].zv],.int .i64 (h.za.length:Nat)] W fun e w'=>e=.returned (.bool (yT ms h.za.length h.za[k]))/\Below W.heap.size W w'):=fun W hb=>uE _ _ _ ms h.za[k] h.za.length W ((hp.below hBr).below hb) (dt.below hb) (ds.below hb) (by unfold maxLen;omega) HOPS.out
   clear dt ds
   have qN:=fun o=>zc (zB _ o) bpr
   have q0N:=fun o=>zc (zB _ o) y0
   have hbN:=fun o=>zB wr o
   obtain⟨r,hr⟩:∃r,yT ms h.za.length h.za[k]=r:=⟨_,rfl⟩
   have HR:Hid (yT ms h.za.length h.za[k]=r):=hr
   clear hr
   cases r
   ·go_wp2_with (go_at_call 113;refine(HCL.out _ (hbN _)).mono ?_;rintro e w3 ⟨rfl,hb3⟩;rw[HR.out])
    go_ret
    exact⟨zm (Zm hlt HR.out).symm,(hBr.alloc zr _).trans (hb3.mono (by simp;omega))⟩
   ·go_wp2_with (go_at_call 113;refine(HCL.out _ (hbN _)).mono ?_;rintro e w3 ⟨rfl,hb3⟩;rw[HR.out])
    go_roundg (h.za.length - (k+1))
    case measure=>omega
    case rel =>
     refine⟨k+1,by omega,rfl,by go_num,(hbr.alloc hbr.size _).trans (hb3.mono (by have:=hbr.size;simp;omega)),fun j hj hjk=>?_⟩
     by_cases e:j=k
     ·subst e;exact HR.out
     ·exact HA.out j hj (by omega)
  ·obtain rfl:k=h.za.length:=by omega
   have HE:Hid (ym ms h=j6 h.za h.now):=HEND.out fun i hi=>HA.out i hi hi
   have HWT:Hid (Calls Tryz.prog 79 #[.agg #[.slice ac h.za.length kc,.int .i64 h.now,.int .i64 h.born,.slice aD h.zl.length kD,.int .i64 h.code]] wr fun e w'=>e=.returned (.bool (j6 h.za h.now))/\Below wr.heap.size wr w'):=Zs _ _ h wr (hh.below hBr) hn
   go_wp2_with (go_at_call 79;refine HWT.out.mono ?_;rintro e w3 ⟨rfl,hb3⟩)
   go_ret
   exact⟨zm HE.out.symm,hBr.trans (hb3.mono zr)⟩
def qg (ps:List Nat) (p:Int):Int:=match ps.findIdx? (fun(q:Nat)=>(q:Int) == p) with
 | some i=>(i:Int)
 | none=>-1
theorem wF {ps:List Nat} {p:Int} (h:∀i,(hi:i<ps.length)->(ps[i]:Int)≠p):qg ps p=-1:=by
 unfold qg
 have:ps.findIdx? (fun(q:Nat)=>(q:Int) == p)=none:=by
  rw[List.findIdx?_eq_none_iff]
  intro x hx
  obtain⟨i,hi,rfl⟩:=List.getElem_of_mem hx
  simpa using h i hi
 rw[this]
theorem UL {ps:List Nat} {p:Int} {i:Nat} (hi:i<ps.length) (h:(ps[i]:Int)=p) (hf:∀k,(hk:k<i)->((ps[k]'(by omega):Nat):Int)≠p):qg ps p=i:=by
 unfold qg
 have:ps.findIdx? (fun(q:Nat)=>(q:Int) == p)=some i:=by
  rw[List.findIdx?_eq_some_iff_getElem]
  exact⟨hi,by simpa using h,fun k hk=>by simpa using hf k hk⟩
 rw[this]
theorem Z7 {ps:List Nat} {p:Int}:qg ps p=-1 ↔ ∀i,(hi:i<ps.length)->(ps[i]:Int)≠p:=by
 refine⟨fun h i hi e=>?_,wF⟩
 unfold qg at h
 split at h
 ·omega
 ·rename_i hn
  rw[List.findIdx?_eq_none_iff] at hn
  have:=hn ps[i] (List.getElem_mem hi)
  simp[e] at this
theorem WY {ps:List Nat} {p:Nat} {q:Int} (h:qg ps p=-1):qg (ps ++ [p]) q=if q=p then(ps.length:Int) else qg ps q:=by
 by_cases hq:q=p
 ·subst hq
  rw[if_pos rfl]
  refine UL (i:=ps.length) (by simp) (by simp) (fun k hk=>?_)
  rw[List.getElem_append_left hk]
  exact Z7.1 h k hk
 ·rw[if_neg hq]
  unfold qg
  rw[List.findIdx?_append]
  have:[p].findIdx? (fun(x:Nat)=>(x:Int) == q)=none:=by
   rw[List.findIdx?_eq_none_iff]
   intro x hx
   simp at hx
   subst hx
   simp
   exact fun e=>hq e.symm
  rw[this]
  simp
structure jc (n:Nat) (ps:List Nat):Prop where
 nd:ps.Nodup
 lt:∀p∈ps,p<n
theorem jc.len {n:Nat} {ps:List Nat} (h:jc n ps):ps.length<=n:=by
 have:=jt ps (List.range n) h.nd (fun k hk=>by simpa using h.lt k hk)
 simpa using this
def xm (n:Nat) (ps:List Nat) (p:Int):List Nat:=if 0<=p/\p<(n:Int)/\qg ps p=-1 then ps ++ [p.toNat] else ps
theorem zaX {n:Nat} {ps:List Nat} {p:Nat} (h1:p<n) (h2:qg ps p=-1):xm n ps p=ps ++ [p]:=by
 unfold xm
 rw[if_pos ⟨by omega,by omega,h2⟩]
 simp
theorem zaW {n:Nat} {ps:List Nat} {p:Int} (h:¬(0<=p/\p<(n:Int))):xm n ps p=ps:=by
 unfold xm
 rw[if_neg (fun e=>h ⟨e.1,e.2.1⟩)]
theorem zbD {n:Nat} {ps:List Nat} {p:Int} (h:qg ps p≠-1):xm n ps p=ps:=by
 unfold xm
 rw[if_neg (fun e=>h e.2.2)]
theorem jc.come {n:Nat} {ps:List Nat} (h:jc n ps) (p:Int):jc n (xm n ps p):=by
 unfold xm
 split
 ·rename_i hc
  obtain⟨k,rfl⟩:=Int.eq_ofNat_of_zero_le hc.1
  have hk:k<n:=by omega
  have hn:=Z7.1 hc.2.2
  refine⟨?_,fun q hq=>?_⟩
  ·rw[List.nodup_append]
   refine⟨h.nd,by simp,fun a ha b hb e=>?_⟩
   simp at hb
   subst hb e
   obtain⟨i,hi,e⟩:=List.getElem_of_mem ha
   exact hn i hi (by rw[e])
  ·simp at hq
   rcases hq with hq | rfl
   ·exact h.lt q hq
   ·exact hk
 ·exact h
def comeV (n:Nat) (ps:List Nat) (vs:zL):List Nat:=vs.foldl (fun ps v=>if v.1=2 then xm n ps v.2 else ps) ps
theorem Wt {n:Nat} {ps:List Nat} {vs:zL} {k:Nat} (h:k<vs.length):comeV n ps (vs.take (k+1))=if vs[k].1=2 then xm n (comeV n ps (vs.take k)) vs[k].2 else comeV n ps (vs.take k):=by
 unfold comeV
 rw[List.take_add_one,List.getElem?_eq_getElem h,List.foldl_append]
 rfl
theorem jc.comeV {n:Nat}:∀(vs:zL) {ps:List Nat},jc n ps->jc n (comeV n ps vs)
 | [],_,h=>h
 | v :: r,ps,h=>by
  show jc n (List.foldl _ (if v.1=2 then xm n ps v.2 else ps) r)
  split
  ·exact jc.comeV r (h.come v.2)
  ·exact jc.comeV r h
def comeC (n:Nat) (ps:List Nat) (c:Cl):List Nat:=comeV n (comeV n (xm n ps c.zf) c.zg) c.ze
theorem jc.comeC {n:Nat} {ps:List Nat} (h:jc n ps) (c:Cl):jc n (comeC n ps c):=((h.come c.zf).comeV c.zg).comeV c.ze
theorem Ud (n:Nat) (ps:List Nat) (p:Int):∃t,xm n ps p=ps ++ t:=by
 unfold xm
 split
 ·exact⟨_,rfl⟩
 ·exact⟨[],by simp⟩
theorem Qx (n:Nat):∀(vs:zL) (ps:List Nat),∃t,comeV n ps vs=ps ++ t
 | [],ps=>⟨[],by simp[comeV]⟩
 | v :: r,ps=>by
  obtain⟨t,ht⟩:=Qx n r (if v.1=2 then xm n ps v.2 else ps)
  have e:comeV n ps (v :: r)=comeV n (if v.1=2 then xm n ps v.2 else ps) r:=rfl
  rw[e,ht]
  split
  ·obtain⟨t2,h2⟩:=Ud n ps v.2
   exact⟨t2 ++ t,by rw[h2,List.append_assoc]⟩
  ·exact⟨t,rfl⟩
theorem zaV (n:Nat) (ps:List Nat) (c:Cl):∃t,comeC n ps c=ps ++ t:=by
 obtain⟨t1,h1⟩:=Ud n ps c.zf
 obtain⟨t2,h2⟩:=Qx n c.zg (xm n ps c.zf)
 obtain⟨t3,h3⟩:=Qx n c.ze (comeV n (xm n ps c.zf) c.zg)
 exact⟨t1 ++ (t2 ++ t3),by unfold comeC;rw[h3,h2,h1];simp⟩
def foundF (cs:List Cl):Nat->Nat->List Nat->List Nat
 | 0,_,ps=>ps
 | f+1,j,ps=>if h:j<ps.length then foundF cs f (j+1) (comeC cs.length ps (cs.getD ps[j] Cl.none)) else ps
def found (h:Hp):List Nat:=foundF h.za h.za.length 0 (xm h.za.length [] h.now)
theorem Ui {cs:List Cl} {j:Nat} {ps:List Nat} (hps:jc cs.length ps) (hj:j<ps.length) (hp:ps[j]<cs.length) :
 foundF cs (cs.length - j) j ps=foundF cs (cs.length - (j+1)) (j+1) (comeC cs.length ps cs[ps[j]]):=by
 have:=hps.len
 rw[show cs.length - j=(cs.length - (j+1))+1 by omega]
 show(if h:j<ps.length then foundF cs (cs.length - (j+1)) (j+1) (comeC cs.length ps (cs.getD ps[j] Cl.none)) else ps)=_
 rw[dif_pos hj]
 simp[hp]
theorem uz {cs:List Cl} {j:Nat} {ps:List Nat} (f:Nat) (hj:¬j<ps.length):foundF cs f j ps=ps:=by
 cases f with
 | zero=>rfl
 | succ f =>
  show(if h:j<ps.length then _ else ps)=ps
  rw[dif_neg hj]
def VH (ps:List Nat) (v:Int × Int):Int × Int:=if v.1=2 then(2,qg ps v.2) else v
def vr (ps:List Nat) (c:Cl):Cl:=⟨c.m,c.pc,c.zg.map (VH ps),c.ze.map (VH ps),qg ps c.zf,c.zv⟩
def j5 (h:Hp):List Cl:=(found h).map fun p=>vr (found h) (h.za.getD p Cl.none)
end Go.Proofs.YtjbgpcileapogaaGreat
namespace Go.Proofs.YtjbgpcileapogaaGreat
theorem yi {α:Type} {l:List α} {i:Nat} (h:i<l.length) (d:α):l.getD i d=l[i]:=by simp[h]
structure jb (ms:Ms) (h:Hp) (j:Nat) (k a:Int) (args:zL):Prop where
 g:Good ms h
 code:h.code=0
 now:h.now=j
 lt:j<h.za.length
 live:h.za[j].zv=false
 kind:1<=k/\k<=18
 op:∃(m:Nat) (hm:m<ms.length),h.za[j].m=m/\qR ms.length ms[m].2.2.length ms[m].2.1 k a=true
 takes:(args.length:Int)=(yI ms k a).1
 room:(h.za[j].ze.length:Int)+(yI ms k a).2<=6
 vals:yk h.za.length args=true
 kinds:xJ k args=true
theorem yV {ms:Ms} {k a:Int} (h:k≠9):yI ms k a=(tk k,lv k):=by
 unfold yI
 rw[if_neg h]
theorem jb.free {ms:Ms} {h:Hp} {j:Nat} {k a:Int} {args:zL} (d:jb ms h j k a args) (hl:(yI ms k a).2=1):(h.za[j]'d.lt).ze.length<6:=by
 have:=d.room
 rw[hl] at this
 omega
theorem jb.push {ms:Ms} {h:Hp} {j:Nat} {k a:Int} {args:zL} (d:jb ms h j k a args) (hl:(yI ms k a).2=1) {v:Int × Int} (hv:yN h.za.length v.1 v.2=true):Good ms (xN h v) :=
 d.g.push d.now d.lt (d.free hl) hv d.live
theorem zbd {nm no:Nat} {t k a:Int} (h:qR nm no t k a=true):1<=k/\k<=18:=by
 unfold qR at h
 by_cases h1:k=1
 ·omega
 rw[if_neg h1] at h
 by_cases h2:k=2\/k=3
 ·omega
 rw[if_neg h2] at h
 by_cases h3:k=7\/k=8
 ·omega
 rw[if_neg h3] at h
 by_cases h4:k=9
 ·omega
 rw[if_neg h4] at h
 by_cases h5:k=13\/k=14
 ·omega
 rw[if_neg h5] at h
 simp only[Bool.and_eq_true,zH] at h
 exact h.1
theorem jb.first {ms:Ms} {h:Hp} {j:Nat} {k a:Int} {args:zL} (d:jb ms h j k a args) (i:Nat):yN h.za.length (args.getD i (0,0)).1 (args.getD i (0,0)).2=true:=QZ d.vals i
theorem jb.ref {ms:Ms} {h:Hp} {j:Nat} {k a:Int} {args:zL} (d:jb ms h j k a args) (hk:k=12\/k=13\/k=14\/k=15\/k=17\/k=18):(args.getD 0 (0,0)).1=2/\0<=(args.getD 0 (0,0)).2/\(args.getD 0 (0,0)).2.toNat<h.za.length:=by
 have hq:=d.kinds
 unfold xJ at hq
 rw[if_neg (by omega),if_pos hk,beq_iff_eq] at hq
 have hv:=d.first 0
 rw[hq] at hv
 have:=vH hv
 exact⟨hq,this.1,by omega⟩
theorem Good.do {ms:Ms} {h:Hp} {j:Nat} {k a:Int} {args:zL} (d:jb ms h j k a args):Good ms (uv ms h k a args):=by
 have hlt:=d.lt
 obtain⟨m,hm,hcm,hop⟩:=d.op
 have hP:=vE d.g.head.p hm
 have c:=d.g.cl j d.lt
 have hmg:ms.getD h.za[j].m.toNat (0,0,[])=ms[m]:=by rw[hcm];simp[hm]
 have WB:=xC d.now d.lt
 have hn0:0<=h.now:=by rw[d.now];omega
 have hset:∀c':Cl,ClP ms h.za.length c'->c'.zv=h.za[j].zv->c'.zf=h.za[j].zf->Good ms (jw h c'):=fun c' q1 q2 q3=>d.g.cur d.now d.lt q1 q2 q3
 unfold uv
 simp only[]
 by_cases h1:k=1
 ·rw[if_pos h1];subst h1
  refine d.push (by rw[yV (by decide)];rfl) (wz ?_ ?_)
  all_goals
   have:=hop
   simp only[qR,if_true,zH] at this
   simp only[]
   omega
 rw[if_neg h1]
 by_cases h5:k=5
 ·rw[if_pos h5];subst h5
  refine d.push (by rw[yV (by decide)];rfl) (wz ?_ ?_)
  ·exact Int.emod_nonneg _ (by decide)
  ·have:=Int.emod_lt_of_pos ((args.getD 0 (0,0)).2+(args.getD 1 (0,0)).2) (show(0:Int)<1000 by decide)
   simp only[]
   omega
 rw[if_neg h5]
 by_cases h6:k=6
 ·rw[if_pos h6];subst h6
  exact d.push (by rw[yV (by decide)];rfl) (K0 _ _)
 rw[if_neg h6]
 by_cases h2:k=2
 ·rw[if_pos h2];subst h2
  refine d.push (by rw[yV (by decide)];rfl) ?_
  rw[WB]
  exact QZ c.vt _
 rw[if_neg h2]
 by_cases h3:k=3
 ·rw[if_pos h3];subst h3
  rw[WB]
  exact hset _ ⟨c.m,c.pc,by simp only[List.length_set];exact c.t,c.s,c.sd,Wa c.vt _ (d.first 0),c.vs,c.dd⟩ rfl rfl
 rw[if_neg h3]
 have Uq:k=7\/k=8->Good ms (jw h {qC h with pc:=a}):=fun hk=>by
  rw[WB]
  have ho:=hop
  unfold qR at ho
  rw[if_neg (by omega),if_neg (by omega),if_pos hk,zH] at ho
  exact hset _ ⟨c.m,by simp only[];rw[hmg];omega,c.t,c.s,c.sd,c.vt,c.vs,c.dd⟩ rfl rfl
 by_cases h7:k=7
 ·rw[if_pos h7];exact Uq (.inl h7)
 rw[if_neg h7]
 by_cases h8:k=8
 ·rw[if_pos h8]
  split
  ·exact Uq (.inr h8)
  ·exact d.g
 rw[if_neg h8]
 by_cases h9:k=9
 ·rw[if_pos h9];subst h9
  unfold wU
  by_cases hb:30<=h.born
  ·rw[if_pos hb];exact d.g.code hn0 (.inr rfl)
  rw[if_neg hb]
  have ho:=hop
  unfold qR at ho
  rw[if_neg (by decide),if_neg (by decide),if_neg (by decide),if_pos rfl,zH] at ho
  obtain⟨a',rfl⟩:=Int.eq_ofNat_of_zero_le ho.1
  have ha:a'<ms.length:=by omega
  have hA:=vE d.g.head.p ha
  have htk:=wJ ha
  have h6:=d.free (by rw[htk])
  have hal:(args.length:Int)=ms[a'].1:=by rw[d.takes,htk]
  have hga:ms.getD ((a':Int)).toNat (0,0,[])=ms[a']:=by simp[ha]
  rw[hga]
  obtain⟨l,hw⟩:=d.g.w
  rw[d.now] at hw
  have hw':=hw.call d.lt h6 ⟨(a':Int),0,args ++ List.replicate (ms[a'].2.1.toNat - args.length) (0,0),[],h.now,false⟩ rfl d.now
  have hlen:(h.za ++ [(⟨(a':Int),0,args ++ List.replicate (ms[a'].2.1.toNat - args.length) (0,0),[],h.now,false⟩:Cl)]).length=h.za.length+1:=by simp
  have hb1:=d.g.head.born
  have hb2:=d.g.head.few
  refine⟨⟨d.g.head.p,?_,by simp only[];omega,by simp only[hlen];omega,d.g.head.code,d.g.head.zl,⟨fun e=>by(have e':h.code=1:=e;rw[d.code] at e';cases e'),fun e=>by(have e':((h.za.length:Nat):Int)<0:=e;omega)⟩⟩,fun i hi=>?_,_,hw'⟩
  ·simp only[hlen];omega
  ·simp only[hlen] at hi ⊢
   by_cases e:i<h.za.length
   ·rw[List.getElem_append_left e]
    exact(d.g.cl i e).mono (Nat.le_succ _)
   ·obtain rfl:i=h.za.length:=by omega
    simp only[List.getElem_append_right zD,Nat.sub_self,List.getElem_singleton]
    refine⟨by simp only[];omega,by simp only[hga];omega,?_,by simp,by simp only[];rw[d.now];omega,?_,rfl,fun e=>by cases e⟩
    ·simp only[hga,List.length_append,List.length_replicate]
     have:=hA.zg
     omega
    ·exact wi (ZH (Nat.le_succ _) d.vals) (zat _ _)
 rw[if_neg h9]
 by_cases h10:k=10
 ·rw[if_pos h10];subst h10
  unfold JT
  rw[WB]
  by_cases hs:h.za[j].zf<0
  ·rw[if_pos hs]
   exact d.g.fin d.now d.lt hs (d.first 0)
  ·rw[if_neg hs]
   have hs0:0<=h.za[j].zf:=by omega
   obtain⟨a1,a2,_⟩:=UC d.now d.lt
   have hg:=d.g.leave d.now d.lt hs0 d.code
   obtain⟨l,hw⟩:=d.g.w
   rw[d.now] at hw
   obtain⟨t,_,hw',hr⟩:=hw.leave d.lt (Yf h.za[j]) rfl
   obtain⟨s,hse⟩:∃s:Nat,h.za[j].zf=s:=⟨h.za[j].zf.toNat,by omega⟩
   rw[hse] at hw'
   obtain⟨hsl,t',rfl,hsd,_,_⟩:=hw'.head
   have hlen:(yw h).za.length=h.za.length:=by rw[a1];simp
   have hsl':s<h.za.length:=by simpa using hsl
   have hjs:j≠s:=fun q=>by
    subst q
    simp only[List.getElem_set_self] at hsd
    cases hsd
   have hat:∀q:s<(yw h).za.length,(yw h).za[s]=h.za[s]:=fun q=>by
    simp only[a1]
    rw[List.getElem_set_ne hjs]
   have hlv:s<(yw h).za.length:=by omega
   refine hg.push (j:=s) (by rw[a2,hse]) hlv (by rw[hat];exact hr s List.mem_cons_self hsl') (by rw[hlen];exact d.first 0) ?_
   rw[hat]
   rw[List.getElem_set_ne hjs] at hsd
   exact hsd
 rw[if_neg h10]
 by_cases h11:k=11
 ·rw[if_pos h11];subst h11
  refine d.push (by rw[yV (by decide)];rfl) (QX hn0 ?_)
  rw[d.now]
  have:=d.lt
  simp only[]
  omega
 rw[if_neg h11]
 by_cases hl:k=12\/k=13\/k=17\/k=18
 ·rw[if_pos hl]
  obtain⟨_,_,hr⟩:=d.ref (by omega)
  have hlv:(yI ms k a).2=1:=by
   rw[yV (by omega)]
   rcases hl with e | e | e | e <;> subst e <;> rfl
  refine d.push hlv ?_
  have cr:=d.g.cl _ hr
  unfold qT
  simp only[]
  rw[yi hr]
  by_cases e12:k=12
  ·rw[if_pos e12]
   split
   ·rename_i q;exact QX q cr.sd.2
   ·exact YH _
  rw[if_neg e12]
  by_cases e13:k=13
  ·rw[if_pos e13];exact QZ cr.vt _
  rw[if_neg e13]
  by_cases e17:k=17
  ·rw[if_pos e17];exact K0 _ _
  rw[if_neg e17]
  have hlm:h.za[(args.getD 0 (0,0)).2.toNat].m.toNat<ms.length:=by have:=cr.m;omega
  have WC:=(vE d.g.head.p hlm).few
  have hpc:=cr.pc
  rw[yi hlm] at hpc
  exact wz hpc.1 (by simp only[];omega)
 rw[if_neg hl]
 by_cases J8:k=14
 ·rw[if_pos J8]
  obtain⟨_,_,hr⟩:=d.ref (by omega)
  have cr:=d.g.cl _ hr
  unfold Xq
  rw[yi hr]
  obtain⟨l,hw⟩:=d.g.w
  exact d.g.set hr ⟨cr.m,cr.pc,by simp only[List.length_set];exact cr.t,cr.s,cr.sd,Wa cr.vt _ (d.first 1),cr.vs,cr.dd⟩ (hw.set_like _ hr _ rfl rfl (fun q=>hw.room _ q hr))
 rw[if_neg J8]
 by_cases h15:k=15
 ·rw[if_pos h15];subst h15
  obtain⟨_,_,hr⟩:=d.ref (by decide)
  unfold wR
  rw[yi hr]
  by_cases hd:h.za[(args.getD 0 (0,0)).2.toNat].zv=true
  ·rw[if_pos hd];exact d.g.code hn0 (.inl rfl)
  rw[if_neg hd]
  obtain⟨l,hw⟩:=d.g.w
  have hbl:(args.getD 0 (0,0)).2.toNat∈l:=hw.all _ hr (by simpa using hd)
  have h6:∀hb:(args.getD 0 (0,0)).2.toNat<h.za.length,h.za[(args.getD 0 (0,0)).2.toNat].ze.length<6:=fun hb=>by
   have hw2:=hw
   rw[d.now] at hw2
   obtain⟨_,t,rfl,_⟩:=hw2.head
   rcases List.mem_cons.1 hbl with q | q
   ·have:=d.free (by rw[yV (by decide)];rfl)
    simp only[q]
    exact this
   ·exact hw.room _ (by simpa using q) hb
  obtain⟨r1,_,r3,r4,r5⟩:=Good.back h.za.length h _ l d.g d.code hw hbl hw.len h6
  have hlt:(args.getD 0 (0,0)).2.toNat<(backTo h.za.length h (args.getD 0 (0,0)).2.toNat).za.length:=by rw[r4];exact hr
  exact r1.push r3 hlt (r5 hlt).1 (by rw[r4];exact d.first 1) (r5 hlt).2
 rw[if_neg h15]
 by_cases h16:k=16
 ·rw[if_pos h16]
  exact⟨⟨d.g.head.p,d.g.head.now,d.g.head.born,d.g.head.few,d.g.head.code,wi d.g.head.zl (J2 (U9 d.g (d.first 0))),d.g.head.fin⟩,d.g.cl,d.g.w⟩
 rw[if_neg h16]
 exact d.g
theorem Good.doing {ms:Ms} {h:Hp} (g:Good ms h) (hc:h.code=0) (h1:¬((ms.getD (qC h).m.toNat (0,0,[])).2.2.length:Int)<=(qC h).pc)
 (h2:¬(((qC h).ze.length:Int) - (yI ms (xR ms (qC h)).1 (xR ms (qC h)).2).1<0\/6<((qC h).ze.length:Int) - (yI ms (xR ms (qC h)).1 (xR ms (qC h)).2).1+(yI ms (xR ms (qC h)).1 (xR ms (qC h)).2).2))
 (h3:xJ (xR ms (qC h)).1 ((qC h).ze.drop (((qC h).ze.length:Int) - (yI ms (xR ms (qC h)).1 (xR ms (qC h)).2).1).toNat)=true) :
 ∃j:Nat,jb ms (jw h {qC h with ze:=(qC h).ze.take (((qC h).ze.length:Int) - (yI ms (xR ms (qC h)).1 (xR ms (qC h)).2).1).toNat,pc:=(qC h).pc+1}) j (xR ms (qC h)).1 (xR ms (qC h)).2 ((qC h).ze.drop (((qC h).ze.length:Int) - (yI ms (xR ms (qC h)).1 (xR ms (qC h)).2).1).toNat):=by
 have hn0:0<=h.now:=by
  by_cases q:h.now<0
  ·have:=g.head.fin.2 q;omega
  ·omega
 obtain⟨j,hn⟩:∃j:Nat,h.now=j:=⟨h.now.toNat,by omega⟩
 have hj:j<h.za.length:=by have:=g.head.now;omega
 have WB:=xC hn hj
 have c:=g.cl j hj
 obtain⟨l,hw⟩:=g.w
 rw[hn] at hw
 obtain⟨_,_,_,hlive,_⟩:=hw.head
 rw[WB] at h1 h2 h3 ⊢
 have ZU:h.za[j].m.toNat<ms.length:=by have:=c.m;omega
 have hmg:ms.getD h.za[j].m.toNat (0,0,[])=ms[h.za[j].m.toNat]:=by simp[ZU]
 have hpc:=c.pc
 rw[hmg] at h1 hpc
 have hpl:h.za[j].pc.toNat<ms[h.za[j].m.toNat].2.2.length:=by omega
 have hon:xR ms h.za[j]=ms[h.za[j].m.toNat].2.2[h.za[j].pc.toNat]:=by
  unfold xR
  rw[hmg]
  simp[hpl]
 have hop:=(vE g.head.p ZU).ops _ (List.getElem_mem hpl)
 rw[<-hon] at hop
 generalize xR ms h.za[j]=op at *
 generalize hT:yI ms op.1 op.2=T at *
 have hs:=c.s
 have hlen:∀c':Cl,(jw h c').za.length=h.za.length:=fun c'=>by unfold jw;simp
 have hat:∀(c':Cl) (q:j<(jw h c').za.length),(jw h c').za[j]=c':=fun c' q=>by
  have e:h.now.toNat=j:=by omega
  unfold jw
  simp only[e,List.getElem_set_self]
 have hT1:0<=T.1:=by
  rw[<-hT]
  unfold yI
  split
  ·split
   ·rename_i q
    rw[zH] at q
    have hq:op.2.toNat<ms.length:=by omega
    rw[show ms.getD op.2.toNat (0,0,[])=ms[op.2.toNat] by simp[hq]]
    exact(vE g.head.p hq).args.1
   ·exact Int.le_refl _
  ·simp only[]
   unfold tk
   split
   ·decide
   ·split <;> decide
 refine⟨j,?_,hc,hn,by rw[hlen];exact hj,?_,zbd hop,⟨_,ZU,?_,hop⟩,?_,?_,?_,h3⟩
 ·exact g.cur hn hj ⟨c.m,by simp only[];rw[hmg];omega,c.t,by simp only[List.length_take];omega,c.sd,c.vt,zbw c.vs _,fun q=>by simp only[] at q;rw[hlive] at q;cases q⟩ rfl rfl
 ·rw[hat];exact hlive
 ·rw[hat];simp only[];have:=c.m;omega
 ·rw[hT,List.length_drop];omega
 ·rw[hat,hT];simp only[List.length_take];omega
 ·rw[hlen];exact zbv c.vs _
theorem Good.step {ms:Ms} {h:Hp} (g:Good ms h) (hc:h.code=0):Good ms (qU ms h):=by
 have hn0:0<=h.now:=by
  by_cases q:h.now<0
  ·have:=g.head.fin.2 q;omega
  ·omega
 unfold qU
 simp only[]
 by_cases h1:((ms.getD (qC h).m.toNat (0,0,[])).2.2.length:Int)<=(qC h).pc
 ·rw[if_pos h1];exact g.code hn0 (.inl rfl)
 rw[if_neg h1]
 split
 ·exact g.code hn0 (.inl rfl)
 rename_i h2
 split
 ·exact g.code hn0 (.inl rfl)
 rename_i h3
 obtain⟨j,d⟩:=g.doing hc h1 h2 (by simpa using h3)
 exact Good.do d
theorem Good.run {ms:Ms}:∀(n:Nat) (h:Hp),Good ms h->Good ms (xM ms n h)
 | 0,h,g=>g
 | n+1,h,g=>by
  unfold xM
  by_cases hc:h.code=0
  ·rw[if_pos hc];exact Good.run n _ (g.step hc)
  ·rw[if_neg hc];exact g
end Go.Proofs.YtjbgpcileapogaaGreat
namespace Go.Proofs.YtjbgpcileapogaaGreat
theorem KV (h:Hp) (v:Int × Int):(xN h v).zl=h.zl:=rfl
theorem YB (h:Hp):(yw h).zl=h.zl:=rfl
theorem Xt:∀(f:Nat) (h:Hp) (b:Nat),(backTo f h b).zl=h.zl
 | 0,_,_=>rfl
 | f+1,h,b=>by
  unfold backTo
  split
  ·rfl
  ·rw[Xt f,YB]
theorem UY (h:Hp) (v:Int × Int):(XQ h v).zl.length=h.zl.length+1:=by simp[XQ]
theorem qn {c:Prop} [Decidable c] {a b:Hp} {n:Nat} (h1:a.zl.length<=n) (h2:b.zl.length<=n):(if c then a else b).zl.length<=n:=by
 by_cases e:c
 ·rw[if_pos e];exact h1
 ·rw[if_neg e];exact h2
theorem zbr (ms:Ms) (h:Hp) (m:Int) (args:zL):(wU ms h m args).zl.length<=h.zl.length+1 :=
 qn (Nat.le_succ _) (Nat.le_succ _)
theorem zcF (h:Hp) (v:Int × Int):(JT h v).zl.length<=h.zl.length+1 :=
 qn (Nat.le_of_eq ((UY (yw h) v).trans (by rw[YB]))) (by rw[KV,YB];exact Nat.le_succ _)
theorem zbq (h:Hp) (b:Nat) (v:Int × Int):(wR h b v).zl.length<=h.zl.length+1 :=
 qn (Nat.le_succ _) (by rw[KV,Xt];exact Nat.le_succ _)
theorem zdb (ms:Ms) (h:Hp) (k a:Int) (args:zL):(uv ms h k a args).zl.length<=h.zl.length+1:=by
 have h0:h.zl.length<=h.zl.length+1:=Nat.le_succ _
 exact qn h0 (qn h0 (qn h0 (qn h0 (qn h0 (qn h0 (qn (qn h0 h0) (qn (zbr ms h a args) (qn (zcF h _) (qn h0 (qn h0 (qn h0 (qn (zbq h _ _) (qn (Nat.le_of_eq (UY h _)) h0)))))))))))))
theorem zbs (ms:Ms) (h:Hp):(qU ms h).zl.length<=h.zl.length+1 :=
 qn (Nat.le_succ _) (qn (Nat.le_succ _) (qn (Nat.le_succ _) (zdb ms _ _ _ _)))
theorem JW (ms:Ms):∀(n:Nat) (h:Hp),(xM ms n h).zl.length<=h.zl.length+n
 | 0,_=>Nat.le_refl _
 | n+1,h=>by
  unfold xM
  split
  ·have:=JW ms n (qU ms h)
   have:=zbs ms h
   omega
  ·omega
theorem UW (ms:Ms):∀(n:Nat) (h:Hp),(xM ms n h).code=0->xM ms (n+1) h=qU ms (xM ms n h)
 | 0,h,hc=>by
  have hc':h.code=0:=hc
  show(if h.code=0 then xM ms 0 (qU ms h) else h)=_
  rw[if_pos hc']
  rfl
 | n+1,h,hc=>by
  by_cases h0:h.code=0
  ·have e:xM ms (n+1) h=xM ms n (qU ms h):=by
    show(if h.code=0 then xM ms n (qU ms h) else h)=_
    rw[if_pos h0]
   have e2:xM ms (n+1+1) h=xM ms (n+1) (qU ms h):=by
    show(if h.code=0 then xM ms (n+1) (qU ms h) else h)=_
    rw[if_pos h0]
   rw[e] at hc
   rw[e2,e]
   exact UW ms n _ hc
  ·have e:xM ms (n+1) h=h:=by
    show(if h.code=0 then xM ms n (qU ms h) else h)=_
    rw[if_neg h0]
   rw[e] at hc
   exact absurd hc h0
theorem UX (ms:Ms):∀(m n:Nat) (h:Hp),n<=m->(xM ms n h).code≠0->xM ms m h=xM ms n h
 | 0,n,h,hl,_=>by
  obtain rfl:n=0:=by omega
  rfl
 | m+1,0,h,_,hc=>by
  have hc':h.code≠0:=hc
  show(if h.code=0 then xM ms m (qU ms h) else h)=_
  rw[if_neg hc']
  rfl
 | m+1,n+1,h,hl,hc=>by
  by_cases h0:h.code=0
  ·have e:xM ms (n+1) h=xM ms n (qU ms h):=by
    show(if h.code=0 then xM ms n (qU ms h) else h)=_
    rw[if_pos h0]
   have e2:xM ms (m+1) h=xM ms m (qU ms h):=by
    show(if h.code=0 then xM ms m (qU ms h) else h)=_
    rw[if_pos h0]
   rw[e] at hc
   rw[e2,e]
   exact UX ms m n _ (by omega) hc
  ·show(if h.code=0 then xM ms m (qU ms h) else h)=(if h.code=0 then xM ms n (qU ms h) else h)
   rw[if_neg h0,if_neg h0]
theorem Good.lens {ms:Ms} {h:Hp} (g:Good ms h):h.za.length<=30/\∀i,(hi:i<h.za.length)->h.za[i].zg.length<=4/\h.za[i].ze.length<=6:=by
 refine⟨by have:=g.head.few;have:=g.head.born;omega,fun i hi=>⟨?_,(g.cl i hi).s⟩⟩
 have c:=g.cl i hi
 have hp:=g.head.p
 unfold yt at hp
 simp only[Bool.and_eq_true] at hp
 have hm:=c.m
 have hl:h.za[i].m.toNat<ms.length:=by omega
 have ha:=List.all_eq_true.1 hp.2 _ (List.getElem_mem hl)
 unfold yG at ha
 simp only[Bool.and_eq_true] at ha
 have a2:=zH.1 ha.1.1.2
 have ht:=c.t
 have e:ms.getD h.za[i].m.toNat (0,0,[])=ms[h.za[i].m.toNat]:=by simp[hl]
 rw[e] at ht
 omega
theorem qD {c:Prop} [Decidable c] {a b:Hp} {n:Nat} (h1:n<=a.za.length) (h2:n<=b.za.length):n<=(if c then a else b).za.length:=by
 by_cases e:c
 ·rw[if_pos e];exact h1
 ·rw[if_neg e];exact h2
theorem YY (h:Hp) (c:Cl):(jw h c).za.length=h.za.length:=by simp[jw]
theorem JB (h:Hp) (v:Int × Int):(xN h v).za.length=h.za.length:=YY _ _
theorem QG (h:Hp):(yw h).za.length=h.za.length:=YY _ _
theorem JA:∀(f:Nat) (h:Hp) (b:Nat),(backTo f h b).za.length=h.za.length
 | 0,_,_=>rfl
 | f+1,h,b=>by
  unfold backTo
  by_cases e:h.now=b
  ·rw[if_pos e]
  ·rw[if_neg e,JA f,QG]
theorem zdJ (ms:Ms) (h:Hp) (k a:Int) (args:zL):h.za.length<=(uv ms h k a args).za.length:=by
 have h0:h.za.length<=h.za.length:=Nat.le_refl _
 have p0:∀v,h.za.length<=(xN h v).za.length:=fun v=>Nat.le_of_eq (JB h v).symm
 have s0:∀c,h.za.length<=(jw h c).za.length:=fun c=>Nat.le_of_eq (YY h c).symm
 have c0:h.za.length<=(wU ms h a args).za.length:=qD h0 (by simp)
 have r0:∀v,h.za.length<=(JT h v).za.length:=fun v=>qD (Nat.le_of_eq (QG h).symm) (Nat.le_of_eq ((JB _ v).trans (QG h)).symm)
 have k0:∀b v,h.za.length<=(wR h b v).za.length:=fun b v=>qD h0 (Nat.le_of_eq ((JB _ v).trans (JA _ h b)).symm)
 have o0:∀b v,h.za.length<=(Xq h b a v).za.length:=fun b v=>by simp[Xq]
 exact qD (p0 _) (qD (p0 _) (qD (p0 _) (qD (p0 _) (qD (s0 _) (qD (s0 _) (qD (qD (s0 _) h0) (qD c0 (qD (r0 _) (qD (p0 _) (qD (p0 _) (qD (o0 _ _) (qD (k0 _ _) (qD h0 h0)))))))))))))
theorem zcj (ms:Ms) (h:Hp):h.za.length<=(qU ms h).za.length :=
 qD zD (qD zD (qD zD (Nat.le_trans (Nat.le_of_eq (YY h _).symm) (zdJ ms _ _ _ _))))
theorem zaE (ms:Ms):∀(n:Nat) (h:Hp),h.za.length<=(xM ms n h).za.length
 | 0,_=>Nat.le_refl _
 | n+1,h=>qD (Nat.le_trans (zcj ms h) (zaE ms n _)) zD
def qX (ms:Ms) (h:Hp) (n:Int):Hp:=if(ym ms h && yO n 0 400)=true then xM ms n.toNat h else⟨[],0,0,[],0⟩
end Go.Proofs.YtjbgpcileapogaaGreat
namespace Go.Proofs.YtjbgpcileapogaaGreat
def Dn (h:Hp):Prop:=∀i,(hi:i<h.za.length)->h.za[i].zf<(i:Int)
theorem Dn.put {h:Hp} (d:Dn h) (j:Nat) (c:Cl) (hc:j<h.za.length->c.zf<(j:Int)):Dn {h with za:=h.za.set j c}:=fun i hi=>by
 have hi':i<h.za.length:=by simpa using hi
 by_cases e:j=i
 ·subst e;simp only[List.getElem_set_self];exact hc hi'
 ·simp only[List.getElem_set_ne e];exact d i hi'
theorem Dn.setCur {h:Hp} (d:Dn h) (c:Cl) (hc:c.zf=(qC h).zf\/c.zf<0):Dn (jw h c):=d.put _ _ fun hj=>by
 rcases hc with hc | hc
 ·rw[hc,qC,yi hj];exact d _ hj
 ·omega
theorem Dn.same {h h':Hp} (d:Dn h) (e:h'.za=h.za):Dn h':=fun i hi=>by
 have h2:=d i (by rw[<-e];exact hi)
 simpa [e] using h2
theorem Dn.ite {c:Prop} [Decidable c] {a b:Hp} (h1:Dn a) (h2:Dn b):Dn (if c then a else b):=by
 by_cases h:c
 ·rw[if_pos h];exact h1
 ·rw[if_neg h];exact h2
theorem Dn.push {h:Hp} (d:Dn h) (v:Int × Int):Dn (xN h v):=d.setCur _ (.inl rfl)
theorem Dn.leave {h:Hp} (d:Dn h):Dn (yw h):=(d.setCur (Yf (qC h)) (.inr (show(-1:Int)<0 by decide))).same rfl
theorem Dn.backTo:∀(f:Nat) (h:Hp) (b:Nat),Dn h->Dn (backTo f h b)
 | 0,_,_,d=>d
 | f+1,h,b,d=>by
  unfold Go.Proofs.YtjbgpcileapogaaGreat.backTo
  exact Dn.ite d (Dn.backTo f _ b d.leave)
theorem Dn.born {h:Hp} (d:Dn h) (hn:h.now<(h.za.length:Int)) (c:Cl) (hc:c.zf=h.now) (n b:Int):Dn {h with za:=h.za ++ [c],now:=n,born:=b}:=fun i hi=>by
 by_cases e:i<h.za.length
 ·simp only[List.getElem_append_left e];exact d i e
 ·have e2:i=h.za.length:=by simp at hi;omega
  subst e2
  simp only[List.getElem_append_right zD,Nat.sub_self,List.getElem_singleton]
  rw[hc]
  exact hn
theorem Dn.do {h:Hp} (d:Dn h) (hn:h.now<(h.za.length:Int)) (ms:Ms) (k a:Int) (args:zL):Dn (uv ms h k a args):=by
 unfold uv
 simp only[]
 repeat' apply Dn.ite
 all_goals first
  | exact d.push _
  | exact d.setCur _ (.inl rfl)
  | exact d.born hn _ rfl _ _
  | exact d.leave.same rfl
  | exact d.leave.push _
  | exact(Dn.backTo _ _ _ d).push _
  | exact d.same rfl
  | exact d.put _ _ fun hj=>by rw[yi hj];exact d _ hj
theorem Dn.step {ms:Ms} {h:Hp} (d:Dn h) (hn:h.now<(h.za.length:Int)):Dn (qU ms h):=by
 unfold qU
 simp only[]
 refine Dn.ite (d.same rfl) (Dn.ite (d.same rfl) (Dn.ite (d.same rfl) ?_))
 refine Dn.do ?_ ?_ _ _ _ _
 ·exact d.setCur _ (.inl rfl)
 ·rw[YY];exact hn
theorem Dn.run {ms:Ms}:∀(n:Nat) (h:Hp),Good ms h->Dn h->Dn (xM ms n h)
 | 0,_,_,d=>d
 | n+1,h,g,d=>by
  unfold xM
  by_cases hc:h.code=0
  ·rw[if_pos hc]
   exact Dn.run n _ (g.step hc) (d.step (by have:=g.head.now.2;omega))
  ·rw[if_neg hc];exact d
theorem zaN {cs:List Cl} (d:∀i,(hi:i<cs.length)->cs[i].zf<(i:Int)):∀(f:Nat) (a:Int) (l:List Nat),yR cs f a=some l->∀k∈l,(k:Int)<=a
 | 0,a,l,e=>by
  intro k hk
  by_cases ha:a<0
  ·rw[yZ ha] at e;cases e;cases hk
  ·rw[vJ (by omega)] at e;cases e
 | f+1,a,l,e=>by
  intro k hk
  by_cases ha:a<0
  ·rw[yZ ha] at e;cases e;cases hk
  obtain⟨n,rfl⟩:=Int.eq_ofNat_of_zero_le (show 0<=a by omega)
  by_cases hn:n<cs.length
  ·cases hd:cs[n].zv
   ·rw[j7 hn hd] at e
    cases ht:yR cs f cs[n].zf with
    | none=>rw[ht] at e;cases e
    | some t =>
     rw[ht] at e
     cases e
     rcases List.mem_cons.1 hk with rfl | hk
     ·exact Int.le_refl _
     ·have h1:=zaN d f _ _ ht k hk
      have h2:=d n hn
      omega
   ·rw[vI hn hd] at e;cases e
  ·rw[uR hn] at e;cases e
theorem Good.behind {ms:Ms} {h:Hp} (g:Good ms h) (d:Dn h) {i:Nat} (hi:i<h.za.length) (h1:h.now<(i:Int)):h.za[i].zv=true:=by
 cases hd:h.za[i].zv
 ·obtain⟨l,hw⟩:=g.w
  obtain⟨f,hf⟩:=hw.ch
  have:=zaN d f _ _ hf i (hw.all i hi hd)
  omega
 ·rfl
structure jG (h:Hp):Prop where
 l30:h.za.length<=30
 sd:h.zl.length<=100
 ts:∀c∈h.za,c.zg.length<=6/\c.ze.length<=6/\-1<=c.zf
 deep:qO h.za h.now=(yg h.za h.now).length
 few:∀v∈h.zl,Few v
theorem Good.few {ms:Ms} {h:Hp} (g:Good ms h):∀v∈h.zl,Few v:=by
 intro v hv
 have hp:=g.head.p
 have h1:=List.all_eq_true.1 g.head.zl v hv
 unfold yt at hp
 simp only[Bool.and_eq_true,zH] at hp
 have hm:=hp.1.1
 unfold yN at h1
 unfold Few
 split at h1
 ·have:=beq_iff_eq.1 h1
  omega
 ·split at h1
  ·rw[zH] at h1;omega
  ·split at h1
   ·rw[zH] at h1;omega
   ·cases h1
theorem zbK {l:zL} (h:∀v∈l,Few v) {u:Int × Int} (hu:Few u):∀v∈l ++ [u],Few v:=by
 intro v hv
 rcases List.mem_append.1 hv with hv | hv
 ·exact h v hv
 ·rw[List.mem_singleton] at hv;rw[hv];exact hu
theorem uo {h:Hp} (n:Nat) (hn:h.za.length=n) (h30:n<=30) (hsd:h.zl.length<=100) (ht:∀c∈h.za,c.zg.length<=6/\c.ze.length<=6/\-1<=c.zf/\c.zf<(n:Int)) (n0:-1<=h.now) (n1:h.now<=(n:Int)) (hfw:∀v∈h.zl,Few v):jG h:=by
 refine⟨by omega,hsd,fun c hc=>⟨(ht c hc).1,(ht c hc).2.1,(ht c hc).2.2.1⟩,?_,hfw⟩
 by_cases e:h.now=(n:Int)
 ·unfold qO yg
  rw[vC (by omega),e,uR (by omega)]
  rfl
 ·exact YP (fun i hi=>by have:=ht _ (List.getElem_mem hi);omega) n0 (by omega)
theorem KB {ms:Ms} {h:Hp} (g:Good ms h) (d:Dn h) (hsd:h.zl.length<=100) (ht:∀c∈h.za,c.zg.length<=6/\c.ze.length<=6/\-1<=c.zf/\c.zf<(h.za.length:Int)):jG {h with za:=h.za.drop 1}:=by
 have h30:=g.lens.1
 refine⟨by simp;omega,hsd,fun c hc=>by have:=ht c (List.mem_of_mem_drop hc);exact⟨this.1,this.2.1,this.2.2.1⟩,?_,g.few⟩
 show qO (h.za.drop 1) h.now=(yg (h.za.drop 1) h.now).length
 unfold qO yg
 by_cases ha:h.now<0
 ·rw[vC (by omega),yZ ha];rfl
 obtain⟨n,hn⟩:=Int.eq_ofNat_of_zero_le (show 0<=h.now by omega)
 rw[hn]
 by_cases hl:n<(h.za.drop 1).length
 ·have hl':1+n<h.za.length:=by simp at hl;omega
  have hd:(h.za.drop 1)[n].zv=true:=by
   rw[List.getElem_drop]
   exact g.behind d hl' (by omega)
  rw[Yd hl hd,vI hl hd];rfl
 ·rw[vC (by omega),uR hl];rfl
end Go.Proofs.YtjbgpcileapogaaGreat
namespace Go.Proofs.YtjbgpcileapogaaGreat
end Go.Proofs.YtjbgpcileapogaaGreat
namespace Go.Proofs.YtjbgpcileapogaaGreat
end Go.Proofs.YtjbgpcileapogaaGreat
namespace Go.Proofs.YtjbgpcileapogaaGreat
open Go.RowKit
theorem KE (cs:List Cl):∀(f j:Nat) (ps:List Nat),jc cs.length ps->jc cs.length (foundF cs f j ps)
 | 0,_,_,h=>h
 | f+1,j,ps,h=>by
  show jc cs.length (if h:j<ps.length then foundF cs f (j+1) (comeC cs.length ps (cs.getD ps[j] Cl.none)) else ps)
  by_cases e:j<ps.length
  ·rw[dif_pos e];exact KE cs f _ _ (h.comeC _)
  ·rw[dif_neg e];exact h
theorem zbO (h:Hp):jc h.za.length (found h):=KE _ _ _ _ (jc.come ⟨List.nodup_nil,fun _ hp=>by cases hp⟩ _)
end Go.Proofs.YtjbgpcileapogaaGreat
