/-
  What runs, with its calls on pages: an operation is done.
-/
import Derived.Test.YtbjgjjkgfnfejaaGreatDoorRDo3
import Derived.Test.YtbjgjjkgfnfejaaGreatDoorLRun1
import Derived.Test.YtbjgjjkgfnfejaaGreatDoorMRowF
namespace Go.Proofs.YtbjgjjkgfnfejaaGreatDoor
set_option maxHeartbeats 8000000
set_option maxRecDepth 100000
open Go.RowKit
variable {B:Nat} {ρ ρ':Nat->Rl} {w w':World} {P:Lay} {bl br:Nat} {vp qa:Value} {ce:Int} {np:Nat} {h h':Hp} {q:Nat} {bd:jg} {c:Cl}
theorem qg {f:Int × Int->Int × Int} {l:yH} {i:Nat} (hi:i<l.length):(l.map f).getD i (0,0)=f l[i]:=by
 rw[List.getD_eq_getElem?_getD,List.getElem?_map,List.getElem?_eq_getElem hi]
 rfl
theorem jD (ts:List km) (v:Int × Int):(yP ts v).1=v.1:=by
 unfold yP
 split
 ·rename_i e;exact e.symm
 ·rfl
theorem wX (ts:List km) {v:Int × Int} (h:v.1≠2):yP ts v=v:=by unfold yP;rw[if_neg h]
theorem zfR {L:yw} (s:xE 0 0 L h) {x y:Int × Int} (hx:x.1=2->∃j:Nat,x.2=(j:Int)/\j<L.zd.length) (hy:y.1=2->∃j:Nat,y.2=(j:Int)/\j<L.zd.length):(yP L.zd x=yP L.zd y) ↔ x=y:=by
 refine⟨fun e=>?_,fun e=>by rw[e]⟩
 have ek:x.1=y.1:=by rw[<-jD L.zd x,<-jD L.zd y,e]
 by_cases h2:x.1=2
 ·obtain⟨i,ei,hi⟩:=hx h2
  obtain⟨j,ej,hj⟩:=hy (by rw[<-ek];exact h2)
  have ex:x=(2,(i:Int)):=Prod.ext h2 ei
  have ey:y=(2,(j:Int)):=Prod.ext (by rw[<-ek];exact h2) ej
  rw[ex,ey,wz (List.getElem?_eq_getElem hi),wz (List.getElem?_eq_getElem hj)] at e
  have eb:(L.zd[i].body:Int)=(L.zd[j].body:Int):=(Prod.mk.inj e).2
  have:=s.ti i _ j _ (List.getElem?_eq_getElem hi) (List.getElem?_eq_getElem hj) (by omega)
  rw[ex,ey,this]
 ·rw[wX L.zd h2,wX L.zd (by rw[<-ek];exact h2)] at e
  exact e
theorem RV.ref (k:RV B ρ w P bl br vp qa ce np h) {v:Int × Int} (h2:v.1=2) (hv:v.1=2->∃j:Nat,v.2=(j:Int)/\j<P.L.zd.length):∃(j:Nat) (tw:km) (b:jg) (c:Cl),P.L.zd[j]?=some tw/\v.2=(j:Int)/\yP P.L.zd v=(2,(tw.body:Int))/\P.L.zj[tw.body]?=some b/\h.ze[tw.body]?=some c/\Yy P.L.zd b c:=by
 obtain⟨j,ej,hj⟩:=hv h2
 have ht:=List.getElem?_eq_getElem hj
 have hb:=(k.sim.tb j _ ht).1
 obtain⟨c,hc,ha⟩:=k.sim.c _ _ (List.getElem?_eq_getElem hb)
 have ev:v=(2,(j:Int)):=Prod.ext h2 ej
 exact⟨j,_,_,c,ht,ej,by rw[ev];exact wz ht,List.getElem?_eq_getElem hb,hc,ha⟩
theorem uM {cs:List Cl} {i:Nat} {c:Cl} (h:cs[i]?=some c):∃hi:i<cs.length,cs[i]=c:=List.getElem?_eq_some_iff.1 h
theorem zem {ms:Ms} {n:Nat} {x:Cl} (hp:yn ms=true) (h:ClP ms n x):x.zh.length<=1000:=by
 obtain⟨m,hm⟩:=Int.eq_ofNat_of_zero_le h.m.1
 have Zm:m<ms.length:=by have:=h.m.2;omega
 have ht:=h.t
 rw[hm,Int.toNat_natCast,xo Zm] at ht
 have:=(vz hp Zm).zh
 omega
theorem Good.leave_few {ms:Ms} (g:Good ms h) {j:Nat} (hn:h.now=(j:Int)) (hj:j<h.ze.length):(qm (yo h)).zf.length<=1000/\(0<=(yo h).now->∃l,xj (yo h).ze (yo h).now l):=by
 have hL:yo h=⟨h.ze.set j (u9 h.ze[j]),h.ze[j].zi,h.born,h.zm,h.code⟩:=by
  unfold yo setH
  rw[kw hn hj,hn,Int.toNat_natCast]
 obtain⟨l,hw⟩:=g.w
 rw[hn] at hw
 obtain⟨_,t,hl,_⟩:=hw.head
 obtain⟨t',_,hWt,_⟩:=hw.leave hj (u9 h.ze[j]) rfl
 rw[hL]
 refine⟨?_,fun _=>⟨t',hWt⟩⟩
 unfold qm
 rw[List.getD_eq_getElem?_getD]
 cases e:(h.ze.set j (u9 h.ze[j]))[(h.ze[j].zi).toNat]? with
 | none=>simp[Cl.none]
 | some x =>
  simp only[Option.getD_some]
  rcases List.mem_or_eq_of_mem_set (List.mem_of_getElem? e) with h1 | h1
  ·obtain⟨i,hi,rfl⟩:=List.getElem_of_mem h1
   have:=(g.cl i hi).s
   omega
  ·subst h1
   simp[u9]
theorem zeM (k:RV B ρ w P bl br vp qa ce np h) {ms:Ms} (hM:yD w vp ms) (hnp:np<=900) (hce:-1000000<=ce/\ce<=1000000) (hsl:h.zm.length<=2900000) {j:Nat} {kk a:Int} {vt:Value} {qu:yH} (t:Tk (fun g=>ρ g≠.other) w vt qu) (hva:Zr P.L.zd.length qu) (d:kI ms h j kk a (qu.map (yP P.L.zd))) :
 ∃K,Zh[kk.toNat]?=some (.func (.func K) #[] #[])/\∀W,zO w W->Calls Tryz.prog K #[zJ br 0,zI a,vt] W fun e w'=>e=.returned (.tuple #[])/\qD B bl br vp ce np w (doH ms h kk a (qu.map (yP P.L.zd))) w':=by
 have hn:=d.now
 have hj:=d.lt
 have h0:0<=h.now:=by rw[hn];omega
 have YJ:qm h=h.ze[j]:=kw hn hj
 have hst:(qm h).zf.length<=1000:=by rw[YJ];have:=(d.g.cl j hj).s;omega
 have hbn:=d.g.head.born
 have hfw:=d.g.head.few
 have hcl:h.ze.length<=700:=by omega
 have hT:∀{W:World},zO w W->Tk (fun g=>zv ρ w .other g≠.other) W vt qu:=fun hb=>t.keep (Ch.below hb _ ρ .other)
 have hB:=k.big
 have Zm:(qu.map (yP P.L.zd)).length=qu.length:=List.length_map _
 have fin:∀{K:Nat} {W:World} {h2:Hp},zO w W->doH ms h kk a (qu.map (yP P.L.zd))=h2->(Calls Tryz.prog K #[zJ br 0,zI a,vt] W fun e w'=>e=.returned (.tuple #[])/\qD B bl br vp ce np W h2 w')->Calls Tryz.prog K #[zJ br 0,zI a,vt] W fun e w'=>e=.returned (.tuple #[])/\qD B bl br vp ce np w (doH ms h kk a (qu.map (yP P.L.zd))) w':=fun {K W h2} hb he hc=>by
  refine hc.mono ?_
  rintro e w' ⟨h1,h2⟩
  rw[he]
  exact⟨h1,h2.first (hb.mono hB)⟩
 obtain⟨q,bd,c,_,hcc⟩:=k.rc h0 (by omega) hnp hst
 have rc:∀W,zO w W->∃q bd,RC B (zv ρ w .other) W P bl br vp qa ce np h q bd c:=fun W hb=>by
  obtain⟨q,bd,c',r,e⟩:=(k.below hb).rc h0 (by omega) hnp hst
  rw[hcc] at e
  subst e
  exact⟨q,bd,r⟩
 have hg0:∀{i:Nat},(hi:i<qu.length)->qu[i].1=2->∃j:Nat,qu[i].2=(j:Int)/\j<P.L.zd.length:=fun hi e=>hva _ (List.getElem_mem hi) e
 rcases Vb d.kind with e | e | e | e | e | e | e | e | e | e | e | e | e | e | e | e | e | e
 ·subst e
  exact⟨_,rfl,fun W hb=>by obtain⟨q,bd,r⟩:=rc W hb;exact fin hb rfl (zfZ r a vt)⟩
 ·subst e
  obtain⟨u0,u1⟩:=d.temp (.inl rfl)
  obtain⟨p,rfl⟩:=Int.eq_ofNat_of_zero_le u0
  refine⟨_,rfl,fun W hb=>?_⟩
  obtain⟨q,bd,r⟩:=rc W hb
  have yt:p<bd.zh.length:=by
   have e1:c.zh.length=bd.zh.length:=by rw[r.ha.zh,List.length_map]
   rw[<-e1,<-hcc,YJ]
   omega
  refine fin hb ?_ (zeO r p yt vt)
  show qK h ((qm h).zh.getD (p:Int).toNat (0,0))=_
  rw[hcc,r.ha.zh,Int.toNat_natCast,qg yt]
 ·subst e
  have hl:=d.len (by decide)
  have h0l:0<qu.length:=by have:tk 3=1:=rfl;omega
  obtain⟨u0,u1⟩:=d.temp (.inr rfl)
  obtain⟨p,rfl⟩:=Int.eq_ofNat_of_zero_le u0
  refine⟨_,rfl,fun W hb=>?_⟩
  obtain⟨q,bd,r⟩:=rc W hb
  have yt:p<bd.zh.length:=by
   have e1:c.zh.length=bd.zh.length:=by rw[r.ha.zh,List.length_map]
   rw[<-e1,<-hcc,YJ]
   omega
  refine fin hb ?_ (zf5 r (hT hb) h0l (hg0 h0l) p yt)
  show setH h {qm h with zh:=(qm h).zh.set (p:Int).toNat ((qu.map (yP P.L.zd)).getD 0 (0,0))}=_
  rw[hcc,Int.toNat_natCast,qg h0l]
 ·subst e
  exact⟨_,rfl,fun W hb=>by obtain⟨q,bd,r⟩:=rc W hb;exact fin hb rfl (zeH r a vt)⟩
 ·subst e
  have hl:=d.len (by decide)
  have h1l:1<qu.length:=by have:tk 5=2:=rfl;omega
  have h0l:0<qu.length:=by omega
  have hk:=d.kinds
  simp only[qZ,if_true,Bool.and_eq_true,beq_iff_eq] at hk
  rw[qg h0l,qg h1l,jD,jD] at hk
  have hx:=d.first 0
  have hy:=d.first 1
  rw[qg h0l,wX P.L.zd (by omega),hk.1] at hx
  rw[qg h1l,wX P.L.zd (by omega),hk.2] at hy
  refine⟨_,rfl,fun W hb=>?_⟩
  obtain⟨q,bd,r⟩:=rc W hb
  refine fin hb ?_ (zfY r a (hT hb) h1l (XD hx) (XD hy))
  show qK h (1,(((qu.map (yP P.L.zd)).getD 0 (0,0)).2+((qu.map (yP P.L.zd)).getD 1 (0,0)).2) % 1000)=_
  rw[qg h0l,qg h1l,wX P.L.zd (by omega),wX P.L.zd (by omega)]
 ·subst e
  have hl:=d.len (by decide)
  have h1l:1<qu.length:=by have:tk 6=2:=rfl;omega
  have h0l:0<qu.length:=by omega
  refine⟨_,rfl,fun W hb=>?_⟩
  obtain⟨q,bd,r⟩:=rc W hb
  refine fin hb ?_ (zeN r a (hT hb) h1l)
  show qK h (J2 (decide ((qu.map (yP P.L.zd)).getD 0 (0,0)=(qu.map (yP P.L.zd)).getD 1 (0,0))))=_
  rw[qg h0l,qg h1l]
  have hh:=zfR k.sim (hg0 h0l) (hg0 h1l)
  rw[decide_eq_decide.2 hh]
 ·subst e
  exact⟨_,rfl,fun W hb=>by obtain⟨q,bd,r⟩:=rc W hb;exact fin hb (by show setH h {qm h with pc:=a}=_;rw[hcc]) (zeJ r a vt)⟩
 ·subst e
  have hl:=d.len (by decide)
  have h0l:0<qu.length:=by have:tk 8=1:=rfl;omega
  have hx:=d.first 0
  rw[qg h0l] at hx
  refine⟨_,rfl,fun W hb=>?_⟩
  obtain⟨q,bd,r⟩:=rc W hb
  refine fin hb ?_ (zeP r a (hT hb) h0l)
  show(if((qu.map (yP P.L.zd)).getD 0 (0,0)).1=0\/(qu.map (yP P.L.zd)).getD 0 (0,0)=(1,0) then setH h {qm h with pc:=a} else h)=_
  rw[qg h0l,hcc]
  have hkk:=jD P.L.zd qu[0]
  have hnn:qu[0].1≠2->yP P.L.zd qu[0]=qu[0]:=wX P.L.zd
  by_cases h2:qu[0].1=2
  ·rw[if_neg (fun z=>by
    rcases z with z | z
    ·rw[hkk] at z;omega
    ·have:=congrArg Prod.fst z
     rw[hkk] at this
     have:qu[0].1=1:=this
     omega),if_neg (fun z=>by omega)]
  ·rw[hnn h2] at hx ⊢
   generalize qu[0]=x at *
   obtain⟨x1,x2⟩:=x
   simp only at hx ⊢
   have e:(x1=0\/(x1,x2)=(1,0)) ↔ (x2=0/\(x1=0\/x1=1)):=by
    rw[Prod.mk.injEq]
    constructor
    ·rintro(q | ⟨q1,q2⟩)
     ·subst q;exact⟨zcR hx,.inl rfl⟩
     ·exact⟨q2,.inr q1⟩
    ·rintro⟨q1,q2 | q2⟩
     ·exact .inl q2
     ·exact .inr ⟨q2,q1⟩
   by_cases q:x2=0/\(x1=0\/x1=1)
   ·rw[if_pos (e.2 q),if_pos q]
   ·rw[if_neg (fun z=>q (e.1 z)),if_neg q]
 ·subst e
  obtain⟨u0,u1⟩:=d.meth
  obtain⟨p,rfl⟩:=Int.eq_ofNat_of_zero_le u0
  have hq:p<ms.length:=by omega
  have htk:=d.takes
  rw[wj hq,Zm] at htk
  have hmp:=vz d.g.head.p hq
  refine⟨_,rfl,fun W hb=>?_⟩
  obtain⟨q,bd,r⟩:=rc W hb
  refine fin hb rfl (zeF r hcl hnp hce (fun i hi=>?_) (hM.below hb) p hq (hT hb) hva htk ⟨hmp.zh.1,hmp.zh.2⟩ ⟨by omega,by omega⟩)
  obtain⟨c',hc',ha'⟩:=k.sim.c i _ (List.getElem?_eq_getElem hi)
  obtain⟨hil,J4⟩:=uM hc'
  have e1:c'.zh.length=P.L.zj[i].zh.length:=by rw[ha'.zh,List.length_map]
  rw[<-e1,<-J4]
  have:=(d.g.cl i hil).t
  have:=zem (ms:=ms) d.g.head.p (d.g.cl i hil)
  omega
 ·subst e
  have hl:=d.len (by decide)
  have h0l:0<qu.length:=by have:tk 10=1:=rfl;omega
  have hgl:=(d.g.leave_few (j:=j) hn hj)
  refine⟨_,rfl,fun W hb=>?_⟩
  obtain⟨q,bd,r⟩:=rc W hb
  refine fin hb ?_ (zf0 r hcc (by omega) hnp hsl hgl.1 hgl.2 a (hT hb) h0l (hg0 h0l))
  show zcC h ((qu.map (yP P.L.zd)).getD 0 (0,0))=_
  rw[qg h0l]
 ·subst e
  exact⟨_,rfl,fun W hb=>by obtain⟨q,bd,r⟩:=rc W hb;exact fin hb rfl (zeI r h0 (by omega) hnp hst a vt)⟩
 ·subst e
  have hl:=d.len (by decide)
  have h0l:0<qu.length:=by have:tk 12=1:=rfl;omega
  obtain⟨Qo,_⟩:=d.ref (by decide)
  rw[qg h0l,jD] at Qo
  obtain⟨jt,tw,b',c',hjt,ejt,evb,hb',hc',ha'⟩:=k.ref Qo (hg0 h0l)
  obtain⟨hil,J4⟩:=uM hc'
  refine⟨_,rfl,fun W hb=>?_⟩
  obtain⟨q,bd,r⟩:=rc W hb
  refine fin hb ?_ (zbS r h0 (by omega) hnp hst a (hT hb) h0l hjt ejt hc')
  show qK h (QC h 12 a ((qu.map (yP P.L.zd)).getD 0 (0,0)).2.toNat)=_
  rw[qg h0l,evb]
  unfold QC
  simp only[]
  rw[if_pos trivial,Int.toNat_natCast,xo hil,J4]
 ·subst e
  have hl:=d.len (by decide)
  have h0l:0<qu.length:=by have:tk 13=1:=rfl;omega
  obtain⟨Qo,_⟩:=d.ref (by decide)
  rw[qg h0l,jD] at Qo
  obtain⟨jt,tw,b',c',hjt,ejt,evb,hb',hc',ha'⟩:=k.ref Qo (hg0 h0l)
  obtain⟨hil,J4⟩:=uM hc'
  obtain⟨p,rfl⟩:=Int.eq_ofNat_of_zero_le (d.peek (.inl rfl))
  refine⟨_,rfl,fun W hb=>?_⟩
  obtain⟨q,bd,r⟩:=rc W hb
  refine fin hb ?_ (zeK r p (hT hb) h0l hjt ejt hb' ha')
  show qK h (QC h 13 p ((qu.map (yP P.L.zd)).getD 0 (0,0)).2.toNat)=_
  rw[qg h0l,evb]
  unfold QC
  simp only[]
  rw[if_neg (by decide),if_pos trivial,Int.toNat_natCast,Int.toNat_natCast,xo hil,J4]
 ·subst e
  have hl:=d.len (by decide)
  have h1l:1<qu.length:=by have:tk 14=2:=rfl;omega
  have h0l:0<qu.length:=by omega
  obtain⟨Qo,_⟩:=d.ref (by decide)
  rw[qg h0l,jD] at Qo
  obtain⟨jt,tw,b',c',hjt,ejt,evb,hb',hc',ha'⟩:=k.ref Qo (hg0 h0l)
  obtain⟨hil,J4⟩:=uM hc'
  obtain⟨p,rfl⟩:=Int.eq_ofNat_of_zero_le (d.peek (.inr rfl))
  refine⟨_,rfl,fun W hb=>?_⟩
  obtain⟨q,bd,r⟩:=rc W hb
  refine fin hb ?_ (zeL r p (hT hb) h1l hjt ejt hb' hc' ha' (hg0 h1l))
  show YT h ((qu.map (yP P.L.zd)).getD 0 (0,0)).2.toNat p ((qu.map (yP P.L.zd)).getD 1 (0,0))=_
  rw[qg h0l,qg h1l,evb,Int.toNat_natCast]
 ·subst e
  have hl:=d.len (by decide)
  have h1l:1<qu.length:=by have:tk 15=2:=rfl;omega
  have h0l:0<qu.length:=by omega
  obtain⟨Qo,_⟩:=d.ref (by decide)
  rw[qg h0l,jD] at Qo
  obtain⟨jt,tw,b',c',hjt,ejt,evb,hb',hc',ha'⟩:=k.ref Qo (hg0 h0l)
  obtain⟨hil,J4⟩:=uM hc'
  refine⟨_,rfl,fun W hb=>?_⟩
  obtain⟨q,bd,r⟩:=rc W hb
  refine fin hb ?_ (zeE r (by omega) hnp a (hT hb) h1l hjt ejt hb' hc' ha' (hg0 h1l) (fun hd=>?_))
  ·show Ut h ((qu.map (yP P.L.zd)).getD 0 (0,0)).2.toNat ((qu.map (yP P.L.zd)).getD 1 (0,0))=_
   rw[qg h0l,qg h1l,evb,Int.toNat_natCast]
  ·obtain⟨r1,r2,r3,r4⟩:=d.backs hil (by rw[J4];exact hd)
   refine⟨r1,by rw[r2];omega,r3,?_⟩
   have hbl:tw.body<(qo h.ze.length h tw.body).ze.length:=by rw[r3];exact hil
   rw[kw r2 hbl]
   exact r4 hbl
 ·subst e
  have hl:=d.len (by decide)
  have h0l:0<qu.length:=by have:tk 16=1:=rfl;omega
  refine⟨_,rfl,fun W hb=>?_⟩
  obtain⟨q,bd,r⟩:=rc W hb
  refine fin hb ?_ (zf4 r hsl a (hT hb) h0l (hg0 h0l))
  show YV h ((qu.map (yP P.L.zd)).getD 0 (0,0))=_
  rw[qg h0l]
 ·subst e
  have hl:=d.len (by decide)
  have h0l:0<qu.length:=by have:tk 17=1:=rfl;omega
  obtain⟨Qo,_⟩:=d.ref (by decide)
  rw[qg h0l,jD] at Qo
  obtain⟨jt,tw,b',c',hjt,ejt,evb,hb',hc',ha'⟩:=k.ref Qo (hg0 h0l)
  obtain⟨hil,J4⟩:=uM hc'
  refine⟨_,rfl,fun W hb=>?_⟩
  obtain⟨q,bd,r⟩:=rc W hb
  refine fin hb ?_ (zeG r a (hT hb) h0l hjt ejt hb')
  show qK h (QC h 17 a ((qu.map (yP P.L.zd)).getD 0 (0,0)).2.toNat)=_
  rw[qg h0l,evb]
  unfold QC
  simp only[]
  rw[if_neg (by decide),if_neg (by decide),if_pos trivial,Int.toNat_natCast,xo hil,J4,ha'.zy]
 ·subst e
  have hl:=d.len (by decide)
  have h0l:0<qu.length:=by have:tk 18=1:=rfl;omega
  obtain⟨Qo,_⟩:=d.ref (by decide)
  rw[qg h0l,jD] at Qo
  obtain⟨jt,tw,b',c',hjt,ejt,evb,hb',hc',ha'⟩:=k.ref Qo (hg0 h0l)
  obtain⟨hil,J4⟩:=uM hc'
  refine⟨_,rfl,fun W hb=>?_⟩
  obtain⟨q,bd,r⟩:=rc W hb
  refine fin hb ?_ (zdw r a (hT hb) h0l hjt ejt hb')
  show qK h (QC h 18 a ((qu.map (yP P.L.zd)).getD 0 (0,0)).2.toNat)=_
  rw[qg h0l,evb]
  unfold QC
  simp only[]
  rw[if_neg (by decide),if_neg (by decide),if_neg (by decide),Int.toNat_natCast,xo hil,J4,ha'.pc]
variable {B:Nat} {ρ ρ':Nat->Rl} {w w':World} {P:Lay} {bl br:Nat} {vp qa:Value} {ce:Int} {np:Nat} {h h':Hp} {q:Nat} {bd:jg} {c:Cl}
def cutB (b:jg) (L:Nat) (x:Int):jg:={b with zf:=b.zf.take L,pc:=x}
theorem yj.cutd (h:yj B ρ w P) {k:Nat} (hk:k<P.L.zj.length) {sa:Option Addr} {n sc L:Nat} (hV:(P.T k).2=.slice sa n sc) (hL:L<=P.L.zj[k].zf.length) (x:Int):∃T',Goes B ρ w ((w.setCell (zH (P.D k) 3) (.slice sa L sc)).setCell (zH (P.D k) 1) (zI x)) {P with T:=T',L:=Qu P.L k (cutB P.L.zj[k] L x)}:=by
 obtain⟨hb,hr,hBD⟩:=(h (.body k)) hk
 obtain⟨ht,hgt⟩:=(h (.zh k)) hk
 obtain⟨hs,hgs⟩:=(h (.zf k)) hk
 have hb':Bx w (P.D k) 186 [zI P.L.zj[k].m,zI P.L.zj[k].pc,(P.T k).1,(P.T k).2,.bool P.L.zj[k].zy]:=hb
 have hx:Bx ((w.setCell (zH (P.D k) 3) (.slice sa L sc)).setCell (zH (P.D k) 1) (zI x)) (P.D k) 186 (xA ((P.T k).1,.slice sa L sc) (cutB P.L.zj[k] L x)):=(hb'.set 3 (.slice sa L sc)).set 1 (zI x)
 have c:Ch (fun r=>r=.body k\/r=.zh k\/r=.zf k) ρ ρ w ((w.setCell (zH (P.D k) 3) (.slice sa L sc)).setCell (zH (P.D k) 1) (zI x)):=(Ch.set w ρ _ _ _ (.inl hr)).trans (Ch.set _ ρ _ _ _ (.inl hr))
 have xp:∀g,ρ g≠.body k->((w.setCell (zH (P.D k) 3) (.slice sa L sc)).setCell (zH (P.D k) 1) (zI x)).heap[g]?=w.heap[g]?:=fun g hg=>by
  have hgg:g≠P.D k:=fun e=>hg (by rw[e];exact hr)
  rw[Below.heap_setCell _ _ _ _ hgg,Below.heap_setCell _ _ _ _ hgg]
 have ht':=ht.kept c.size fun g e=>xp g (by rw[hgt g e];simp)
 have hs':=hs.kept c.size fun g e=>xp g (by rw[hgs g e];simp)
 rw[hV] at hs'
 have zE:(Value.slice sa L sc).ownBlock=(P.T k).2.ownBlock:=by rw[hV];cases sa <;> rfl
 exact⟨_,ρ,h.setBody hk c hx ht' (hs'.cutTo hL) hgt (fun g e=>hgs g (by rw[<-zE];exact e)),c.mono (fun r e=>by rcases e with e | e | e <;> rw[e] <;> simp),((Below.refl B w).setCell (p:=zH (P.D k) 3) hBD _).setCell (p:=zH (P.D k) 1) hBD _⟩
theorem Yy.cutd {ts:List km} {b:jg} {c:Cl} (a:Yy ts b c) (L:Nat) (x:Int):Yy ts (cutB b L x) {c with zf:=c.zf.take L,pc:=x} :=
 ⟨a.m,rfl,a.zy,a.zh,by show c.zf.take L=(b.zf.take L).map _;rw[a.zf,List.map_take],a.vt,fun v hv=>a.vs v (List.mem_of_mem_take hv)⟩
theorem JL (ts:List km) (k:Int) (l:yH):qZ k (l.map (yP ts))=qZ k l:=by
 have e:∀i,((l.map (yP ts)).getD i (0,0)).1=(l.getD i (0,0)).1:=fun i=>by
  rw[List.getD_eq_getElem?_getD,List.getD_eq_getElem?_getD,List.getElem?_map]
  cases l[i]? with
  | none=>rfl
  | some v=>exact jD ts v
 unfold qZ
 rw[e 0,e 1]
theorem zcH (k:RV B ρ w P bl br vp qa ce np h) {ms:Ms} (zb6:JZ B w vp ms) (g:Good ms h) (hc:h.code=0) (hnp:np<=900) (hce:-1000000<=ce/\ce<=1000000) (hsl:h.zm.length<=2900000) :
 Calls Tryz.prog 87 #[zJ br 0] w fun e w'=>e=.returned (.tuple #[])/\qD B bl br vp ce np w (xU ms h) w':=by
 have hM:=zb6.meths
 have hTB:=zb6.tab
 have HENV:Hid (JZ B w vp ms):=zb6
 clear zb6
 have hn0:0<=h.now:=by
  by_cases q:h.now<0
  ·have:=g.head.fin.2 q;omega
  ·omega
 obtain⟨j,hn⟩:∃j:Nat,h.now=j:=⟨h.now.toNat,by omega⟩
 have hj:j<h.ze.length:=by have:=g.head.now;omega
 have c:=g.cl j hj
 have hB:=k.big
 have hbn:=g.head.born
 have hfw:=g.head.few
 obtain⟨q,bd,cc,r,hcc⟩:=k.rc hn0 (by omega) hnp (by rw[kw hn hj];have:=c.s;omega)
 obtain rfl:q=j:=by have:=r.nw;omega
 obtain⟨hjl,hbe⟩:=List.getElem?_eq_some_iff.1 r.hb
 obtain⟨_,hcj⟩:=uM r.hc
 have ha:=r.ha
 obtain⟨m,hm⟩:=Int.eq_ofNat_of_zero_le c.m.1
 obtain⟨pc,hpc⟩:=Int.eq_ofNat_of_zero_le c.pc.1
 have Zm:m<ms.length:=by have:=c.m;omega
 have hbm:bd.m=(m:Int):=by rw[<-ha.m,<-hcj];exact hm
 have hbp:bd.pc=(pc:Int):=by rw[<-ha.pc,<-hcj];exact hpc
 have HR:=r.run w zS
 have V8:=Tryz.goP_running bl
 obtain⟨ap,cp,qz,_⟩:=id hM
 subst qz
 obtain⟨kk,a,ho⟩:∃kk a,ms[m].2.2.getD pc (0,0)=(kk,a):=⟨_,_,rfl⟩
 obtain⟨fd,hfd⟩:∃fd,decide (pc<ms[m].2.2.length)=fd:=⟨_,rfl⟩
 obtain⟨d,hd⟩:∃d,P.D q=d:=⟨_,rfl⟩
 have hDl0:d<w.heap.size:=by rw[<-hd];exact((k.lv (.body q)) hjl).1.lt
 rw[hd] at HR
 have yy:=k.run.cell 1 rfl
 have HW1:Hid (∀w1,zO w w1->w1.cell? (zH br 0)=some (.slice ap ms.length cp)/\w1.cell? (zH d 0)=some (zI m)/\w1.cell? (zH d 1)=some (zI pc) /\
  Hid (∀W,zO w1 W->Calls Tryz.prog 127 #[.agg #[.slice ap ms.length cp],zI m,zI pc] W fun e w'=>e=.returned (.tuple #[.agg #[zI kk,zI a],.bool fd])/\zO W w')):=fun w1 b1=>by
  have k1:=k.below b1
  have qk:=((k1.lv (.body q)) hjl).1
  rw[hbe,hd] at qk
  refine⟨k1.run.cell 0 rfl,by rw[<-hbm];exact qk.cell 0 rfl,by rw[<-hbp];exact qk.cell 1 rfl,fun W hb=>?_⟩
  have:=zfy (.slice ap ms.length cp) ms m pc W (hM.below (b1.trans (hb.mono b1.size))) Zm
  rw[ho,hfd] at this
  exact this
 have HK:Hid (RV B ρ w P bl br (.slice ap ms.length cp) qa ce np h/\yD w (.slice ap ms.length cp) ms/\TabAt w/\Good ms h/\ClP ms h.ze.length h.ze[q]):=⟨k,hM,hTB,g,c⟩
 have HO:Hid (ms[m].2.2.getD pc (0,0)=(kk,a)/\decide (pc<ms[m].2.2.length)=fd/\h.ze[q].m=m/\h.ze[q].pc=pc/\h.now=q/\h.code=0/\P.L.zj[q]=bd/\P.D q=d/\h.ze[q]=cc/\Yy P.L.zd bd cc/\bd.pc=pc):=⟨ho,hfd,hm,hpc,hn,hc,hbe,hd,hcj,ha,hbp⟩
 have HB1:Hid (P.L.zj[q]?=some bd/\h.ze[q]?=some cc):=⟨r.hb,r.hc⟩
 have hbrl0:br<w.heap.size:=k.run.lt
 clear k hM hTB g c ho hfd hm hpc hn hn0 hc r hcc ha hbe hcj hbm hbp hd
 go_enter Tryz.func87,Tryz.ntmps87
 go_upto_region 1 with(go_at_call 209;refine HR.mono ?_;rintro e w1 ⟨rfl,b1⟩)
 obtain⟨y0,z0,z1,HOP⟩:=HW1.out w1 b1
 have hbrl:br<w1.heap.size:=by have:=b1.size;omega
 have hDl:d<w1.heap.size:=by have:=b1.size;omega
 have HB2:Hid (zO w w1):=b1
 clear HR V8 HW1 b1 yy
 have HS:∀w',zO w1 w'->(w'.cell? (zH br 0)=some (.slice ap ms.length cp)/\w'.cell? (zH d 0)=some (zI m)/\w'.cell? (zH d 1)=some (zI pc)/\zO w1 w'):=fun w' hB=>⟨zc hB y0,zc hB z0,zc hB z1,hB⟩
 go_region_held3 (fun w'=>w'.cell? (zH br 0)=some (.slice ap ms.length cp)/\w'.cell? (zH d 0)=some (zI m)/\w'.cell? (zH d 1)=some (zI pc)/\zO w1 w')
  ((refine HS _ ?_;first
   | (with_reducible exact(‹_/\_/\_/\zO w1 _›).2.2.2)
   | (with_reducible exact zS.drew)
   | (with_reducible exact hBC)
   | (with_reducible exact(zR _ _).drew)
   | (with_reducible exact hBC.alloc hBC.size _)
   | (with_reducible exact(hBC.setCell (p:=zH _ 0) (by first | omega | simp) _).setCell (p:=zH _ 1) (by first | omega | simp) _)))
  (first
   | (go_at_call 127;refine(HOP.out _ (‹_/\_/\_/\zO w1 _›).2.2.2).mono ?_;rintro e wC ⟨rfl,hbC⟩;have hBC:=Below.trans (‹_/\_/\_/\zO w1 _›).2.2.2 (hbC.mono ((‹_/\_/\_/\zO w1 _›).2.2.2).size);have hzC:=hBC.size;first | (have rC:=yU hbC (show((w1.alloc (.cells #[.int .i64 0,.int .i64 0] 70)).drew).rowIs _ _ 2 _ from kH w1 70 (.int .i64 0) (.int .i64 0));obtain⟨⟨n0,n1⟩,l0,l1⟩:=yz rC) | skip))
 all_goals first
  | (have rb:=kH wC 70 (.int .i64 kk) (.int .i64 a);have BW:=(‹_/\_/\_/\zO w1 (wC.alloc _)›).2.2.2;have hbxw:w1.heap.size<=wC.heap.size:=hzC;clear HS HOP hbC hBC hzC;generalize wC.alloc (.cells #[.int .i64 kk,.int .i64 a] 70)=W at *;generalize wC.heap.size=bx at *)
  | (have rb:((wC.setCell (zH w1.heap.size 0) (zI kk)).setCell (zH w1.heap.size 1) (zI a)).rowIs w1.heap.size 70 2 (UZ (zI kk) (zI a)):=((ZO rC (zI kk)).set 1 (zI a)).congr fun i hi=>(by match i,hi with | 0,_=>rfl | 1,_=>rfl);have BW:=(‹_/\_/\_/\zO w1 ((wC.setCell _ _).setCell _ _)›).2.2.2;clear HS HOP hbC hBC hzC rC n0 n1 l0 l1;generalize (wC.setCell (zH w1.heap.size 0) (zI kk)).setCell (zH w1.heap.size 1) (zI a)=W at *;obtain⟨bx,hbx⟩:∃bx,bx=w1.heap.size:=⟨_,rfl⟩;rw[<-hbx] at rb;rw[<-hbx];have hbxw:w1.heap.size<=bx:=(by omega);clear hbx)
 all_goals
  obtain⟨k0,M0,TB0,g0,c0⟩:=HK.out
  obtain⟨ho,hfd,hm,hpc,hn,hc,hbe,hd,hcj,ha,hbp⟩:=HO.out
  have BWw:=HB2.out.trans (BW.mono HB2.out.size)
  have kW:=k0.below BWw
  have MW:=M0.below BWw.drew
  have TW:=TB0.below BWw.drew
  have J7:=BWw.size
  have hsl1:bd.zf.length=h.ze[q].zf.length:=by rw[hcj,ha.zf,List.length_map]
  have hs6:bd.zf.length<=6:=by have:=c0.s;omega
  have zdO:=((kW.lv (.body q)) hjl).1
  have Wz:=((kW.lv (.zf q)) hjl).1
  rw[hbe,hd] at zdO
  rw[hbe] at Wz
  obtain⟨sa,sc,hVs,_⟩:=Wz.slice
  rw[hVs] at Wz
  have JF:Bx W d 186 [zI bd.m,zI bd.pc,(P.T q).1,(P.T q).2,.bool bd.zy]:=zdO
  rw[hVs,hbp] at JF
  clear y0 z0 z1
  have y0:=kW.run.cell 0 rfl
  have y4:=kW.run.cell 4 rfl
  have yf4:=kW.run.frozen 4
  have z1:=JF.cell 1 rfl
  have z3:=JF.cell 3 rfl
  have zf1:=JF.frozen 1
  have zf3:=JF.frozen 3
  obtain⟨⟨q0,q1⟩,_⟩:=yz rb
  have hDW:d<W.heap.size:=zdO.lt
  have hbrW:br<W.heap.size:=kW.run.lt
  have hbxW:bx<W.heap.size:=rb.lt
  have HS2:∀w',zO W w'->(w'.cell? (zH br 0)=some (.slice ap ms.length cp)/\w'.cell? (zH bx 0)=some (zI kk)/\w'.cell? (zH bx 1)=some (zI a)/\w'.cell? (zH d 3)=some (.slice sa bd.zf.length sc)):=fun w' hb=>⟨zc hb y0,zc hb q0,zc hb q1,zc hb z3⟩
  have HE2:Hid (∀w4,zO W w4->xU ms h={h with code:=2}->((w4.cell? (zH br 4)=some (zI h.code)/\w4.frozen? (zH br 4)=false)/\qD B bl br (.slice ap ms.length cp) ce np w (xU ms h) (w4.setCell (zH br 4) (zI 2)))):=fun w4 hb e=>by
   have k4:=kW.below hb
   refine⟨⟨k4.run.cell 4 rfl,k4.run.frozen 4⟩,?_⟩
   rw[e]
   exact⟨_,P,qa,k4.code 2,((BWw.mono hB).trans (hb.mono (by omega))).setCell (p:=zH br 4) k4.bbr _⟩
  cases fd
  ·have hlp:ms[m].2.2.length<=pc:=by simpa using hfd
   have e0:ms[m].2.2.getD pc (0,0)=(0,0):=by rw[List.getD_eq_getElem?_getD,List.getElem?_eq_none hlp];rfl
   rw[e0] at ho
   injection ho with ek ea
   have HR2:Hid (xU ms h={h with code:=2}):=zcG hn hj hm hpc Zm hlp
   have HTKH:Hid (Calls Tryz.prog 128 #[.agg #[.slice ap ms.length cp],.agg #[zI kk,zI a],.slice sa bd.zf.length sc] W.drew fun e w'=>∃v',e=.returned (.tuple #[v',.bool true])/\zl W.drew.heap.size w' v' (bd.zf.drop bd.zf.length)/\Below W.drew.heap.size W.drew w'):=by
    rw[<-ek,<-ea]
    exact JT (B:=B) (.slice ap ms.length cp) ms g0.head.p 0 0 0 0 (by rw[jC (by decide)];rfl) sa sc bd.zf W.drew MW TW Wz hs6 (L:=bd.zf.length) (by omega) (by omega) (by rw[List.drop_length];rfl)
   clear k0 M0 TB0 g0 c0 kW MW TW Wz HK HO ek ea e0 hlp hm hpc hn hc hVs hfd y4 yf4 z1 zf1 zf3 hs6 hbe hd hcj ha hbp zdO JF hsl1
   go_upto_region 2 with fail
   go_region_held3 (fun w'=>w'.cell? (zH br 0)=some (.slice ap ms.length cp)/\w'.cell? (zH bx 0)=some (zI kk)/\w'.cell? (zH bx 1)=some (zI a)/\w'.cell? (zH d 3)=some (.slice sa bd.zf.length sc))
    ((refine HS2 _ ?_;first | (with_reducible exact zS.drew) | (with_reducible exact hB4) | (with_reducible exact Below.refl _ _)))
    (first | (go_at_call 128;refine HTKH.out.mono ?_;rintro e w4 ⟨v4,rfl,Wy,Za⟩;have hB4:zO W w4:=zS.drew.trans Za))
   all_goals
    obtain⟨⟨v0,vf0⟩,hE⟩:=HE2.out _ hB4 HR2.out
    go_wp2
    exact bodyPost_ret (results_none rfl _ _ _) rfl ⟨rfl,hE⟩
  ·have hpl:pc<ms[m].2.2.length:=by simpa using hfd
   rw[xo hpl] at ho
   obtain⟨t,l,ht⟩:∃t l,yx ms kk a=(t,l):=⟨_,_,rfl⟩
   have HTB:=Qb g0.head.p kk a
   rw[ht] at HTB
   simp only[] at HTB
   have hst2:∀n,h.ze[q].zf.drop n=(bd.zf.drop n).map (yP P.L.zd):=fun n=>by rw[hcj,ha.zf,List.map_drop]
   by_cases hbad:((h.ze[q].zf.length:Int) - t<0\/6<(h.ze[q].zf.length:Int) - t+l)\/qZ kk (h.ze[q].zf.drop ((h.ze[q].zf.length:Int) - t).toNat)=false
   ·have zgw:((bd.zf.length:Int) - t<0\/6<(bd.zf.length:Int) - t+l)\/qZ kk (bd.zf.drop ((bd.zf.length:Int) - t).toNat)=false:=by
     rw[hst2,JL,<-hsl1] at hbad
     exact hbad
    have HTKH:Hid (Calls Tryz.prog 128 #[.agg #[.slice ap ms.length cp],.agg #[zI kk,zI a],.slice sa bd.zf.length sc] W.drew fun e w'=>e=.returned (.tuple #[zQ,.bool false])/\Below W.drew.heap.size W.drew w'):=zcK (B:=B) (.slice ap ms.length cp) ms g0.head.p kk a t l ht sa sc bd.zf W.drew MW TW Wz hs6 zgw
    have HR2:Hid (xU ms h={h with code:=2}):=by
     show _=_
     rw[zbr hn hj hm hpc Zm hpl ho ht]
     by_cases q:(h.ze[q].zf.length:Int) - t<0\/6<(h.ze[q].zf.length:Int) - t+l
     ·rw[if_pos q]
     ·rw[if_neg q]
      rcases hbad with hb | hb
      ·exact absurd hb q
      ·rw[if_pos hb]
    clear k0 M0 TB0 g0 c0 kW MW TW Wz HK HO ho ht HTB hbad zgw hpl hm hpc hn hc hVs hfd y4 yf4 z1 zf1 zf3 hs6 hbe hd hcj ha hbp zdO JF hsl1 hst2
    go_upto_region 2 with fail
    go_region_held3 (fun w'=>w'.cell? (zH br 0)=some (.slice ap ms.length cp)/\w'.cell? (zH bx 0)=some (zI kk)/\w'.cell? (zH bx 1)=some (zI a)/\w'.cell? (zH d 3)=some (.slice sa bd.zf.length sc))
     ((refine HS2 _ ?_;first | (with_reducible exact zS.drew) | (with_reducible exact hB4) | (with_reducible exact Below.refl _ _)))
     (first | (go_at_call 128;refine HTKH.out.mono ?_;rintro e w4 ⟨rfl,Za⟩;have hB4:zO W w4:=zS.drew.trans Za))
    all_goals
     obtain⟨⟨v0,vf0⟩,hE⟩:=HE2.out _ hB4 HR2.out
     go_wp2
     exact bodyPost_ret (results_none rfl _ _ _) rfl ⟨rfl,hE⟩
   ·obtain⟨yE,hkb⟩:=not_or.1 hbad
    have zaD:qZ kk (h.ze[q].zf.drop ((h.ze[q].zf.length:Int) - t).toNat)=true:=by simpa using hkb
    obtain⟨L,hL⟩:∃L:Nat,(h.ze[q].zf.length:Int) - t=(L:Int):=⟨((h.ze[q].zf.length:Int) - t).toNat,by omega⟩
    have hLn:L<=bd.zf.length:=by omega
    have d0:=zeQ g0 hc hn hj hm hpc Zm hpl ho ht yE zaD
    have HSE:Hid (xU ms h=doH ms {h with ze:=h.ze.set q {h.ze[q] with zf:=h.ze[q].zf.take L,pc:=(pc:Int)+1}} kk a (h.ze[q].zf.drop L)):=by
     show _=_
     rw[zbr hn hj hm hpc Zm hpl ho ht,if_neg yE,hL,Int.toNat_natCast]
     rw[hL,Int.toNat_natCast] at zaD
     rw[if_neg (by rw[zaD];decide)]
    rw[hL,Int.toNat_natCast] at zaD d0
    rw[hst2] at zaD d0 HSE
    rw[JL] at zaD
    rw[hcj] at d0 HSE
    have HTKH:Hid (Calls Tryz.prog 128 #[.agg #[.slice ap ms.length cp],.agg #[zI kk,zI a],.slice sa bd.zf.length sc] W.drew fun e w'=>∃v',e=.returned (.tuple #[v',.bool true])/\zl W.drew.heap.size w' v' (bd.zf.drop L)/\Below W.drew.heap.size W.drew w'):=JT (B:=B) (.slice ap ms.length cp) ms g0.head.p kk a t l ht sa sc bd.zf W.drew MW TW Wz hs6 (by omega) (by omega) zaD
    have hDRl:(bd.zf.drop L).length=bd.zf.length - L:=by simp
    have hsc:L<=sc:=(Wz.piece (l:=0) (k:=L) zY hLn).2
    have hto:∀W,(Instr.slice 32 (.slice sa bd.zf.length sc) none (some (zI (L:Int))) none).run Tryz.prog W=.ok (.slice sa L sc) W:=fun W=>by rw[<-zbp sa L sc];exact zg2 W sa _ sc L hsc
    have HN:Hid (pc+1<=14/\1<=kk/\kk<=18):=⟨by have:=(vz g0.head.p Zm).few;omega,d0.kind⟩
    have HD:Hid (kI ms {h with ze:=h.ze.set q {cc with zf:=cc.zf.take L,pc:=(pc:Int)+1}} q kk a ((bd.zf.drop L).map (yP P.L.zd))):=d0
    have jG:Zr P.L.zd.length (bd.zf.drop L):=fun v hv=>ha.vs v (List.mem_of_mem_drop hv)
    have HKW:Hid (RV B (zv ρ w .other) W P bl br (.slice ap ms.length cp) qa ce np h/\(P.T q).2=.slice sa bd.zf.length sc/\P.L.zj[q]=bd/\P.D q=d/\Yy P.L.zd bd cc/\L<=bd.zf.length):=⟨kW,hVs,hbe,hd,ha,hLn⟩
    generalize hDR:bd.zf.drop L=DR at *
    have hwl:IntKind.i64.wrap ((bd.zf.length:Int) - (DR.length:Int))=(L:Int):=by rw[IntKind.wrap_i64];omega
    have hwp:IntKind.i64.wrap ((pc:Int)+1)=(pc:Int)+1:=by rw[IntKind.wrap_i64];have:=HN.out.1;omega
    clear k0 M0 TB0 g0 c0 kW MW TW Wz HK HO ho ht HTB hbad hpl hm hpc hn hc hVs hfd hkb zaD yE d0 hDR hsc hDRl HE2 hbe hd hcj ha hbp zdO JF hsl1 hst2 hL hLn y4 yf4
    go_upto_region 2 with fail
    go_region_held3 (fun w'=>w'.cell? (zH br 0)=some (.slice ap ms.length cp)/\w'.cell? (zH bx 0)=some (zI kk)/\w'.cell? (zH bx 1)=some (zI a)/\w'.cell? (zH d 3)=some (.slice sa bd.zf.length sc))
     ((refine HS2 _ ?_;first | (with_reducible exact zS.drew) | (with_reducible exact hB4) | (with_reducible exact Below.refl _ _)))
     (first | (go_at_call 128;refine HTKH.out.mono ?_;rintro e w4 ⟨v4,rfl,Wy,Za⟩;have hB4:zO W w4:=zS.drew.trans Za;obtain⟨a4,c4,hv4,_⟩:=Wy.slice;subst hv4))
    all_goals
     obtain⟨kW,hVs,hbe,hd,ha,hLn⟩:=HKW.out
     have k4:=kW.below hB4
     have hz4:=hB4.size
     obtain⟨y0',q0',q1',z3'⟩:=HS2 _ hB4
     have z1':=zc hB4 z1
     have zf1':w4.frozen? (zH d 1)=false:=(World.frozen?_of_block (a:=⟨d,1,none⟩) (hB4.block d hDW)).trans zf1
     have zf3':w4.frozen? (zH d 3)=false:=(World.frozen?_of_block (a:=⟨d,3,none⟩) (hB4.block d hDW)).trans zf3
     obtain⟨T',hG⟩:=k4.lv.cutd hjl hVs (L:=L) (by rw[hbe];exact hLn) ((pc:Int)+1)
     rw[hbe,hd] at hG
     obtain⟨ρ6,k6,c6,b6⟩:=k4.turn HB1.out.1 HB1.out.2 (ha.cutd L ((pc:Int)+1)) rfl rfl hG
     clear hG
     have hD4:d<w4.heap.size:=by omega
     clear y0 z1 zf1 z3 zf3 q0 q1 HS2
     go_wp2_with fail
     go_region
     go_upto_region 7 with fail
     have xp:bx≠d:=by omega
     have rb7:(((w4.setCell (zH d 3) (.slice sa L sc)).setCell (zH d 1) (zI ((pc:Int)+1))).drew).rowIs bx 70 2 (UZ (zI kk) (zI a)):=((yU hB4 rb).of_block (Below.heap_setCell _ _ _ _ xp)).of_block (Below.heap_setCell _ _ _ _ xp)
     have t4:Tk (fun g=>zv (zv ρ w .other) W .other g≠.other) w4 (.slice a4 DR.length c4) DR:=Tk.new (b:=W.heap.size) Wy (fun g hg=>Classical.byContradiction fun yt=>hg (qt (by omega)))
     have t6:=t4.keep c6
     have B6:Below B w ((w4.setCell (zH d 3) (.slice sa L sc)).setCell (zH d 1) (zI ((pc:Int)+1))):=((BWw.mono hB).trans (hB4.mono (by omega))).trans b6
     have E7:=HENV.out.go B6
     generalize (w4.setCell (zH d 3) (.slice sa L sc)).setCell (zH d 1) (zI ((pc:Int)+1))=W6 at *
     have k7:=k6.below (Below.refl W6.heap.size W6).drew
     have t7:=t6.keep (Ch.below (Below.refl W6.heap.size W6).drew _ ρ6 .other)
     obtain⟨K,hK,HDo⟩:=zeM k7 (E7.meths.below zS.drew) hnp hce hsl t7 jG HD.out
     have hidx:=zaI HN.out.2 hK
     have hcall:=zau HN.out.2 hK
     have HFIN:Hid (∀W,Below W6.drew.heap.size W6.drew W->Calls Tryz.prog K #[zJ br 0,zI a,.slice a4 DR.length c4] W fun e w'=>e=.returned (.tuple #[])/\qD B bl br (.slice ap ms.length cp) ce np w (xU ms h) w'):=fun W hbW=>by
      refine(HDo W hbW).mono ?_
      rintro e w9 ⟨h1,h2⟩
      rw[HSE.out]
      exact⟨h1,h2.first B6.drew⟩
     obtain⟨⟨n0,n1⟩,_⟩:=yz rb7
     clear k4 k6 k7 kW t4 t6 t7 E7 HDo hK HD HSE HTKH HKW HN hto hwl hwp Wy hB4 Za rb rb7 c6 b6 y0' q0' q1' z3' z1' zf1' zf3' ha hVs hbe hd
     go_region_law (first
      | (go_simp;go_at_call 129;refine(zbT _).mono ?_;rintro e w8 ⟨rfl,hb8⟩;have hB8:Below W6.drew.heap.size W6.drew w8:=zS.drew.trans hb8;have m0:=zc hB8 n0;have m1:=zc hB8 n1)
      | (go_simp;refine(HFIN.out _ hB8).mono ?_;rintro e w9 ⟨rfl,hE⟩))
     all_goals exact bodyPost_end (results_none rfl _ _ _) rfl ⟨rfl,hE⟩
variable {B:Nat} {ρ ρ':Nat->Rl} {w w':World} {P:Lay} {bl br:Nat} {vp qa:Value} {ce:Int} {np:Nat} {h h':Hp}
theorem zbt (k:RV B ρ w P bl br vp qa ce np h) {ms:Ms} (zb6:JZ B w vp ms) (g:Good ms h) (hnp:np<=900) (hce:-1000000<=ce/\ce<=1000000) (n:Nat) (hsl:h.zm.length+n<=2900000) :
 Calls Tryz.prog 47 #[zJ br 0,zI n] w fun e w'=>e=.returned (.tuple #[])/\qD B bl br vp ce np w (qi ms n h) w':=by
 have HK:Hid (JZ B w vp ms/\Good ms h):=⟨zb6,g⟩
 have HL:Hid (qD B bl br vp ce np w (qi ms 0 h) w):=⟨ρ,P,qa,k,zS⟩
 clear k zb6 g
 go_enter Tryz.func47,Tryz.ntmps47
 go_wp2
 go_loopg [4] n (fun gm i wr=>∃q:Nat,q<=n/\gm=n - q/\i=zI q/\qD B bl br vp ce np w (qi ms q h) wr)
 case atStart=>exact⟨0,Nat.zero_le _,rfl,rfl,HL.out⟩
 case round =>
  obtain⟨q,hq,rfl,rfl,hE⟩:=hrel
  obtain⟨ρ',P',vsd',k',b'⟩:=hE
  have gq:=Good.run q h HK.out.2
  have y4:=k'.run.cell 4 rfl
  by_cases yt:q<n
  ·have hqz:(q:Int)<(n:Int):=by omega
   by_cases hc:(qi ms q h).code=0
   ·have HS:=zcH k' (HK.out.1.go b') gq hc hnp hce (by have:=VA ms q h;omega)
    have HQ:Hid (∀w2,qD B bl br vp ce np wr (xU ms (qi ms q h)) w2->qD B bl br vp ce np w (qi ms (q+1) h) w2):=fun w2 hE2=>by
     rw[zbg ms q h hc]
     exact hE2.first b'
    rw[hc] at y4
    clear k' gq hc b'
    go_wp2_with (go_at_call 87;refine HS.mono ?_;rintro e w2 ⟨rfl,hE2⟩)
    go_roundg (n - (q+1))
    case measure=>omega
    case rel=>exact⟨q+1,by omega,rfl,by go_num,HQ.out _ hE2⟩
   ·have hc':((qi ms q h).code == 0)=false:=zG.2 hc
    have HF:Hid (qD B bl br vp ce np w (qi ms n h) wr):=by
     show qD B bl br vp ce np w (qi ms n h) wr
     rw[zbh ms n q h hq hc]
     exact⟨ρ',P',vsd',k',b'⟩
    clear k' gq hc b'
    go_wp2
    exact bodyPost_end (results_none rfl _ _ _) rfl ⟨rfl,HF.out⟩
  ·obtain rfl:q=n:=by omega
   have HF:Hid (qD B bl br vp ce np w (qi ms q h) wr):=⟨ρ',P',vsd',k',b'⟩
   clear k' gq b'
   go_wp2
   exact bodyPost_end (results_none rfl _ _ _) rfl ⟨rfl,HF.out⟩
structure Zv (ms:Ms) (m:Mc) (L:yw) (h:Hp):Prop where
 ok:vC ms m=true
 sim:xE 0 0 L h
 ord:xm L
 now:uZ L h
 born:h.born=m.born
 zm:h.zm=m.zm
 code:h.code=m.code
 good:Good ms h
 cells:-1000000<=L.cells/\L.cells<=1000000
 za:L.za.length<=900
structure zcY (L L':yw) (h:Hp):Prop where
 sim:xE 0 0 L' h
 ord:xm L'
 now:uZ L' h
 cells:L'.cells=L.cells
 za:L'.za.length=L.za.length
def ZF (t:Nat):jg:=⟨0,0,List.replicate t (0,0),[],false⟩
theorem zf9 {n t:Nat} {c:Int} (hn:1<=n) (hn4:n<=4):UG (yV n t c) (yV n t c).za.length=xI c (n - 1) (yG n n) (ZF t):=by
 have:n=1\/n=2\/n=3\/n=4:=by omega
 rcases this with rfl | rfl | rfl | rfl <;> rfl
theorem zcx {n:Nat} {c:Int} {b:jg} (hn:1<=n) (hn4:n<=4):xm (xI c (n - 1) (yG n n) b):=by
 have hl:(xI c (n - 1) (yG n n) b).za.length=n:=by
  show(_ :: List.replicate (n - 1) _).length=n
  simp
  omega
 unfold xm
 rw[hl]
 show(yG n n).Perm _
 have:n=1\/n=2\/n=3\/n=4:=by omega
 clear hl hn hn4
 rcases this with rfl | rfl | rfl | rfl <;> decide
theorem Q5 {ms:Ms} {n:Nat} {c:Int} (hp:yn ms=true) (hr:qP (n:Int) c=true):Zv ms (yV n (yr ms) c) (xI c (n - 1) (yG n n) (ZF (yr ms))) (kh ms):=by
 obtain⟨h1,h4,hc1,hc4⟩:=jZ hr
 have hn:1<=n:=by omega
 have hn4:n<=4:=by omega
 have ha:Yy [] (ZF (yr ms)) ⟨0,0,List.replicate (yr ms) (0,0),[],-1,false⟩:=by
  refine⟨rfl,rfl,rfl,?_,rfl,fun v hv h2=>?_,fun v hv=>by cases hv⟩
  ·show List.replicate _ _=(List.replicate _ _).map _
   rw[List.map_replicate]
   rfl
  ·have:v=(0,0):=(List.mem_replicate.1 hv).2
   rw[this] at h2
   cases h2
 obtain⟨hs,hw⟩:=zek (cells:=c) (n:=n - 1) (ord:=yG n n) (b:=ZF (yr ms)) ha rfl rfl 1 0 []
 refine⟨zfs hp hr,?_,zcx hn hn4,?_,?_,?_,?_,zaC.1 (zaY hp),⟨by show -1000000<=c;omega,by show c<=1000000;omega⟩,?_⟩
 ·rw[ua hp];exact hs
 ·rw[ua hp];exact hw
 ·rw[ua hp];rfl
 ·rw[ua hp];rfl
 ·rw[ua hp];rfl
 ·show(_ :: List.replicate (n - 1) _).length<=900
  simp
  omega
end Go.Proofs.YtbjgjjkgfnfejaaGreatDoor
