/-
  What runs, with its calls on pages: an operation is done.
-/
import Derived.Test.YtbjgjjkgfnfejaaGreatDoorRDo3
import Derived.Test.YtbjgjjkgfnfejaaGreatDoorLRun1
import Derived.Test.YtbjgjjkgfnfejaaGreatDoorMRowF
namespace Go.Proofs.YtbjgjjkgfnfejaaGreatDoor
set_option maxHeartbeats 8000000
set_option maxRecDepth 100000
open Go.RowKit
variable {B:Nat} {ρ ρ':Nat->Rl} {w w':World} {P:Lay} {bl br:Nat} {vp vsd:Value} {ce:Int} {np:Nat} {h h':Hp} {q:Nat} {bd:jg} {c:Cl}
theorem yV {f:Int × Int->Int × Int} {l:yH} {i:Nat} (hi:i<l.length):(l.map f).getD i (0,0)=f l[i]:=by
 rw[List.getD_eq_getElem?_getD,List.getElem?_map,List.getElem?_eq_getElem hi]
 rfl
theorem jC (ts:List kN) (v:Int × Int):(yQ ts v).1=v.1:=by
 unfold yQ
 split
 ·rename_i e;exact e.symm
 ·rfl
theorem wV (ts:List kN) {v:Int × Int} (h:v.1≠2):yQ ts v=v:=by unfold yQ;rw[if_neg h]
theorem zey {L:yF} (s:jB 0 0 L h) {x y:Int × Int} (hx:x.1=2->∃j:Nat,x.2=(j:Int)/\j<L.ze.length) (hy:y.1=2->∃j:Nat,y.2=(j:Int)/\j<L.ze.length):(yQ L.ze x=yQ L.ze y) ↔ x=y:=by
 refine⟨fun e=>?_,fun e=>by rw[e]⟩
 have ek:x.1=y.1:=by rw[<-jC L.ze x,<-jC L.ze y,e]
 by_cases h2:x.1=2
 ·obtain⟨i,ei,hi⟩:=hx h2
  obtain⟨j,ej,hj⟩:=hy (by rw[<-ek];exact h2)
  have ex:x=(2,(i:Int)):=Prod.ext h2 ei
  have ey:y=(2,(j:Int)):=Prod.ext (by rw[<-ek];exact h2) ej
  rw[ex,ey,ws (List.getElem?_eq_getElem hi),ws (List.getElem?_eq_getElem hj)] at e
  have eb:(L.ze[i].body:Int)=(L.ze[j].body:Int):=(Prod.mk.inj e).2
  have:=s.ti i _ j _ (List.getElem?_eq_getElem hi) (List.getElem?_eq_getElem hj) (by omega)
  rw[ex,ey,this]
 ·rw[wV L.ze h2,wV L.ze (by rw[<-ek];exact h2)] at e
  exact e
theorem RV.ref (k:RV B ρ w P bl br vp vsd ce np h) {v:Int × Int} (h2:v.1=2) (hv:v.1=2->∃j:Nat,v.2=(j:Int)/\j<P.L.ze.length):∃(j:Nat) (tw:kN) (b:jg) (c:Cl),P.L.ze[j]?=some tw/\v.2=(j:Int)/\yQ P.L.ze v=(2,(tw.body:Int))/\P.L.zj[tw.body]?=some b/\h.za[tw.body]?=some c/\Ym P.L.ze b c:=by
 obtain⟨j,ej,hj⟩:=hv h2
 have ht:=List.getElem?_eq_getElem hj
 have hb:=(k.sim.tb j _ ht).1
 obtain⟨c,hc,ha⟩:=k.sim.c _ _ (List.getElem?_eq_getElem hb)
 have ev:v=(2,(j:Int)):=Prod.ext h2 ej
 exact⟨j,_,_,c,ht,ej,by rw[ev];exact ws ht,List.getElem?_eq_getElem hb,hc,ha⟩
theorem uJ {cs:List Cl} {i:Nat} {c:Cl} (h:cs[i]?=some c):∃hi:i<cs.length,cs[i]=c:=List.getElem?_eq_some_iff.1 h
theorem zdb {ms:Ms} {n:Nat} {x:Cl} (hp:yr ms=true) (h:ClP ms n x):x.zg.length<=1000:=by
 obtain⟨m,hm⟩:=Int.eq_ofNat_of_zero_le h.m.1
 have wX:m<ms.length:=by have:=h.m.2;omega
 have ht:=h.t
 rw[hm,Int.toNat_natCast,yn wX] at ht
 have:=(jR hp wX).zg
 omega
theorem Good.leave_few {ms:Ms} (g:Good ms h) {j:Nat} (hn:h.now=(j:Int)) (hj:j<h.za.length):(yJ (ye h)).zf.length<=1000/\(0<=(ye h).now->∃l,qG (ye h).za (ye h).now l):=by
 have hL:ye h=⟨h.za.set j (um h.za[j]),h.za[j].zi,h.born,h.zm,h.code⟩:=by
  unfold ye setH
  rw[xO hn hj,hn,Int.toNat_natCast]
 obtain⟨l,hw⟩:=g.w
 rw[hn] at hw
 obtain⟨_,t,hl,_⟩:=hw.head
 obtain⟨t',_,hWt,_⟩:=hw.leave hj (um h.za[j]) rfl
 rw[hL]
 refine⟨?_,fun _=>⟨t',hWt⟩⟩
 unfold yJ
 rw[List.getD_eq_getElem?_getD]
 cases e:(h.za.set j (um h.za[j]))[(h.za[j].zi).toNat]? with
 | none=>simp[Cl.none]
 | some x =>
  simp only[Option.getD_some]
  rcases List.mem_or_eq_of_mem_set (List.mem_of_getElem? e) with h1 | h1
  ·obtain⟨i,hi,rfl⟩:=List.getElem_of_mem h1
   have:=(g.cl i hi).s
   omega
  ·subst h1
   simp[um]
theorem zdx (k:RV B ρ w P bl br vp vsd ce np h) {ms:Ms} (hM:yD w vp ms) (hnp:np<=900) (hce:-1000000<=ce/\ce<=1000000) (hsl:h.zm.length<=2900000) {j:Nat} {kk a:Int} {vt:Value} {qm:yH} (t:Tk (fun g=>ρ g≠.other) w vt qm) (hva:Qm P.L.ze.length qm) (d:jX ms h j kk a (qm.map (yQ P.L.ze))) :
 ∃K,wB[kk.toNat]?=some (.func (.func K) #[] #[])/\∀W,zO w W->Calls Tryz.prog K #[zJ br 0,zI a,vt] W fun e w'=>e=.returned (.tuple #[])/\qv B bl br vp ce np w (doH ms h kk a (qm.map (yQ P.L.ze))) w':=by
 have hn:=d.now
 have hj:=d.lt
 have h0:0<=h.now:=by rw[hn];omega
 have Zz:yJ h=h.za[j]:=xO hn hj
 have hst:(yJ h).zf.length<=1000:=by rw[Zz];have:=(d.g.cl j hj).s;omega
 have hbn:=d.g.head.born
 have hfw:=d.g.head.few
 have hcl:h.za.length<=700:=by omega
 have hT:∀{W:World},zO w W->Tk (fun g=>zu ρ w .other g≠.other) W vt qm:=fun hb=>t.keep (Ch.below hb _ ρ .other)
 have hB:=k.big
 have wX:(qm.map (yQ P.L.ze)).length=qm.length:=List.length_map _
 have fin:∀{K:Nat} {W:World} {h2:Hp},zO w W->doH ms h kk a (qm.map (yQ P.L.ze))=h2->(Calls Tryz.prog K #[zJ br 0,zI a,vt] W fun e w'=>e=.returned (.tuple #[])/\qv B bl br vp ce np W h2 w')->Calls Tryz.prog K #[zJ br 0,zI a,vt] W fun e w'=>e=.returned (.tuple #[])/\qv B bl br vp ce np w (doH ms h kk a (qm.map (yQ P.L.ze))) w':=fun {K W h2} hb he hc=>by
  refine hc.mono ?_
  rintro e w' ⟨h1,h2⟩
  rw[he]
  exact⟨h1,h2.first (hb.mono hB)⟩
 obtain⟨q,bd,c,_,hcc⟩:=k.rc h0 (by omega) hnp hst
 have rc:∀W,zO w W->∃q bd,RC B (zu ρ w .other) W P bl br vp vsd ce np h q bd c:=fun W hb=>by
  obtain⟨q,bd,c',r,e⟩:=(k.below hb).rc h0 (by omega) hnp hst
  rw[hcc] at e
  subst e
  exact⟨q,bd,r⟩
 have hg0:∀{i:Nat},(hi:i<qm.length)->qm[i].1=2->∃j:Nat,qm[i].2=(j:Int)/\j<P.L.ze.length:=fun hi e=>hva _ (List.getElem_mem hi) e
 rcases Xa d.kind with e | e | e | e | e | e | e | e | e | e | e | e | e | e | e | e | e | e
 ·subst e
  exact⟨_,rfl,fun W hb=>by obtain⟨q,bd,r⟩:=rc W hb;exact fin hb rfl (zeG r a vt)⟩
 ·subst e
  obtain⟨u0,u1⟩:=d.temp (.inl rfl)
  obtain⟨p,rfl⟩:=Int.eq_ofNat_of_zero_le u0
  refine⟨_,rfl,fun W hb=>?_⟩
  obtain⟨q,bd,r⟩:=rc W hb
  have yz:p<bd.zg.length:=by
   have e1:c.zg.length=bd.zg.length:=by rw[r.ha.zg,List.length_map]
   rw[<-e1,<-hcc,Zz]
   omega
  refine fin hb ?_ (zdz r p yz vt)
  show yI h ((yJ h).zg.getD (p:Int).toNat (0,0))=_
  rw[hcc,r.ha.zg,Int.toNat_natCast,yV yz]
 ·subst e
  have hl:=d.len (by decide)
  have h0l:0<qm.length:=by have:tk 3=1:=rfl;omega
  obtain⟨u0,u1⟩:=d.temp (.inr rfl)
  obtain⟨p,rfl⟩:=Int.eq_ofNat_of_zero_le u0
  refine⟨_,rfl,fun W hb=>?_⟩
  obtain⟨q,bd,r⟩:=rc W hb
  have yz:p<bd.zg.length:=by
   have e1:c.zg.length=bd.zg.length:=by rw[r.ha.zg,List.length_map]
   rw[<-e1,<-hcc,Zz]
   omega
  refine fin hb ?_ (zeJ r (hT hb) h0l (hg0 h0l) p yz)
  show setH h {yJ h with zg:=(yJ h).zg.set (p:Int).toNat ((qm.map (yQ P.L.ze)).getD 0 (0,0))}=_
  rw[hcc,Int.toNat_natCast,yV h0l]
 ·subst e
  exact⟨_,rfl,fun W hb=>by obtain⟨q,bd,r⟩:=rc W hb;exact fin hb rfl (zds r a vt)⟩
 ·subst e
  have hl:=d.len (by decide)
  have QM:1<qm.length:=by have:tk 5=2:=rfl;omega
  have h0l:0<qm.length:=by omega
  have hk:=d.kinds
  simp only[qK,if_true,Bool.and_eq_true,beq_iff_eq] at hk
  rw[yV h0l,yV QM,jC,jC] at hk
  have hx:=d.first 0
  have hy:=d.first 1
  rw[yV h0l,wV P.L.ze (by omega),hk.1] at hx
  rw[yV QM,wV P.L.ze (by omega),hk.2] at hy
  refine⟨_,rfl,fun W hb=>?_⟩
  obtain⟨q,bd,r⟩:=rc W hb
  refine fin hb ?_ (zeF r a (hT hb) QM (wg hx) (wg hy))
  show yI h (1,(((qm.map (yQ P.L.ze)).getD 0 (0,0)).2+((qm.map (yQ P.L.ze)).getD 1 (0,0)).2) % 1000)=_
  rw[yV h0l,yV QM,wV P.L.ze (by omega),wV P.L.ze (by omega)]
 ·subst e
  have hl:=d.len (by decide)
  have QM:1<qm.length:=by have:tk 6=2:=rfl;omega
  have h0l:0<qm.length:=by omega
  refine⟨_,rfl,fun W hb=>?_⟩
  obtain⟨q,bd,r⟩:=rc W hb
  refine fin hb ?_ (zdy r a (hT hb) QM)
  show yI h (Qo (decide ((qm.map (yQ P.L.ze)).getD 0 (0,0)=(qm.map (yQ P.L.ze)).getD 1 (0,0))))=_
  rw[yV h0l,yV QM]
  have hh:=zey k.sim (hg0 h0l) (hg0 QM)
  rw[decide_eq_decide.2 hh]
 ·subst e
  exact⟨_,rfl,fun W hb=>by obtain⟨q,bd,r⟩:=rc W hb;exact fin hb (by show setH h {yJ h with pc:=a}=_;rw[hcc]) (zdu r a vt)⟩
 ·subst e
  have hl:=d.len (by decide)
  have h0l:0<qm.length:=by have:tk 8=1:=rfl;omega
  have hx:=d.first 0
  rw[yV h0l] at hx
  refine⟨_,rfl,fun W hb=>?_⟩
  obtain⟨q,bd,r⟩:=rc W hb
  refine fin hb ?_ (zdA r a (hT hb) h0l)
  show(if((qm.map (yQ P.L.ze)).getD 0 (0,0)).1=0\/(qm.map (yQ P.L.ze)).getD 0 (0,0)=(1,0) then setH h {yJ h with pc:=a} else h)=_
  rw[yV h0l,hcc]
  have hkk:=jC P.L.ze qm[0]
  have hnn:qm[0].1≠2->yQ P.L.ze qm[0]=qm[0]:=wV P.L.ze
  by_cases h2:qm[0].1=2
  ·rw[if_neg (fun z=>by
    rcases z with z | z
    ·rw[hkk] at z;omega
    ·have:=congrArg Prod.fst z
     rw[hkk] at this
     have:qm[0].1=1:=this
     omega),if_neg (fun z=>by omega)]
  ·rw[hnn h2] at hx ⊢
   generalize qm[0]=x at *
   obtain⟨x1,x2⟩:=x
   simp only at hx ⊢
   have e:(x1=0\/(x1,x2)=(1,0)) ↔ (x2=0/\(x1=0\/x1=1)):=by
    rw[Prod.mk.injEq]
    constructor
    ·rintro(q | ⟨q1,q2⟩)
     ·subst q;exact⟨KW hx,.inl rfl⟩
     ·exact⟨q2,.inr q1⟩
    ·rintro⟨q1,q2 | q2⟩
     ·exact .inl q2
     ·exact .inr ⟨q2,q1⟩
   by_cases q:x2=0/\(x1=0\/x1=1)
   ·rw[if_pos (e.2 q),if_pos q]
   ·rw[if_neg (fun z=>q (e.1 z)),if_neg q]
 ·subst e
  obtain⟨u0,u1⟩:=d.meth
  obtain⟨p,rfl⟩:=Int.eq_ofNat_of_zero_le u0
  have hq:p<ms.length:=by omega
  have htk:=d.takes
  rw[ui hq,wX] at htk
  have hmp:=jR d.g.head.p hq
  refine⟨_,rfl,fun W hb=>?_⟩
  obtain⟨q,bd,r⟩:=rc W hb
  refine fin hb rfl (zdq r hcl hnp hce (fun i hi=>?_) (hM.below hb) p hq (hT hb) hva htk ⟨hmp.zg.1,hmp.zg.2⟩ ⟨by omega,by omega⟩)
  obtain⟨c',hc',ha'⟩:=k.sim.c i _ (List.getElem?_eq_getElem hi)
  obtain⟨hil,Jv⟩:=uJ hc'
  have e1:c'.zg.length=P.L.zj[i].zg.length:=by rw[ha'.zg,List.length_map]
  rw[<-e1,<-Jv]
  have:=(d.g.cl i hil).t
  have:=zdb (ms:=ms) d.g.head.p (d.g.cl i hil)
  omega
 ·subst e
  have hl:=d.len (by decide)
  have h0l:0<qm.length:=by have:tk 10=1:=rfl;omega
  have hgl:=(d.g.leave_few (j:=j) hn hj)
  refine⟨_,rfl,fun W hb=>?_⟩
  obtain⟨q,bd,r⟩:=rc W hb
  refine fin hb ?_ (zeH r hcc (by omega) hnp hsl hgl.1 hgl.2 a (hT hb) h0l (hg0 h0l))
  show Vt h ((qm.map (yQ P.L.ze)).getD 0 (0,0))=_
  rw[yV h0l]
 ·subst e
  exact⟨_,rfl,fun W hb=>by obtain⟨q,bd,r⟩:=rc W hb;exact fin hb rfl (zdt r h0 (by omega) hnp hst a vt)⟩
 ·subst e
  have hl:=d.len (by decide)
  have h0l:0<qm.length:=by have:tk 12=1:=rfl;omega
  obtain⟨YX,_⟩:=d.ref (by decide)
  rw[yV h0l,jC] at YX
  obtain⟨jt,tw,b',c',hjt,ejt,evb,hb',hc',ha'⟩:=k.ref YX (hg0 h0l)
  obtain⟨hil,Jv⟩:=uJ hc'
  refine⟨_,rfl,fun W hb=>?_⟩
  obtain⟨q,bd,r⟩:=rc W hb
  refine fin hb ?_ (zaW r h0 (by omega) hnp hst a (hT hb) h0l hjt ejt hc')
  show yI h (uo h 12 a ((qm.map (yQ P.L.ze)).getD 0 (0,0)).2.toNat)=_
  rw[yV h0l,evb]
  unfold uo
  simp only[]
  rw[if_pos trivial,Int.toNat_natCast,yn hil,Jv]
 ·subst e
  have hl:=d.len (by decide)
  have h0l:0<qm.length:=by have:tk 13=1:=rfl;omega
  obtain⟨YX,_⟩:=d.ref (by decide)
  rw[yV h0l,jC] at YX
  obtain⟨jt,tw,b',c',hjt,ejt,evb,hb',hc',ha'⟩:=k.ref YX (hg0 h0l)
  obtain⟨hil,Jv⟩:=uJ hc'
  obtain⟨p,rfl⟩:=Int.eq_ofNat_of_zero_le (d.peek (.inl rfl))
  refine⟨_,rfl,fun W hb=>?_⟩
  obtain⟨q,bd,r⟩:=rc W hb
  refine fin hb ?_ (zdv r p (hT hb) h0l hjt ejt hb' ha')
  show yI h (uo h 13 p ((qm.map (yQ P.L.ze)).getD 0 (0,0)).2.toNat)=_
  rw[yV h0l,evb]
  unfold uo
  simp only[]
  rw[if_neg (by decide),if_pos trivial,Int.toNat_natCast,Int.toNat_natCast,yn hil,Jv]
 ·subst e
  have hl:=d.len (by decide)
  have QM:1<qm.length:=by have:tk 14=2:=rfl;omega
  have h0l:0<qm.length:=by omega
  obtain⟨YX,_⟩:=d.ref (by decide)
  rw[yV h0l,jC] at YX
  obtain⟨jt,tw,b',c',hjt,ejt,evb,hb',hc',ha'⟩:=k.ref YX (hg0 h0l)
  obtain⟨hil,Jv⟩:=uJ hc'
  obtain⟨p,rfl⟩:=Int.eq_ofNat_of_zero_le (d.peek (.inr rfl))
  refine⟨_,rfl,fun W hb=>?_⟩
  obtain⟨q,bd,r⟩:=rc W hb
  refine fin hb ?_ (zdw r p (hT hb) QM hjt ejt hb' hc' ha' (hg0 QM))
  show uV h ((qm.map (yQ P.L.ze)).getD 0 (0,0)).2.toNat p ((qm.map (yQ P.L.ze)).getD 1 (0,0))=_
  rw[yV h0l,yV QM,evb,Int.toNat_natCast]
 ·subst e
  have hl:=d.len (by decide)
  have QM:1<qm.length:=by have:tk 15=2:=rfl;omega
  have h0l:0<qm.length:=by omega
  obtain⟨YX,_⟩:=d.ref (by decide)
  rw[yV h0l,jC] at YX
  obtain⟨jt,tw,b',c',hjt,ejt,evb,hb',hc',ha'⟩:=k.ref YX (hg0 h0l)
  obtain⟨hil,Jv⟩:=uJ hc'
  refine⟨_,rfl,fun W hb=>?_⟩
  obtain⟨q,bd,r⟩:=rc W hb
  refine fin hb ?_ (zdp r (by omega) hnp a (hT hb) QM hjt ejt hb' hc' ha' (hg0 QM) (fun hd=>?_))
  ·show Qb h ((qm.map (yQ P.L.ze)).getD 0 (0,0)).2.toNat ((qm.map (yQ P.L.ze)).getD 1 (0,0))=_
   rw[yV h0l,yV QM,evb,Int.toNat_natCast]
  ·obtain⟨r1,r2,r3,r4⟩:=d.backs hil (by rw[Jv];exact hd)
   refine⟨r1,by rw[r2];omega,r3,?_⟩
   have hbl:tw.body<(yC h.za.length h tw.body).za.length:=by rw[r3];exact hil
   rw[xO r2 hbl]
   exact r4 hbl
 ·subst e
  have hl:=d.len (by decide)
  have h0l:0<qm.length:=by have:tk 16=1:=rfl;omega
  refine⟨_,rfl,fun W hb=>?_⟩
  obtain⟨q,bd,r⟩:=rc W hb
  refine fin hb ?_ (zeI r hsl a (hT hb) h0l (hg0 h0l))
  show uN h ((qm.map (yQ P.L.ze)).getD 0 (0,0))=_
  rw[yV h0l]
 ·subst e
  have hl:=d.len (by decide)
  have h0l:0<qm.length:=by have:tk 17=1:=rfl;omega
  obtain⟨YX,_⟩:=d.ref (by decide)
  rw[yV h0l,jC] at YX
  obtain⟨jt,tw,b',c',hjt,ejt,evb,hb',hc',ha'⟩:=k.ref YX (hg0 h0l)
  obtain⟨hil,Jv⟩:=uJ hc'
  refine⟨_,rfl,fun W hb=>?_⟩
  obtain⟨q,bd,r⟩:=rc W hb
  refine fin hb ?_ (zdr r a (hT hb) h0l hjt ejt hb')
  show yI h (uo h 17 a ((qm.map (yQ P.L.ze)).getD 0 (0,0)).2.toNat)=_
  rw[yV h0l,evb]
  unfold uo
  simp only[]
  rw[if_neg (by decide),if_neg (by decide),if_pos trivial,Int.toNat_natCast,yn hil,Jv,ha'.zv]
 ·subst e
  have hl:=d.len (by decide)
  have h0l:0<qm.length:=by have:tk 18=1:=rfl;omega
  obtain⟨YX,_⟩:=d.ref (by decide)
  rw[yV h0l,jC] at YX
  obtain⟨jt,tw,b',c',hjt,ejt,evb,hb',hc',ha'⟩:=k.ref YX (hg0 h0l)
  obtain⟨hil,Jv⟩:=uJ hc'
  refine⟨_,rfl,fun W hb=>?_⟩
  obtain⟨q,bd,r⟩:=rc W hb
  refine fin hb ?_ (zcu r a (hT hb) h0l hjt ejt hb')
  show yI h (uo h 18 a ((qm.map (yQ P.L.ze)).getD 0 (0,0)).2.toNat)=_
  rw[yV h0l,evb]
  unfold uo
  simp only[]
  rw[if_neg (by decide),if_neg (by decide),if_neg (by decide),Int.toNat_natCast,yn hil,Jv,ha'.pc]
variable {B:Nat} {ρ ρ':Nat->Rl} {w w':World} {P:Lay} {bl br:Nat} {vp vsd:Value} {ce:Int} {np:Nat} {h h':Hp} {q:Nat} {bd:jg} {c:Cl}
def cutB (b:jg) (L:Nat) (x:Int):jg:={b with zf:=b.zf.take L,pc:=x}
theorem yj.cutd (h:yj B ρ w P) {k:Nat} (hk:k<P.L.zj.length) {sa:Option Addr} {n sc L:Nat} (hV:(P.T k).2=.slice sa n sc) (hL:L<=P.L.zj[k].zf.length) (x:Int):∃T',Goes B ρ w ((w.setCell (zH (P.D k) 3) (.slice sa L sc)).setCell (zH (P.D k) 1) (zI x)) {P with T:=T',L:=Qc P.L k (cutB P.L.zj[k] L x)}:=by
 obtain⟨hb,hr,hBD⟩:=(h (.body k)) hk
 obtain⟨ht,hgt⟩:=(h (.zg k)) hk
 obtain⟨hs,hgs⟩:=(h (.zf k)) hk
 have hb':Bx w (P.D k) 186 [zI P.L.zj[k].m,zI P.L.zj[k].pc,(P.T k).1,(P.T k).2,.bool P.L.zj[k].zv]:=hb
 have hx:Bx ((w.setCell (zH (P.D k) 3) (.slice sa L sc)).setCell (zH (P.D k) 1) (zI x)) (P.D k) 186 (xx ((P.T k).1,.slice sa L sc) (cutB P.L.zj[k] L x)):=(hb'.set 3 (.slice sa L sc)).set 1 (zI x)
 have c:Ch (fun r=>r=.body k\/r=.zg k\/r=.zf k) ρ ρ w ((w.setCell (zH (P.D k) 3) (.slice sa L sc)).setCell (zH (P.D k) 1) (zI x)):=(Ch.set w ρ _ _ _ (.inl hr)).trans (Ch.set _ ρ _ _ _ (.inl hr))
 have qF:∀g,ρ g≠.body k->((w.setCell (zH (P.D k) 3) (.slice sa L sc)).setCell (zH (P.D k) 1) (zI x)).heap[g]?=w.heap[g]?:=fun g hg=>by
  have hgg:g≠P.D k:=fun e=>hg (by rw[e];exact hr)
  rw[Below.heap_setCell _ _ _ _ hgg,Below.heap_setCell _ _ _ _ hgg]
 have ht':=ht.kept c.size fun g e=>qF g (by rw[hgt g e];simp)
 have hs':=hs.kept c.size fun g e=>qF g (by rw[hgs g e];simp)
 rw[hV] at hs'
 have zy:(Value.slice sa L sc).ownBlock=(P.T k).2.ownBlock:=by rw[hV];cases sa <;> rfl
 exact⟨_,ρ,h.setBody hk c hx ht' (hs'.cutTo hL) hgt (fun g e=>hgs g (by rw[<-zy];exact e)),c.mono (fun r e=>by rcases e with e | e | e <;> rw[e] <;> simp),((Below.refl B w).setCell (p:=zH (P.D k) 3) hBD _).setCell (p:=zH (P.D k) 1) hBD _⟩
theorem Ym.cutd {ts:List kN} {b:jg} {c:Cl} (a:Ym ts b c) (L:Nat) (x:Int):Ym ts (cutB b L x) {c with zf:=c.zf.take L,pc:=x} :=
 ⟨a.m,rfl,a.zv,a.zg,by show c.zf.take L=(b.zf.take L).map _;rw[a.zf,List.map_take],a.vt,fun v hv=>a.vs v (List.mem_of_mem_take hv)⟩
theorem Je (ts:List kN) (k:Int) (l:yH):qK k (l.map (yQ ts))=qK k l:=by
 have e:∀i,((l.map (yQ ts)).getD i (0,0)).1=(l.getD i (0,0)).1:=fun i=>by
  rw[List.getD_eq_getElem?_getD,List.getD_eq_getElem?_getD,List.getElem?_map]
  cases l[i]? with
  | none=>rfl
  | some v=>exact jC ts v
 unfold qK
 rw[e 0,e 1]
theorem zbH (k:RV B ρ w P bl br vp vsd ce np h) {ms:Ms} (Qt:Yn B w vp ms) (g:Good ms h) (hc:h.code=0) (hnp:np<=900) (hce:-1000000<=ce/\ce<=1000000) (hsl:h.zm.length<=2900000) :
 Calls Tryz.prog 87 #[zJ br 0] w fun e w'=>e=.returned (.tuple #[])/\qv B bl br vp ce np w (qH ms h) w':=by
 have hM:=Qt.meths
 have hTB:=Qt.tab
 have HENV:Hid (Yn B w vp ms):=Qt
 clear Qt
 have WE:0<=h.now:=by
  by_cases q:h.now<0
  ·have:=g.head.fin.2 q;omega
  ·omega
 obtain⟨j,hn⟩:∃j:Nat,h.now=j:=⟨h.now.toNat,by omega⟩
 have hj:j<h.za.length:=by have:=g.head.now;omega
 have c:=g.cl j hj
 have hB:=k.big
 have hbn:=g.head.born
 have hfw:=g.head.few
 obtain⟨q,bd,cc,r,hcc⟩:=k.rc WE (by omega) hnp (by rw[xO hn hj];have:=c.s;omega)
 obtain rfl:q=j:=by have:=r.nw;omega
 obtain⟨hjl,hbe⟩:=List.getElem?_eq_some_iff.1 r.hb
 obtain⟨_,hcj⟩:=uJ r.hc
 have ha:=r.ha
 obtain⟨m,hm⟩:=Int.eq_ofNat_of_zero_le c.m.1
 obtain⟨pc,hpc⟩:=Int.eq_ofNat_of_zero_le c.pc.1
 have wX:m<ms.length:=by have:=c.m;omega
 have hbm:bd.m=(m:Int):=by rw[<-ha.m,<-hcj];exact hm
 have hbp:bd.pc=(pc:Int):=by rw[<-ha.pc,<-hcj];exact hpc
 have HR:=r.run w zS
 have Qh:=Tryz.goP_running bl
 obtain⟨ap,cp,qI,_⟩:=id hM
 subst qI
 obtain⟨kk,a,ho⟩:∃kk a,ms[m].2.2.getD pc (0,0)=(kk,a):=⟨_,_,rfl⟩
 obtain⟨fd,K2⟩:∃fd,decide (pc<ms[m].2.2.length)=fd:=⟨_,rfl⟩
 obtain⟨d,hd⟩:∃d,P.D q=d:=⟨_,rfl⟩
 have hDl0:d<w.heap.size:=by rw[<-hd];exact((k.lv (.body q)) hjl).1.lt
 rw[hd] at HR
 have yy:=k.run.cell 1 rfl
 have HW1:Hid (∀w1,zO w w1->w1.cell? (zH br 0)=some (.slice ap ms.length cp)/\w1.cell? (zH d 0)=some (zI m)/\w1.cell? (zH d 1)=some (zI pc) /\
  Hid (∀W,zO w1 W->Calls Tryz.prog 127 #[.agg #[.slice ap ms.length cp],zI m,zI pc] W fun e w'=>e=.returned (.tuple #[.agg #[zI kk,zI a],.bool fd])/\zO W w')):=fun w1 b1=>by
  have k1:=k.below b1
  have qa:=((k1.lv (.body q)) hjl).1
  rw[hbe,hd] at qa
  refine⟨k1.run.cell 0 rfl,by rw[<-hbm];exact qa.cell 0 rfl,by rw[<-hbp];exact qa.cell 1 rfl,fun W hb=>?_⟩
  have:=WX (.slice ap ms.length cp) ms m pc W (hM.below (b1.trans (hb.mono b1.size))) wX
  rw[ho,K2] at this
  exact this
 have HK:Hid (RV B ρ w P bl br (.slice ap ms.length cp) vsd ce np h/\yD w (.slice ap ms.length cp) ms/\TabAt w/\Good ms h/\ClP ms h.za.length h.za[q]):=⟨k,hM,hTB,g,c⟩
 have HO:Hid (ms[m].2.2.getD pc (0,0)=(kk,a)/\decide (pc<ms[m].2.2.length)=fd/\h.za[q].m=m/\h.za[q].pc=pc/\h.now=q/\h.code=0/\P.L.zj[q]=bd/\P.D q=d/\h.za[q]=cc/\Ym P.L.ze bd cc/\bd.pc=pc):=⟨ho,K2,hm,hpc,hn,hc,hbe,hd,hcj,ha,hbp⟩
 have HB1:Hid (P.L.zj[q]?=some bd/\h.za[q]?=some cc):=⟨r.hb,r.hc⟩
 have hbrl0:br<w.heap.size:=k.run.lt
 clear k hM hTB g c ho K2 hm hpc hn WE hc r hcc ha hbe hcj hbm hbp hd
 go_enter Tryz.func87,Tryz.ntmps87
 go_upto_region 1 with(go_at_call 209;refine HR.mono ?_;rintro e w1 ⟨rfl,b1⟩)
 obtain⟨y0,z0,z1,HOP⟩:=HW1.out w1 b1
 have hbrl:br<w1.heap.size:=by have:=b1.size;omega
 have hDl:d<w1.heap.size:=by have:=b1.size;omega
 have HB2:Hid (zO w w1):=b1
 clear HR Qh HW1 b1 yy
 have HS:∀w',zO w1 w'->(w'.cell? (zH br 0)=some (.slice ap ms.length cp)/\w'.cell? (zH d 0)=some (zI m)/\w'.cell? (zH d 1)=some (zI pc)/\zO w1 w'):=fun w' hB=>⟨zc hB y0,zc hB z0,zc hB z1,hB⟩
 go_region_held3 (fun w'=>w'.cell? (zH br 0)=some (.slice ap ms.length cp)/\w'.cell? (zH d 0)=some (zI m)/\w'.cell? (zH d 1)=some (zI pc)/\zO w1 w')
  ((refine HS _ ?_;first
   | (with_reducible exact(‹_/\_/\_/\zO w1 _›).2.2.2)
   | (with_reducible exact zS.drew)
   | (with_reducible exact hBC)
   | (with_reducible exact(zR _ _).drew)
   | (with_reducible exact hBC.alloc hBC.size _)
   | (with_reducible exact(hBC.setCell (p:=zH _ 0) (by first | omega | simp) _).setCell (p:=zH _ 1) (by first | omega | simp) _)))
  (first
   | (go_at_call 127;refine(HOP.out _ (‹_/\_/\_/\zO w1 _›).2.2.2).mono ?_;rintro e wC ⟨rfl,hbC⟩;have hBC:=Below.trans (‹_/\_/\_/\zO w1 _›).2.2.2 (hbC.mono ((‹_/\_/\_/\zO w1 _›).2.2.2).size);have hzC:=hBC.size;first | (have rC:=yp hbC (show((w1.alloc (.cells #[.int .i64 0,.int .i64 0] 70)).drew).rowIs _ _ 2 _ from xJ w1 70 (.int .i64 0) (.int .i64 0));obtain⟨⟨n0,n1⟩,l0,l1⟩:=zZ rC) | skip))
 all_goals first
  | (have rb:=xJ wC 70 (.int .i64 kk) (.int .i64 a);have BW:=(‹_/\_/\_/\zO w1 (wC.alloc _)›).2.2.2;have hbxw:w1.heap.size<=wC.heap.size:=hzC;clear HS HOP hbC hBC hzC;generalize wC.alloc (.cells #[.int .i64 kk,.int .i64 a] 70)=W at *;generalize wC.heap.size=bx at *)
  | (have rb:((wC.setCell (zH w1.heap.size 0) (zI kk)).setCell (zH w1.heap.size 1) (zI a)).rowIs w1.heap.size 70 2 (Jn (zI kk) (zI a)):=((uO rC (zI kk)).set 1 (zI a)).congr fun i hi=>(by match i,hi with | 0,_=>rfl | 1,_=>rfl);have BW:=(‹_/\_/\_/\zO w1 ((wC.setCell _ _).setCell _ _)›).2.2.2;clear HS HOP hbC hBC hzC rC n0 n1 l0 l1;generalize (wC.setCell (zH w1.heap.size 0) (zI kk)).setCell (zH w1.heap.size 1) (zI a)=W at *;obtain⟨bx,hbx⟩:∃bx,bx=w1.heap.size:=⟨_,rfl⟩;rw[<-hbx] at rb;rw[<-hbx];have hbxw:w1.heap.size<=bx:=(by omega);clear hbx)
 all_goals
  obtain⟨k0,M0,TB0,g0,c0⟩:=HK.out
  obtain⟨ho,K2,hm,hpc,hn,hc,hbe,hd,hcj,ha,hbp⟩:=HO.out
  have BWw:=HB2.out.trans (BW.mono HB2.out.size)
  have kW:=k0.below BWw
  have MW:=M0.below BWw.drew
  have TW:=TB0.below BWw.drew
  have ZQ:=BWw.size
  have hsl1:bd.zf.length=h.za[q].zf.length:=by rw[hcj,ha.zf,List.length_map]
  have hs6:bd.zf.length<=6:=by have:=c0.s;omega
  have zcF:=((kW.lv (.body q)) hjl).1
  have QQ:=((kW.lv (.zf q)) hjl).1
  rw[hbe,hd] at zcF
  rw[hbe] at QQ
  obtain⟨sa,sc,Ux,_⟩:=QQ.slice
  rw[Ux] at QQ
  have Ja:Bx W d 186 [zI bd.m,zI bd.pc,(P.T q).1,(P.T q).2,.bool bd.zv]:=zcF
  rw[Ux,hbp] at Ja
  clear y0 z0 z1
  have y0:=kW.run.cell 0 rfl
  have y4:=kW.run.cell 4 rfl
  have yf4:=kW.run.frozen 4
  have z1:=Ja.cell 1 rfl
  have z3:=Ja.cell 3 rfl
  have Wc:=Ja.frozen 1
  have zf3:=Ja.frozen 3
  obtain⟨⟨q0,q1⟩,_⟩:=zZ rb
  have hDW:d<W.heap.size:=zcF.lt
  have zdL:br<W.heap.size:=kW.run.lt
  have hbxW:bx<W.heap.size:=rb.lt
  have HS2:∀w',zO W w'->(w'.cell? (zH br 0)=some (.slice ap ms.length cp)/\w'.cell? (zH bx 0)=some (zI kk)/\w'.cell? (zH bx 1)=some (zI a)/\w'.cell? (zH d 3)=some (.slice sa bd.zf.length sc)):=fun w' hb=>⟨zc hb y0,zc hb q0,zc hb q1,zc hb z3⟩
  have HE2:Hid (∀w4,zO W w4->qH ms h={h with code:=2}->((w4.cell? (zH br 4)=some (zI h.code)/\w4.frozen? (zH br 4)=false)/\qv B bl br (.slice ap ms.length cp) ce np w (qH ms h) (w4.setCell (zH br 4) (zI 2)))):=fun w4 hb e=>by
   have k4:=kW.below hb
   refine⟨⟨k4.run.cell 4 rfl,k4.run.frozen 4⟩,?_⟩
   rw[e]
   exact⟨_,P,vsd,k4.code 2,((BWw.mono hB).trans (hb.mono (by omega))).setCell (p:=zH br 4) k4.bbr _⟩
  cases fd
  ·have hlp:ms[m].2.2.length<=pc:=by simpa using K2
   have e0:ms[m].2.2.getD pc (0,0)=(0,0):=by rw[List.getD_eq_getElem?_getD,List.getElem?_eq_none hlp];rfl
   rw[e0] at ho
   injection ho with ek ea
   have HR2:Hid (qH ms h={h with code:=2}):=KP hn hj hm hpc wX hlp
   have HTKH:Hid (Calls Tryz.prog 128 #[.agg #[.slice ap ms.length cp],.agg #[zI kk,zI a],.slice sa bd.zf.length sc] W.drew fun e w'=>∃v',e=.returned (.tuple #[v',.bool true])/\zk W.drew.heap.size w' v' (bd.zf.drop bd.zf.length)/\Below W.drew.heap.size W.drew w'):=by
    rw[<-ek,<-ea]
    exact Zh (B:=B) (.slice ap ms.length cp) ms g0.head.p 0 0 0 0 (by rw[je (by decide)];rfl) sa sc bd.zf W.drew MW TW QQ hs6 (L:=bd.zf.length) (by omega) (by omega) (by rw[List.drop_length];rfl)
   clear k0 M0 TB0 g0 c0 kW MW TW QQ HK HO ek ea e0 hlp hm hpc hn hc Ux K2 y4 yf4 z1 Wc zf3 hs6 hbe hd hcj ha hbp zcF Ja hsl1
   go_upto_region 2 with fail
   go_region_held3 (fun w'=>w'.cell? (zH br 0)=some (.slice ap ms.length cp)/\w'.cell? (zH bx 0)=some (zI kk)/\w'.cell? (zH bx 1)=some (zI a)/\w'.cell? (zH d 3)=some (.slice sa bd.zf.length sc))
    ((refine HS2 _ ?_;first | (with_reducible exact zS.drew) | (with_reducible exact hB4) | (with_reducible exact Below.refl _ _)))
    (first | (go_at_call 128;refine HTKH.out.mono ?_;rintro e w4 ⟨v4,rfl,Ko,Yg⟩;have hB4:zO W w4:=zS.drew.trans Yg))
   all_goals
    obtain⟨⟨v0,vf0⟩,hE⟩:=HE2.out _ hB4 HR2.out
    go_wp2
    exact bodyPost_ret (results_none rfl _ _ _) rfl ⟨rfl,hE⟩
  ·have hpl:pc<ms[m].2.2.length:=by simpa using K2
   rw[yn hpl] at ho
   obtain⟨t,l,ht⟩:∃t l,yv ms kk a=(t,l):=⟨_,_,rfl⟩
   have HTB:=Zi g0.head.p kk a
   rw[ht] at HTB
   simp only[] at HTB
   have hst2:∀n,h.za[q].zf.drop n=(bd.zf.drop n).map (yQ P.L.ze):=fun n=>by rw[hcj,ha.zf,List.map_drop]
   by_cases hbad:((h.za[q].zf.length:Int) - t<0\/6<(h.za[q].zf.length:Int) - t+l)\/qK kk (h.za[q].zf.drop ((h.za[q].zf.length:Int) - t).toNat)=false
   ·have ze5:((bd.zf.length:Int) - t<0\/6<(bd.zf.length:Int) - t+l)\/qK kk (bd.zf.drop ((bd.zf.length:Int) - t).toNat)=false:=by
     rw[hst2,Je,<-hsl1] at hbad
     exact hbad
    have HTKH:Hid (Calls Tryz.prog 128 #[.agg #[.slice ap ms.length cp],.agg #[zI kk,zI a],.slice sa bd.zf.length sc] W.drew fun e w'=>e=.returned (.tuple #[zQ,.bool false])/\Below W.drew.heap.size W.drew w'):=KQ (B:=B) (.slice ap ms.length cp) ms g0.head.p kk a t l ht sa sc bd.zf W.drew MW TW QQ hs6 ze5
    have HR2:Hid (qH ms h={h with code:=2}):=by
     show _=_
     rw[Xj hn hj hm hpc wX hpl ho ht]
     by_cases q:(h.za[q].zf.length:Int) - t<0\/6<(h.za[q].zf.length:Int) - t+l
     ·rw[if_pos q]
     ·rw[if_neg q]
      rcases hbad with hb | hb
      ·exact absurd hb q
      ·rw[if_pos hb]
    clear k0 M0 TB0 g0 c0 kW MW TW QQ HK HO ho ht HTB hbad ze5 hpl hm hpc hn hc Ux K2 y4 yf4 z1 Wc zf3 hs6 hbe hd hcj ha hbp zcF Ja hsl1 hst2
    go_upto_region 2 with fail
    go_region_held3 (fun w'=>w'.cell? (zH br 0)=some (.slice ap ms.length cp)/\w'.cell? (zH bx 0)=some (zI kk)/\w'.cell? (zH bx 1)=some (zI a)/\w'.cell? (zH d 3)=some (.slice sa bd.zf.length sc))
     ((refine HS2 _ ?_;first | (with_reducible exact zS.drew) | (with_reducible exact hB4) | (with_reducible exact Below.refl _ _)))
     (first | (go_at_call 128;refine HTKH.out.mono ?_;rintro e w4 ⟨rfl,Yg⟩;have hB4:zO W w4:=zS.drew.trans Yg))
    all_goals
     obtain⟨⟨v0,vf0⟩,hE⟩:=HE2.out _ hB4 HR2.out
     go_wp2
     exact bodyPost_ret (results_none rfl _ _ _) rfl ⟨rfl,hE⟩
   ·obtain⟨yL,hkb⟩:=not_or.1 hbad
    have Qx:qK kk (h.za[q].zf.drop ((h.za[q].zf.length:Int) - t).toNat)=true:=by simpa using hkb
    obtain⟨L,hL⟩:∃L:Nat,(h.za[q].zf.length:Int) - t=(L:Int):=⟨((h.za[q].zf.length:Int) - t).toNat,by omega⟩
    have hLn:L<=bd.zf.length:=by omega
    have d0:=Wq g0 hc hn hj hm hpc wX hpl ho ht yL Qx
    have HSE:Hid (qH ms h=doH ms {h with za:=h.za.set q {h.za[q] with zf:=h.za[q].zf.take L,pc:=(pc:Int)+1}} kk a (h.za[q].zf.drop L)):=by
     show _=_
     rw[Xj hn hj hm hpc wX hpl ho ht,if_neg yL,hL,Int.toNat_natCast]
     rw[hL,Int.toNat_natCast] at Qx
     rw[if_neg (by rw[Qx];decide)]
    rw[hL,Int.toNat_natCast] at Qx d0
    rw[hst2] at Qx d0 HSE
    rw[Je] at Qx
    rw[hcj] at d0 HSE
    have HTKH:Hid (Calls Tryz.prog 128 #[.agg #[.slice ap ms.length cp],.agg #[zI kk,zI a],.slice sa bd.zf.length sc] W.drew fun e w'=>∃v',e=.returned (.tuple #[v',.bool true])/\zk W.drew.heap.size w' v' (bd.zf.drop L)/\Below W.drew.heap.size W.drew w'):=Zh (B:=B) (.slice ap ms.length cp) ms g0.head.p kk a t l ht sa sc bd.zf W.drew MW TW QQ hs6 (by omega) (by omega) Qx
    have hDRl:(bd.zf.drop L).length=bd.zf.length - L:=by simp
    have hsc:L<=sc:=(QQ.piece (l:=0) (k:=L) zY hLn).2
    have hto:∀W,(Instr.slice 32 (.slice sa bd.zf.length sc) none (some (zI (L:Int))) none).run Tryz.prog W=.ok (.slice sa L sc) W:=fun W=>by rw[<-Jk sa L sc];exact zez W sa _ sc L hsc
    have HN:Hid (pc+1<=14/\1<=kk/\kk<=18):=⟨by have:=(jR g0.head.p wX).few;omega,d0.kind⟩
    have HD:Hid (jX ms {h with za:=h.za.set q {cc with zf:=cc.zf.take L,pc:=(pc:Int)+1}} q kk a ((bd.zf.drop L).map (yQ P.L.ze))):=d0
    have km:Qm P.L.ze.length (bd.zf.drop L):=fun v hv=>ha.vs v (List.mem_of_mem_drop hv)
    have HKW:Hid (RV B (zu ρ w .other) W P bl br (.slice ap ms.length cp) vsd ce np h/\(P.T q).2=.slice sa bd.zf.length sc/\P.L.zj[q]=bd/\P.D q=d/\Ym P.L.ze bd cc/\L<=bd.zf.length):=⟨kW,Ux,hbe,hd,ha,hLn⟩
    generalize hDR:bd.zf.drop L=DR at *
    have hwl:IntKind.i64.wrap ((bd.zf.length:Int) - (DR.length:Int))=(L:Int):=by rw[IntKind.wrap_i64];omega
    have hwp:IntKind.i64.wrap ((pc:Int)+1)=(pc:Int)+1:=by rw[IntKind.wrap_i64];have:=HN.out.1;omega
    clear k0 M0 TB0 g0 c0 kW MW TW QQ HK HO ho ht HTB hbad hpl hm hpc hn hc Ux K2 hkb Qx yL d0 hDR hsc hDRl HE2 hbe hd hcj ha hbp zcF Ja hsl1 hst2 hL hLn y4 yf4
    go_upto_region 2 with fail
    go_region_held3 (fun w'=>w'.cell? (zH br 0)=some (.slice ap ms.length cp)/\w'.cell? (zH bx 0)=some (zI kk)/\w'.cell? (zH bx 1)=some (zI a)/\w'.cell? (zH d 3)=some (.slice sa bd.zf.length sc))
     ((refine HS2 _ ?_;first | (with_reducible exact zS.drew) | (with_reducible exact hB4) | (with_reducible exact Below.refl _ _)))
     (first | (go_at_call 128;refine HTKH.out.mono ?_;rintro e w4 ⟨v4,rfl,Ko,Yg⟩;have hB4:zO W w4:=zS.drew.trans Yg;obtain⟨a4,c4,hv4,_⟩:=Ko.slice;subst hv4))
    all_goals
     obtain⟨kW,Ux,hbe,hd,ha,hLn⟩:=HKW.out
     have k4:=kW.below hB4
     have hz4:=hB4.size
     obtain⟨y0',q0',q1',z3'⟩:=HS2 _ hB4
     have z1':=zc hB4 z1
     have zf1':w4.frozen? (zH d 1)=false:=(World.frozen?_of_block (a:=⟨d,1,none⟩) (hB4.block d hDW)).trans Wc
     have zf3':w4.frozen? (zH d 3)=false:=(World.frozen?_of_block (a:=⟨d,3,none⟩) (hB4.block d hDW)).trans zf3
     obtain⟨T',hG⟩:=k4.lv.cutd hjl Ux (L:=L) (by rw[hbe];exact hLn) ((pc:Int)+1)
     rw[hbe,hd] at hG
     obtain⟨ρ6,k6,c6,b6⟩:=k4.turn HB1.out.1 HB1.out.2 (ha.cutd L ((pc:Int)+1)) rfl rfl hG
     clear hG
     have hD4:d<w4.heap.size:=by omega
     clear y0 z1 Wc z3 zf3 q0 q1 HS2
     go_wp2_with fail
     go_region
     go_upto_region 7 with fail
     have qF:bx≠d:=by omega
     have rb7:(((w4.setCell (zH d 3) (.slice sa L sc)).setCell (zH d 1) (zI ((pc:Int)+1))).drew).rowIs bx 70 2 (Jn (zI kk) (zI a)):=((yp hB4 rb).of_block (Below.heap_setCell _ _ _ _ qF)).of_block (Below.heap_setCell _ _ _ _ qF)
     have t4:Tk (fun g=>zu (zu ρ w .other) W .other g≠.other) w4 (.slice a4 DR.length c4) DR:=Tk.new (b:=W.heap.size) Ko (fun g hg=>Classical.byContradiction fun yz=>hg (qj (by omega)))
     have t6:=t4.keep c6
     have B6:Below B w ((w4.setCell (zH d 3) (.slice sa L sc)).setCell (zH d 1) (zI ((pc:Int)+1))):=((BWw.mono hB).trans (hB4.mono (by omega))).trans b6
     have E7:=HENV.out.go B6
     generalize (w4.setCell (zH d 3) (.slice sa L sc)).setCell (zH d 1) (zI ((pc:Int)+1))=W6 at *
     have k7:=k6.below (Below.refl W6.heap.size W6).drew
     have t7:=t6.keep (Ch.below (Below.refl W6.heap.size W6).drew _ ρ6 .other)
     obtain⟨K,hK,HDo⟩:=zdx k7 (E7.meths.below zS.drew) hnp hce hsl t7 km HD.out
     have hidx:=Jd HN.out.2 hK
     have hcall:=X6 HN.out.2 hK
     have HFIN:Hid (∀W,Below W6.drew.heap.size W6.drew W->Calls Tryz.prog K #[zJ br 0,zI a,.slice a4 DR.length c4] W fun e w'=>e=.returned (.tuple #[])/\qv B bl br (.slice ap ms.length cp) ce np w (qH ms h) w'):=fun W hbW=>by
      refine(HDo W hbW).mono ?_
      rintro e w9 ⟨h1,h2⟩
      rw[HSE.out]
      exact⟨h1,h2.first B6.drew⟩
     obtain⟨⟨n0,n1⟩,_⟩:=zZ rb7
     clear k4 k6 k7 kW t4 t6 t7 E7 HDo hK HD HSE HTKH HKW HN hto hwl hwp Ko hB4 Yg rb rb7 c6 b6 y0' q0' q1' z3' z1' zf1' zf3' ha Ux hbe hd
     go_region_law (first
      | (go_simp;go_at_call 129;refine(J9 _).mono ?_;rintro e w8 ⟨rfl,hb8⟩;have hB8:Below W6.drew.heap.size W6.drew w8:=zS.drew.trans hb8;have m0:=zc hB8 n0;have m1:=zc hB8 n1)
      | (go_simp;refine(HFIN.out _ hB8).mono ?_;rintro e w9 ⟨rfl,hE⟩))
     all_goals exact bodyPost_end (results_none rfl _ _ _) rfl ⟨rfl,hE⟩
variable {B:Nat} {ρ ρ':Nat->Rl} {w w':World} {P:Lay} {bl br:Nat} {vp vsd:Value} {ce:Int} {np:Nat} {h h':Hp}
theorem zau (k:RV B ρ w P bl br vp vsd ce np h) {ms:Ms} (Qt:Yn B w vp ms) (g:Good ms h) (hnp:np<=900) (hce:-1000000<=ce/\ce<=1000000) (n:Nat) (hsl:h.zm.length+n<=2900000) :
 Calls Tryz.prog 47 #[zJ br 0,zI n] w fun e w'=>e=.returned (.tuple #[])/\qv B bl br vp ce np w (zV ms n h) w':=by
 have HK:Hid (Yn B w vp ms/\Good ms h):=⟨Qt,g⟩
 have HL:Hid (qv B bl br vp ce np w (zV ms 0 h) w):=⟨ρ,P,vsd,k,zS⟩
 clear k Qt g
 go_enter Tryz.func47,Tryz.ntmps47
 go_wp2
 go_loopg [4] n (fun gm i wr=>∃q:Nat,q<=n/\gm=n - q/\i=zI q/\qv B bl br vp ce np w (zV ms q h) wr)
 case atStart=>exact⟨0,Nat.zero_le _,rfl,rfl,HL.out⟩
 case round =>
  obtain⟨q,hq,rfl,rfl,hE⟩:=hrel
  obtain⟨ρ',P',YZ,k',b'⟩:=hE
  have gq:=Good.run q h HK.out.2
  have y4:=k'.run.cell 4 rfl
  by_cases yz:q<n
  ·have hqz:(q:Int)<(n:Int):=by omega
   by_cases hc:(zV ms q h).code=0
   ·have HS:=zbH k' (HK.out.1.go b') gq hc hnp hce (by have:=KN ms q h;omega)
    have HQ:Hid (∀w2,qv B bl br vp ce np wr (qH ms (zV ms q h)) w2->qv B bl br vp ce np w (zV ms (q+1) h) w2):=fun w2 hE2=>by
     rw[KL ms q h hc]
     exact hE2.first b'
    rw[hc] at y4
    clear k' gq hc b'
    go_wp2_with (go_at_call 87;refine HS.mono ?_;rintro e w2 ⟨rfl,hE2⟩)
    go_roundg (n - (q+1))
    case measure=>omega
    case rel=>exact⟨q+1,by omega,rfl,by go_num,HQ.out _ hE2⟩
   ·have hc':((zV ms q h).code == 0)=false:=zG.2 hc
    have HF:Hid (qv B bl br vp ce np w (zV ms n h) wr):=by
     show qv B bl br vp ce np w (zV ms n h) wr
     rw[KM ms n q h hq hc]
     exact⟨ρ',P',YZ,k',b'⟩
    clear k' gq hc b'
    go_wp2
    exact bodyPost_end (results_none rfl _ _ _) rfl ⟨rfl,HF.out⟩
  ·obtain rfl:q=n:=by omega
   have HF:Hid (qv B bl br vp ce np w (zV ms q h) wr):=⟨ρ',P',YZ,k',b'⟩
   clear k' gq b'
   go_wp2
   exact bodyPost_end (results_none rfl _ _ _) rfl ⟨rfl,HF.out⟩
structure Xp (ms:Ms) (m:Mc) (L:yF) (h:Hp):Prop where
 ok:kY ms m=true
 sim:jB 0 0 L h
 ord:qU L
 now:ZJ L h
 born:h.born=m.born
 zm:h.zm=m.zm
 code:h.code=m.code
 good:Good ms h
 cells:-1000000<=L.cells/\L.cells<=1000000
 zd:L.zd.length<=900
structure zbW (L L':yF) (h:Hp):Prop where
 sim:jB 0 0 L' h
 ord:qU L'
 now:ZJ L' h
 cells:L'.cells=L.cells
 zd:L'.zd.length=L.zd.length
def YG (t:Nat):jg:=⟨0,0,List.replicate t (0,0),[],false⟩
theorem zeN {n t:Nat} {c:Int} (hn:1<=n) (hn4:n<=4):VQ (yR n t c) (yR n t c).zd.length=xX c (n - 1) (yK n n) (YG t):=by
 have:n=1\/n=2\/n=3\/n=4:=by omega
 rcases this with rfl | rfl | rfl | rfl <;> rfl
theorem zbA {n:Nat} {c:Int} {b:jg} (hn:1<=n) (hn4:n<=4):qU (xX c (n - 1) (yK n n) b):=by
 have hl:(xX c (n - 1) (yK n n) b).zd.length=n:=by
  show(_ :: List.replicate (n - 1) _).length=n
  simp
  omega
 unfold qU
 rw[hl]
 show(yK n n).Perm _
 have:n=1\/n=2\/n=3\/n=4:=by omega
 clear hl hn hn4
 rcases this with rfl | rfl | rfl | rfl <;> decide
theorem zbF {ms:Ms} {n:Nat} {c:Int} (hp:yr ms=true) (hr:qW (n:Int) c=true):Xp ms (yR n (yx ms) c) (xX c (n - 1) (yK n n) (YG (yx ms))) (kZ ms):=by
 obtain⟨h1,h4,hc1,hc4⟩:=kI hr
 have hn:1<=n:=by omega
 have hn4:n<=4:=by omega
 have ha:Ym [] (YG (yx ms)) ⟨0,0,List.replicate (yx ms) (0,0),[],-1,false⟩:=by
  refine⟨rfl,rfl,rfl,?_,rfl,fun v hv h2=>?_,fun v hv=>by cases hv⟩
  ·show List.replicate _ _=(List.replicate _ _).map _
   rw[List.map_replicate]
   rfl
  ·have:v=(0,0):=(List.mem_replicate.1 hv).2
   rw[this] at h2
   cases h2
 obtain⟨hs,hw⟩:=zda (cells:=c) (n:=n - 1) (ord:=yK n n) (b:=YG (yx ms)) ha rfl rfl 1 0 []
 refine⟨zd8 hp hr,?_,zbA hn hn4,?_,?_,?_,?_,Q5.1 (zd7 hp),⟨by show -1000000<=c;omega,by show c<=1000000;omega⟩,?_⟩
 ·rw[uz hp];exact hs
 ·rw[uz hp];exact hw
 ·rw[uz hp];rfl
 ·rw[uz hp];rfl
 ·rw[uz hp];rfl
 ·show(_ :: List.replicate (n - 1) _).length<=900
  simp
  omega
end Go.Proofs.YtbjgjjkgfnfejaaGreatDoor
