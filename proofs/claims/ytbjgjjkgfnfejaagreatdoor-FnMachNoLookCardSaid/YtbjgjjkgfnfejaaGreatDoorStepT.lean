/-
  One operation of a heap, in plain words, and that an ok heap stays ok. Nothing of the translation is used here.
-/
import Derived.Test.YtbjgjjkgfnfejaaGreatDoorHWait
import Derived.Test.YtbjgjjkgfnfejaaGreatDoorTakes2
namespace Go.Proofs.YtbjgjjkgfnfejaaGreatDoor
abbrev Ms:=zM
def qm (h:Hp):Cl:=h.ze.getD h.now.toNat Cl.none
def setH (h:Hp) (c:Cl):Hp:={h with ze:=h.ze.set h.now.toNat c}
def qK (h:Hp) (v:Int × Int):Hp:=setH h {qm h with zf:=(qm h).zf ++ [v]}
def u9 (c:Cl):Cl:={c with zf:=[],zi:=-1,zy:=true}
def yo (h:Hp):Hp:={setH h (u9 (qm h)) with now:=(qm h).zi}
def Up (h:Hp) (v:Int × Int):Int × Int:=if v.1=2 then(2,(h.ze.getD v.2.toNat Cl.none).m) else v
def YV (h:Hp) (v:Int × Int):Hp:={h with zm:=h.zm ++ [Up h v]}
def Zf (h:Hp) (k:Int):Hp:={h with code:=k}
def Yf (ms:Ms) (h:Hp) (m:Int) (args:yH):Hp :=
 if 30<=h.born then Zf h 3
 else {h with ze:=h.ze ++ [⟨m,0,args ++ List.replicate ((ms.getD m.toNat (0,0,[])).2.1.toNat - args.length) (0,0),[],h.now,false⟩],now:=h.ze.length,born:=h.born+1}
def zcC (h:Hp) (v:Int × Int):Hp :=
 if(qm h).zi<0 then Zf (YV (yo h) v) 1 else qK (yo h) v
def qo:Nat->Hp->Nat->Hp
 | 0,h,_=>h
 | f+1,h,b=>if h.now=b then h else qo f (yo h) b
def Ut (h:Hp) (b:Nat) (v:Int × Int):Hp :=
 if(h.ze.getD b Cl.none).zy then Zf h 2 else qK (qo h.ze.length h b) v
def J2 (b:Bool):Int × Int:=(1,if b then 1 else 0)
def QC (h:Hp) (k a:Int) (at_:Nat):Int × Int :=
 let c:=h.ze.getD at_ Cl.none
 if k=12 then(if 0<=c.zi then(2,c.zi) else(0,0))
 else if k=13 then c.zh.getD a.toNat (0,0)
 else if k=17 then J2 c.zy
 else(1,c.pc)
def qZ (k:Int) (args:yH):Bool :=
 if k=5 then(args.getD 0 (0,0)).1 == 1 && (args.getD 1 (0,0)).1 == 1
 else if k=12\/k=13\/k=14\/k=15\/k=17\/k=18 then(args.getD 0 (0,0)).1 == 2
 else true
def YT (h:Hp) (at_:Nat) (a:Int) (v:Int × Int):Hp :=
 {h with ze:=h.ze.set at_ {h.ze.getD at_ Cl.none with zh:=(h.ze.getD at_ Cl.none).zh.set a.toNat v}}
def doH (ms:Ms) (h:Hp) (k a:Int) (args:yH):Hp :=
 let x:=args.getD 0 (0,0)
 let y:=args.getD 1 (0,0)
 if k=1 then qK h (1,a)
 else if k=5 then qK h (1,(x.2+y.2) % 1000)
 else if k=6 then qK h (J2 (decide (x=y)))
 else if k=2 then qK h ((qm h).zh.getD a.toNat (0,0))
 else if k=3 then setH h {qm h with zh:=(qm h).zh.set a.toNat x}
 else if k=7 then setH h {qm h with pc:=a}
 else if k=8 then(if x.1=0\/x=(1,0) then setH h {qm h with pc:=a} else h)
 else if k=9 then Yf ms h a args
 else if k=10 then zcC h x
 else if k=11 then qK h (2,h.now)
 else if k=12\/k=13\/k=17\/k=18 then qK h (QC h k a x.2.toNat)
 else if k=14 then YT h x.2.toNat a y
 else if k=15 then Ut h x.2.toNat y
 else if k=16 then YV h x
 else h
def xZ (ms:Ms) (c:Cl):Int × Int:=(ms.getD c.m.toNat (0,0,[])).2.2.getD c.pc.toNat (0,0)
def xU (ms:Ms) (h:Hp):Hp :=
 let c:=qm h
 let op:=xZ ms c
 let t:=yx ms op.1 op.2
 let left:=(c.zf.length:Int) - t.1
 if((ms.getD c.m.toNat (0,0,[])).2.2.length:Int)<=c.pc then Zf h 2
 else if left<0\/6<left+t.2 then Zf h 2
 else if qZ op.1 (c.zf.drop left.toNat)=false then Zf h 2
 else doH ms (setH h {c with zf:=c.zf.take left.toNat,pc:=c.pc+1}) op.1 op.2 (c.zf.drop left.toNat)
def qi (ms:Ms):Nat->Hp->Hp
 | 0,h=>h
 | n+1,h=>if h.code=0 then qi ms n (xU ms h) else h
theorem JY {cs cs':List Cl} (hl:cs'.length=cs.length) (h:∀i,(hi:i<cs.length)->(cs'[i]'(by omega)).zy=cs[i].zy/\(cs'[i]'(by omega)).zi=cs[i].zi):∀(f:Nat) (a:Int),qh cs' f a=qh cs f a
 | 0,a=>rfl
 | f+1,a=>by
  simp only[qh]
  by_cases ha:a<0
  ·rw[if_pos ha,if_pos ha]
  ·rw[if_neg ha,if_neg ha]
   by_cases hn:a.toNat<cs.length
   ·rw[dif_pos hn,dif_pos (by omega),(h _ hn).1,(h _ hn).2,JY hl h f]
   ·rw[dif_neg hn,dif_neg (by omega)]
theorem uE {cs:List Cl}:∀(l:List Nat) (f f':Nat) (a:Int),qh cs f a=some l->l.length<=f'->qh cs f' a=some l
 | [],f,f',a,h,_=>by
  by_cases ha:a<0
  ·exact yN ha
  ·obtain⟨g,n,hn,t,_,_,e,_⟩:=xi h (by omega)
   cases e
 | k :: l,f,f',a,h,hl=>by
  by_cases ha:a<0
  ·rw[yN ha] at h;cases h
  ·obtain⟨g,n,hn,t,_,rfl,e,hd,ht⟩:=xi h (by omega)
   cases e
   obtain⟨f'',rfl⟩:∃f'',f'=f''+1:=⟨f' - 1,by simp at hl;omega⟩
   rw[xQ hn hd,uE l g f'' _ ht (by simpa using hl)]
   rfl
theorem U6 {cs:List Cl} {j:Nat} (c:Cl):∀(l:List Nat) (f:Nat) (a:Int),qh cs f a=some l->j∉l->qh (cs.set j c) f a=some l
 | [],f,a,h,_=>by
  by_cases ha:a<0
  ·exact yN ha
  ·obtain⟨g,n,hn,t,_,_,e,_⟩:=xi h (by omega)
   cases e
 | k :: l,f,a,h,hj=>by
  by_cases ha:a<0
  ·rw[yN ha] at h;cases h
  ·obtain⟨g,n,hn,t,rfl,rfl,e,hd,ht⟩:=xi h (by omega)
   cases e
   have xp:j≠k:=fun e=>hj (by rw[e];exact List.mem_cons_self)
   have hk':k<(cs.set j c).length:=by simpa using hn
   have he:(cs.set j c)[k]=cs[k]:=List.getElem_set_ne xp _
   rw[xQ hk' (by rw[he];exact hd),he,U6 c l g _ ht (fun e=>hj (List.mem_cons_of_mem _ e))]
   rfl
theorem XF {cs:List Cl} (c:Cl):∀(l:List Nat) (f:Nat) (a:Int),qh cs f a=some l->qh (cs ++ [c]) f a=some l
 | [],f,a,h=>by
  by_cases ha:a<0
  ·exact yN ha
  ·obtain⟨g,n,hn,t,_,_,e,_⟩:=xi h (by omega)
   cases e
 | k :: l,f,a,h=>by
  by_cases ha:a<0
  ·rw[yN ha] at h;cases h
  ·obtain⟨g,n,hn,t,rfl,rfl,e,hd,ht⟩:=xi h (by omega)
   cases e
   have hk':k<(cs ++ [c]).length:=by simp;omega
   have he:(cs ++ [c])[k]=cs[k]:=List.getElem_append_left hn
   rw[xQ hk' (by rw[he];exact hd),he,XF c l g _ ht]
   rfl
structure xj (cs:List Cl) (now:Int) (l:List Nat):Prop where
 ch:∃f,qh cs f now=some l
 all:∀k,(hk:k<cs.length)->cs[k].zy=false->k∈l
 room:∀k∈l.drop 1,∀hk:k<cs.length,cs[k].zf.length<6
theorem xj.nodup {cs:List Cl} {now:Int} {l:List Nat} (h:xj cs now l):l.Nodup:=by
 obtain⟨f,hf⟩:=h.ch
 exact Zt _ _ _ hf
theorem xj.mem {cs:List Cl} {now:Int} {l:List Nat} (h:xj cs now l) {k:Nat} (hk:k∈l):∃h:k<cs.length,cs[k].zy=false:=by
 obtain⟨f,hf⟩:=h.ch
 exact XG _ _ _ hf k hk
theorem xj.len {cs:List Cl} {now:Int} {l:List Nat} (h:xj cs now l):l.length<=cs.length:=by
 have:=xX l (List.range cs.length) h.nodup (fun k hk=>List.mem_range.2 (h.mem hk).1)
 simpa using this
theorem xj.chain {cs:List Cl} {now:Int} {l:List Nat} (h:xj cs now l):xL cs now=l:=by
 obtain⟨f,hf⟩:=h.ch
 unfold xL
 rw[uE l f cs.length now hf h.len]
 rfl
structure ClP (ms:Ms) (n:Nat) (c:Cl):Prop where
 m:0<=c.m/\c.m<(ms.length:Int)
 pc:0<=c.pc/\c.pc<=((ms.getD c.m.toNat (0,0,[])).2.2.length:Int)
 t:(c.zh.length:Int)=(ms.getD c.m.toNat (0,0,[])).2.1
 s:c.zf.length<=6
 sd:-1<=c.zi/\c.zi<(n:Int)
 vt:yI n c.zh=true
 vs:yI n c.zf=true
 dd:c.zy=true->c.zi=-1/\c.zf=[]
theorem zap {ms:Ms} {n:Nat} {c:Cl}:kf ms n c=true ↔ ClP ms n c:=by
 simp only[kf,Bool.and_eq_true,zx,decide_eq_true_iff]
 constructor
 ·rintro⟨⟨⟨⟨h1,h2⟩,h3⟩,h4⟩,⟨⟨⟨h5,h6⟩,h7⟩,h8⟩⟩
  refine⟨by omega,h2,h3,h4,by omega,h6,h7,fun hd=>?_⟩
  rw[hd] at h8
  simp at h8
  exact h8
 ·rintro⟨h1,h2,h3,h4,h5,h6,h7,h8⟩
  refine⟨⟨⟨⟨by omega,h2⟩,h3⟩,h4⟩,⟨⟨⟨by omega,h6⟩,h7⟩,?_⟩⟩
  cases hd:c.zy
  ·rfl
  ·obtain⟨e1,e2⟩:=h8 hd
   simp[e1,e2]
theorem zcQ {n n':Nat} (hn:n<=n') {k a:Int} (h:qW n k a=true):qW n' k a=true:=by
 unfold qW at h ⊢
 split at h
 ·rename_i e;rw[if_pos e];exact h
 ·rename_i e;rw[if_neg e]
  split at h
  ·rename_i e1;rw[if_pos e1];exact h
  ·rename_i e1;rw[if_neg e1]
   split at h
   ·rename_i e2;rw[if_pos e2];rw[zx] at h ⊢;omega
   ·cases h
theorem vj {n:Int} {l:yH}:yI n l=true ↔ ∀v∈l,qW n v.1 v.2=true:=by
 unfold yI
 rw[List.all_eq_true]
theorem Qc {n n':Nat} (hn:n<=n') {l:yH} (h:yI n l=true):yI n' l=true:=by
 rw[vj] at h ⊢
 exact fun v hv=>zcQ hn (h v hv)
theorem ClP.mono {ms:Ms} {n n':Nat} {c:Cl} (h:ClP ms n c) (hn:n<=n'):ClP ms n' c :=
 ⟨h.m,h.pc,h.t,h.s,by have:=h.sd;omega,Qc hn h.vt,Qc hn h.vs,h.dd⟩
structure zgt (ms:Ms) (h:Hp):Prop where
 p:yn ms=true
 now:-1<=h.now/\h.now<(h.ze.length:Int)
 born:1<=h.born/\h.born<=30
 few:(h.ze.length:Int)<=h.born
 code:0<=h.code/\h.code<=3
 zm:yI ms.length h.zm=true
 fin:h.code=1 ↔ h.now<0
theorem KW {ms:Ms} {h:Hp}:KV ms h=true ↔ zgt ms h:=by
 simp only[KV,Bool.and_eq_true,zx,decide_eq_true_iff]
 constructor
 ·rintro⟨⟨⟨⟨⟨⟨h1,h2⟩,h3⟩,h4⟩,h5⟩,h6⟩,h7⟩
  refine⟨h1,by omega,h3,h4,h5,h6,?_⟩
  simp only[beq_iff_eq] at h7
  by_cases e:h.code=1
  ·rw[beq_iff_eq.2 e] at h7
   exact⟨fun _=>of_decide_eq_true h7.symm,fun _=>e⟩
  ·rw[zG.2 e] at h7
   exact⟨fun q=>absurd q e,fun q=>absurd q (of_decide_eq_false h7.symm)⟩
 ·rintro⟨h1,h2,h3,h4,h5,h6,h7⟩
  refine⟨⟨⟨⟨⟨⟨h1,by omega⟩,h3⟩,h4⟩,h5⟩,h6⟩,?_⟩
  simp only[beq_iff_eq]
  by_cases e:h.code=1
  ·rw[beq_iff_eq.2 e,decide_eq_true (h7.1 e)]
  ·rw[zG.2 e,decide_eq_false (fun q=>e (h7.2 q))]
structure Good (ms:Ms) (h:Hp):Prop where
 head:zgt ms h
 cl:∀i,(hi:i<h.ze.length)->ClP ms h.ze.length h.ze[i]
 w:∃l,xj h.ze h.now l
theorem zag (cs:List Cl):(ZY cs).Nodup:=by
 unfold ZY
 exact List.Pairwise.filter _ List.nodup_range
theorem zaC {ms:Ms} {h:Hp}:KX ms h=true ↔ Good ms h:=by
 unfold KX
 simp only[Bool.and_eq_true]
 constructor
 ·rintro⟨⟨h1,h2⟩,h3⟩
  have hh:=KW.1 h1
  have hc:∀i,(hi:i<h.ze.length)->kf ms h.ze.length h.ze[i]=true:=fun i hi=>List.all_eq_true.1 h2 _ (List.getElem_mem hi)
  refine⟨hh,fun i hi=>zap.1 (hc i hi),xL h.ze h.now,?_⟩
  unfold zat at h3
  simp only[Bool.and_eq_true,Bool.or_eq_true,decide_eq_true_iff,beq_iff_eq] at h3
  obtain⟨⟨e1,e2⟩,e3⟩:=h3
  have hall:∀k,(hk:k<h.ze.length)->h.ze[k].zy=false->k∈xL h.ze h.now:=fun k hk hd=>zdr e2 hk hd
  refine⟨?_,hall,fun k hk hkl=>?_⟩
  ·cases hw:qh h.ze h.ze.length h.now with
   | some l=>exact⟨_,by unfold xL;rw[hw];rfl⟩
   | none =>
    exfalso
    by_cases hn:h.now<0
    ·rw[yN hn] at hw;cases hw
    ·have yt:h.now.toNat<h.ze.length:=by have:=hh.now;omega
     rcases e1 with e1 | e1
     ·exact hn e1
     ·have hd:h.ze[h.now.toNat].zy=false:=by simpa [yt] using e1
      have:=hall _ yt hd
      unfold xL at this
      rw[hw] at this
      cases this
  ·unfold zde at e3
   rw[List.all_eq_true] at e3
   have:=e3 k hk
   simpa [hkl] using this
 ·rintro⟨h1,h2,l,hw⟩
  refine⟨⟨KW.2 h1,XT fun i hi=>zap.2 (h2 i hi)⟩,?_⟩
  unfold zat
  simp only[Bool.and_eq_true,Bool.or_eq_true,decide_eq_true_iff,beq_iff_eq]
  rw[hw.chain]
  refine⟨⟨?_,?_⟩,?_⟩
  ·by_cases hn:h.now<0
   ·exact .inl hn
   ·obtain⟨f,hf⟩:=hw.ch
    obtain⟨g,n,hnl,t,_,e,_,hd,_⟩:=xi hf (by omega)
    refine .inr ?_
    rw[e]
    simp[hnl,hd]
  ·rw[<-KB]
   have a1:=xX l (ZY h.ze) hw.nodup (fun k hk=>Ql.2 (hw.mem hk))
   have a2:=xX (ZY h.ze) l (zag _) (fun k hk=>by obtain⟨q1,q2⟩:=Ql.1 hk;exact hw.all k q1 q2)
   omega
  ·unfold zde
   rw[List.all_eq_true]
   intro k hk
   obtain⟨hkl,_⟩:=hw.mem (List.mem_of_mem_drop hk)
   have:=hw.room k hk hkl
   simpa [hkl] using this
theorem xj.head {cs:List Cl} {j:Nat} {l:List Nat} (h:xj cs (j:Int) l):∃(hj:j<cs.length) (t:List Nat),l=j :: t/\cs[j].zy=false/\(∃f,qh cs f cs[j].zi=some t)/\j∉t:=by
 have hn:=h.nodup
 obtain⟨f,hf⟩:=h.ch
 obtain⟨g,n,hnl,t,_,e,e2,hd,ht⟩:=xi hf (by omega)
 obtain rfl:j=n:=by omega
 subst e2
 exact⟨hnl,t,rfl,hd,⟨g,ht⟩,(List.nodup_cons.1 hn).1⟩
theorem xj.set_like {cs:List Cl} {now:Int} {l:List Nat} (h:xj cs now l) (j:Nat) (hj:j<cs.length) (c:Cl) (hd:c.zy=cs[j].zy) (hs:c.zi=cs[j].zi) (hr:j∈l.drop 1->c.zf.length<6):xj (cs.set j c) now l:=by
 have hl:(cs.set j c).length=cs.length:=by simp
 have key:∀i,(hi:i<cs.length)->((cs.set j c)[i]'(by omega)).zy=cs[i].zy/\((cs.set j c)[i]'(by omega)).zi=cs[i].zi:=fun i hi=>by
  by_cases e:j=i
  ·subst e;simp[hd,hs]
  ·rw[List.getElem_set_ne e];exact⟨rfl,rfl⟩
 refine⟨?_,fun k hk hkd=>?_,fun k hk hkl=>?_⟩
 ·obtain⟨f,hf⟩:=h.ch
  exact⟨f,by rw[JY hl key];exact hf⟩
 ·rw[hl] at hk
  exact h.all k hk (by rw[<-(key k hk).1];exact hkd)
 ·rw[hl] at hkl
  by_cases e:j=k
  ·subst e;simp only[List.getElem_set_self];exact hr hk
  ·rw[List.getElem_set_ne e];exact h.room k hk hkl
theorem xj.set_cur {cs:List Cl} {j:Nat} {l:List Nat} (h:xj cs (j:Int) l) (hj:j<cs.length) (c:Cl) (hd:c.zy=cs[j].zy) (hs:c.zi=cs[j].zi):xj (cs.set j c) (j:Int) l:=by
 obtain⟨_,t,rfl,_,_,hnt⟩:=h.head
 exact h.set_like j hj c hd hs (fun e=>absurd (by simpa using e) hnt)
theorem xj.leave {cs:List Cl} {j:Nat} {l:List Nat} (h:xj cs (j:Int) l) (hj:j<cs.length) (c:Cl) (hd:c.zy=true):∃t,l=j :: t/\xj (cs.set j c) cs[j].zi t/\∀k∈t,∀hk:k<cs.length,cs[k].zf.length<6:=by
 obtain⟨_,t,rfl,hjd,⟨f,hf⟩,hnt⟩:=h.head
 have hr:∀k∈t,∀hk:k<cs.length,cs[k].zf.length<6:=fun k hk hkl=>h.room k (by simpa using hk) hkl
 refine⟨t,rfl,⟨⟨f,U6 c t f _ hf hnt⟩,fun k hk hkd=>?_,fun k hk hkl=>?_⟩,hr⟩
 ·have hk':k<cs.length:=by simpa using hk
  by_cases e:j=k
  ·subst e;simp only[List.getElem_set_self] at hkd;rw[hd] at hkd;cases hkd
  ·rw[List.getElem_set_ne e] at hkd
   rcases List.mem_cons.1 (h.all k hk' hkd) with q | q
   ·exact absurd q.symm e
   ·exact q
 ·have hkt:=List.mem_of_mem_drop hk
  have e:j≠k:=fun e=>hnt (by rw[e];exact hkt)
  rw[List.getElem_set_ne e]
  exact hr k hkt (by simpa using hkl)
theorem xj.call {cs:List Cl} {j:Nat} {l:List Nat} (h:xj cs (j:Int) l) (hj:j<cs.length) (h6:cs[j].zf.length<6) (c:Cl) (hd:c.zy=false) (hs:c.zi=(j:Int)):xj (cs ++ [c]) (cs.length:Int) (cs.length :: l):=by
 have hn:cs.length<(cs ++ [c]).length:=by simp
 have he:(cs ++ [c])[cs.length]=c:=by simp
 obtain⟨_,t,hl,_⟩:=h.head
 refine⟨?_,fun k hk hkd=>?_,fun k hk hkl=>?_⟩
 ·obtain⟨f,hf⟩:=h.ch
  refine⟨f+1,?_⟩
  rw[xQ hn (by rw[he];exact hd),he,hs,XF c l f _ hf]
  rfl
 ·by_cases e:k<cs.length
  ·rw[List.getElem_append_left e] at hkd
   exact List.mem_cons_of_mem _ (h.all k e hkd)
  ·obtain rfl:k=cs.length:=by simp at hk;omega
   exact List.mem_cons_self
 ·have hkl':k∈l:=by simpa using hk
  obtain⟨JH,_⟩:=h.mem hkl'
  rw[List.getElem_append_left JH]
  subst hl
  rcases List.mem_cons.1 hkl' with q | q
  ·subst q;exact h6
  ·exact h.room k (by simpa using q) JH
theorem Xc (n:Int):qW n 0 0=true:=by simp[qW]
theorem ZP {n a:Int} (h0:0<=a) (h1:a<=999):qW n 1 a=true:=by
 unfold qW
 rw[if_neg (by decide),if_pos rfl,zx]
 exact⟨h0,h1⟩
theorem Jt {n:Nat} {a:Int} (h0:0<=a) (h1:a<(n:Int)):qW n 2 a=true:=by
 unfold qW
 rw[if_neg (by decide),if_neg (by decide),if_pos rfl,zx]
 omega
theorem VL {n:Nat} {a:Int} (h:qW n 2 a=true):0<=a/\a<(n:Int):=by
 unfold qW at h
 rw[if_neg (by decide),if_neg (by decide),if_pos rfl,zx] at h
 omega
theorem zcP {n n':Int} {k a:Int} (hk:k≠2) (h:qW n k a=true):qW n' k a=true:=by
 unfold qW at h ⊢
 split at h
 ·rename_i e;rw[if_pos e];exact h
 ·rename_i e;rw[if_neg e]
  split at h
  ·rename_i e1;rw[if_pos e1];exact h
  ·cases h
theorem U0 (n:Int) (b:Bool):qW n (J2 b).1 (J2 b).2=true:=by
 unfold J2
 cases b
 ·exact ZP (by decide) (by decide)
 ·exact ZP (by decide) (by decide)
theorem Ju {n:Int} {l:yH} (h:yI n l=true) (i:Nat):qW n (l.getD i (0,0)).1 (l.getD i (0,0)).2=true:=by
 by_cases hi:i<l.length
 ·rw[show l.getD i (0,0)=l[i] by simp[hi]]
  exact vj.1 h _ (List.getElem_mem hi)
 ·rw[show l.getD i (0,0)=(0,0) by simp[hi]]
  exact Xc n
theorem Zs {n:Int} {l l':yH} (h:yI n l=true) (h':yI n l'=true):yI n (l ++ l')=true:=by
 rw[vj] at *
 intro v hv
 rcases List.mem_append.1 hv with q | q
 ·exact h v q
 ·exact h' v q
theorem VO {n:Int} {v:Int × Int} (h:qW n v.1 v.2=true):yI n [v]=true:=by
 rw[vj]
 intro u hu
 simp at hu
 subst hu
 exact h
theorem zbC {n:Int} {l:yH} (h:yI n l=true) (i:Nat) {v:Int × Int} (hv:qW n v.1 v.2=true):yI n (l.set i v)=true:=by
 rw[vj] at *
 intro u hu
 rcases List.mem_or_eq_of_mem_set hu with q | q
 ·exact h u q
 ·subst q;exact hv
theorem zer {n:Int} {l:yH} (h:yI n l=true) (k:Nat):yI n (l.take k)=true:=by
 rw[vj] at *
 exact fun v hv=>h v (List.mem_of_mem_take hv)
theorem zeq {n:Int} {l:yH} (h:yI n l=true) (k:Nat):yI n (l.drop k)=true:=by
 rw[vj] at *
 exact fun v hv=>h v (List.mem_of_mem_drop hv)
theorem zcS (n:Int) (k:Nat):yI n (List.replicate k (0,0))=true:=by
 rw[vj]
 intro v hv
 rw[List.eq_of_mem_replicate hv]
 exact Xc n
structure MethP (ms:Ms) (m:zP):Prop where
 args:0<=m.1/\m.1<=2
 zh:m.1<=m.2.1/\m.2.1<=4
 few:m.2.2.length<=14
 ops:∀op∈m.2.2,jm ms.length m.2.2.length m.2.1 op.1 op.2=true
theorem vz {ms:Ms} (hp:yn ms=true) {m:Nat} (hm:m<ms.length):MethP ms ms[m]:=by
 unfold yn at hp
 simp only[Bool.and_eq_true] at hp
 have:=List.all_eq_true.1 hp.2 _ (List.getElem_mem hm)
 unfold qe at this
 simp only[Bool.and_eq_true,zx,decide_eq_true_iff] at this
 exact⟨this.1.1.1,this.1.1.2,this.1.2,fun op ho=>List.all_eq_true.1 this.2 op ho⟩
theorem set_cur {h:Hp} {j:Nat} (hn:h.now=j) (hj:j<h.ze.length) (c:Cl):qm (setH h c)=c:=by
 unfold qm setH
 simp[hn,hj]
theorem kw {h:Hp} {j:Nat} (hn:h.now=j) (hj:j<h.ze.length):qm h=h.ze[j]:=by
 unfold qm
 simp[hn,hj]
theorem Good.set {ms:Ms} {h:Hp} (g:Good ms h) {j:Nat} (_hj:j<h.ze.length) {c:Cl} (hc:ClP ms h.ze.length c) {l:List Nat} (hw:xj (h.ze.set j c) h.now l):Good ms {h with ze:=h.ze.set j c}:=by
 have hl:(h.ze.set j c).length=h.ze.length:=by simp
 refine⟨⟨g.head.p,by simp only[hl];exact g.head.now,g.head.born,by simp only[hl];exact g.head.few,g.head.code,g.head.zm,g.head.fin⟩,fun i hi=>?_,l,hw⟩
 simp only[hl] at hi ⊢
 by_cases e:j=i
 ·subst e;simp only[List.getElem_set_self];exact hc
 ·rw[List.getElem_set_ne e];exact g.cl i hi
theorem Good.cur {ms:Ms} {h:Hp} (g:Good ms h) {j:Nat} (hn:h.now=j) (hj:j<h.ze.length) {c:Cl} (hc:ClP ms h.ze.length c) (hd:c.zy=h.ze[j].zy) (hs:c.zi=h.ze[j].zi):Good ms (setH h c):=by
 obtain⟨l,hw⟩:=g.w
 unfold setH
 have e:h.now.toNat=j:=by omega
 rw[e]
 refine g.set hj hc (l:=l) ?_
 rw[hn] at hw ⊢
 exact hw.set_cur hj c hd hs
theorem Good.push {ms:Ms} {h:Hp} (g:Good ms h) {j:Nat} (hn:h.now=j) (hj:j<h.ze.length) (h6:h.ze[j].zf.length<6) {v:Int × Int} (hv:qW h.ze.length v.1 v.2=true) (hd:h.ze[j].zy=false):Good ms (qK h v):=by
 unfold qK
 rw[kw hn hj]
 have c:=g.cl j hj
 exact g.cur hn hj ⟨c.m,c.pc,c.t,by simp;omega,c.sd,c.vt,Zs c.vs (VO hv),fun q=>by rw[hd] at q;cases q⟩ rfl rfl
theorem Good.code {ms:Ms} {h:Hp} (g:Good ms h) (hn:0<=h.now) {k:Int} (hk:k=2\/k=3):Good ms (Zf h k) :=
 ⟨⟨g.head.p,g.head.now,g.head.born,g.head.few,by unfold Zf;simp only[];omega,g.head.zm,⟨fun e=>by unfold Zf at e;simp only[] at e;omega,fun e=>by unfold Zf at e;simp only[] at e;omega⟩⟩,g.cl,g.w⟩
theorem Good.die {ms:Ms} {h:Hp} (g:Good ms h) {j:Nat} (hj:j<h.ze.length):ClP ms h.ze.length (u9 h.ze[j]):=by
 have c:=g.cl j hj
 exact⟨c.m,c.pc,c.t,by simp[u9],by simp[u9];omega,c.vt,rfl,fun _=>⟨rfl,rfl⟩⟩
theorem Good.leave {ms:Ms} {h:Hp} (g:Good ms h) {j:Nat} (hn:h.now=j) (hj:j<h.ze.length) (hs:0<=h.ze[j].zi) (hc:h.code=0):Good ms (yo h):=by
 obtain⟨l,hw⟩:=g.w
 rw[hn] at hw
 obtain⟨t,_,hw',_⟩:=hw.leave hj (u9 h.ze[j]) rfl
 have e:h.now.toNat=j:=by omega
 have hl:(h.ze.set j (u9 h.ze[j])).length=h.ze.length:=by simp
 have c:=g.cl j hj
 unfold yo setH
 rw[kw hn hj,e]
 refine⟨⟨g.head.p,?_,g.head.born,by simp only[hl];exact g.head.few,g.head.code,g.head.zm,⟨fun e=>by simp only[] at e;omega,fun e=>by simp only[] at e;omega⟩⟩,fun i hi=>?_,t,hw'⟩
 ·simp only[hl];have:=c.sd;omega
 ·simp only[hl] at hi ⊢
  by_cases e:j=i
  ·subst e;simp only[List.getElem_set_self];exact g.die hj
  ·rw[List.getElem_set_ne e];exact g.cl i hi
theorem zbB {ms:Ms} {h:Hp} (g:Good ms h) {v:Int × Int} (hv:qW h.ze.length v.1 v.2=true):qW ms.length (Up h v).1 (Up h v).2=true:=by
 unfold Up
 by_cases e:v.1=2
 ·rw[if_pos e]
  rw[e] at hv
  have hr:=VL hv
  have yt:v.2.toNat<h.ze.length:=by omega
  rw[show h.ze.getD v.2.toNat Cl.none=h.ze[v.2.toNat] by simp[yt]]
  have:=(g.cl _ yt).m
  exact Jt this.1 this.2
 ·rw[if_neg e]
  exact zcP e hv
theorem Good.fin {ms:Ms} {h:Hp} (g:Good ms h) {j:Nat} (hn:h.now=j) (hj:j<h.ze.length) (hs:h.ze[j].zi<0) {v:Int × Int} (hv:qW h.ze.length v.1 v.2=true):Good ms (Zf (YV (yo h) v) 1):=by
 obtain⟨l,hw⟩:=g.w
 rw[hn] at hw
 obtain⟨t,_,hw',_⟩:=hw.leave hj (u9 h.ze[j]) rfl
 have e:h.now.toNat=j:=by omega
 have hl:(h.ze.set j (u9 h.ze[j])).length=h.ze.length:=by simp
 have c:=g.cl j hj
 have zfd:Up (yo h) v=Up h v:=by
  unfold Up
  by_cases e2:v.1=2
  ·rw[if_pos e2,if_pos e2]
   congr 1
   unfold yo setH
   rw[kw hn hj,e]
   by_cases e3:j=v.2.toNat
   ·rw[<-e3];simp[hj,u9]
   ·simp[List.getElem?_set_ne e3]
  ·rw[if_neg e2,if_neg e2]
 unfold Zf YV
 rw[zfd]
 unfold yo setH
 rw[kw hn hj,e]
 refine⟨⟨g.head.p,?_,g.head.born,by simp only[hl];exact g.head.few,by simp,Zs g.head.zm (VO (zbB g hv)),⟨fun _=>hs,fun _=>rfl⟩⟩,fun i hi=>?_,t,hw'⟩
 ·simp only[hl];have:=c.sd;omega
 ·simp only[hl] at hi ⊢
  by_cases e:j=i
  ·subst e;simp only[List.getElem_set_self];exact g.die hj
  ·rw[List.getElem_set_ne e];exact g.cl i hi
theorem zaQ {h:Hp} {j:Nat} (hn:h.now=j) (hj:j<h.ze.length):(yo h).ze=h.ze.set j (u9 h.ze[j])/\(yo h).now=h.ze[j].zi/\(yo h).code=h.code:=by
 have e:h.now.toNat=j:=by omega
 unfold yo setH
 rw[kw hn hj,e]
 exact⟨rfl,rfl,rfl⟩
theorem zaj {f:Nat} {h:Hp} {b:Nat} (e:h.now=b):qo (f+1) h b=h:=by
 unfold qo
 rw[if_pos e]
theorem zdn {f:Nat} {h:Hp} {b:Nat} (e:¬h.now=b):qo (f+1) h b=qo f (yo h) b:=by
 conv=>lhs;unfold qo
 rw[if_neg e]
theorem Good.back {ms:Ms}:∀(f:Nat) (h:Hp) (b:Nat) (l:List Nat),Good ms h->h.code=0->xj h.ze h.now l->b∈l->l.length<=f->(∀hb:b<h.ze.length,h.ze[b].zf.length<6) ->
 Good ms (qo f h b)/\(qo f h b).code=0/\(qo f h b).now=b/\(qo f h b).ze.length=h.ze.length/\(∀hb:b<(qo f h b).ze.length,(qo f h b).ze[b].zf.length<6/\(qo f h b).ze[b].zy=false)
 | 0,h,b,l,g,hc,hw,hb,hl,h6=>by
  cases l with
  | nil=>cases hb
  | cons=>simp at hl
 | f+1,h,b,l,g,hc,hw,hb,hl,h6=>by
  by_cases e:h.now=b
  ·rw[zaj e]
   exact⟨g,hc,e,rfl,fun hb'=>⟨h6 hb',(hw.mem hb).2⟩⟩
  ·rw[zdn e]
   have hn0:0<=h.now:=by
    by_cases q:h.now<0
    ·obtain⟨f',hf'⟩:=hw.ch
     rw[yN q] at hf'
     cases hf'
     cases hb
    ·omega
   obtain⟨j,hn⟩:∃j:Nat,h.now=j:=⟨h.now.toNat,by omega⟩
   rw[hn] at hw
   have hj:j<h.ze.length:=hw.head.1
   obtain⟨t,rfl,hw',hr⟩:=hw.leave hj (u9 h.ze[j]) rfl
   have hbt:b∈t:=by
    rcases List.mem_cons.1 hb with q | q
    ·exact absurd (by rw[hn,q]) e
    ·exact q
   have hs0:0<=h.ze[j].zi:=by
    by_cases q:h.ze[j].zi<0
    ·obtain⟨f',hf'⟩:=hw'.ch
     rw[yN q] at hf'
     cases hf'
     cases hbt
    ·omega
   obtain⟨a1,a2,a3⟩:=zaQ hn hj
   have hlen:(yo h).ze.length=h.ze.length:=by rw[a1];simp
   have hbj:j≠b:=fun q=>e (by rw[hn,q])
   have hh6:∀hb:b<(yo h).ze.length,(yo h).ze[b].zf.length<6:=fun hb'=>by
    simp only[a1]
    rw[List.getElem_set_ne hbj]
    exact h6 (by omega)
   have hw2:xj (yo h).ze (yo h).now t:=by rw[a1,a2];exact hw'
   obtain⟨r1,r2,r3,r4,r5⟩:=Good.back f (yo h) b t (g.leave hn hj hs0 hc) (by rw[a3];exact hc) hw2 hbt (by simpa using hl) hh6
   exact⟨r1,r2,r3,by rw[r4];exact hlen,r5⟩
theorem xo {α:Type} {l:List α} {i:Nat} (h:i<l.length) (d:α):l.getD i d=l[i]:=by simp[h]
structure kI (ms:Ms) (h:Hp) (j:Nat) (k a:Int) (args:yH):Prop where
 g:Good ms h
 code:h.code=0
 now:h.now=j
 lt:j<h.ze.length
 live:h.ze[j].zy=false
 kind:1<=k/\k<=18
 op:∃(m:Nat) (hm:m<ms.length),h.ze[j].m=m/\jm ms.length ms[m].2.2.length ms[m].2.1 k a=true
 takes:(args.length:Int)=(yx ms k a).1
 room:(h.ze[j].zf.length:Int)+(yx ms k a).2<=6
 vals:yI h.ze.length args=true
 kinds:qZ k args=true
theorem jC {ms:Ms} {k a:Int} (h:k≠9):yx ms k a=(tk k,lv k):=by
 unfold yx
 rw[if_neg h]
theorem kI.free {ms:Ms} {h:Hp} {j:Nat} {k a:Int} {args:yH} (d:kI ms h j k a args) (hl:(yx ms k a).2=1):(h.ze[j]'d.lt).zf.length<6:=by
 have:=d.room
 rw[hl] at this
 omega
theorem kI.push {ms:Ms} {h:Hp} {j:Nat} {k a:Int} {args:yH} (d:kI ms h j k a args) (hl:(yx ms k a).2=1) {v:Int × Int} (hv:qW h.ze.length v.1 v.2=true):Good ms (qK h v) :=
 d.g.push d.now d.lt (d.free hl) hv d.live
theorem zd5 {nm no:Nat} {t k a:Int} (h:jm nm no t k a=true):1<=k/\k<=18:=by
 unfold jm at h
 by_cases h1:k=1
 ·omega
 rw[if_neg h1] at h
 by_cases h2:k=2\/k=3
 ·omega
 rw[if_neg h2] at h
 by_cases h3:k=7\/k=8
 ·omega
 rw[if_neg h3] at h
 by_cases h4:k=9
 ·omega
 rw[if_neg h4] at h
 by_cases h5:k=13\/k=14
 ·omega
 rw[if_neg h5] at h
 simp only[Bool.and_eq_true,zx] at h
 exact h.1
theorem kI.first {ms:Ms} {h:Hp} {j:Nat} {k a:Int} {args:yH} (d:kI ms h j k a args) (i:Nat):qW h.ze.length (args.getD i (0,0)).1 (args.getD i (0,0)).2=true:=Ju d.vals i
theorem kI.ref {ms:Ms} {h:Hp} {j:Nat} {k a:Int} {args:yH} (d:kI ms h j k a args) (hk:k=12\/k=13\/k=14\/k=15\/k=17\/k=18):(args.getD 0 (0,0)).1=2/\0<=(args.getD 0 (0,0)).2/\(args.getD 0 (0,0)).2.toNat<h.ze.length:=by
 have hq:=d.kinds
 unfold qZ at hq
 rw[if_neg (by omega),if_pos hk,beq_iff_eq] at hq
 have hv:=d.first 0
 rw[hq] at hv
 have:=VL hv
 exact⟨hq,this.1,by omega⟩
theorem Good.do {ms:Ms} {h:Hp} {j:Nat} {k a:Int} {args:yH} (d:kI ms h j k a args):Good ms (doH ms h k a args):=by
 have yt:=d.lt
 obtain⟨m,hm,hcm,hop⟩:=d.op
 have hP:=vz d.g.head.p hm
 have c:=d.g.cl j d.lt
 have hmg:ms.getD h.ze[j].m.toNat (0,0,[])=ms[m]:=by rw[hcm];simp[hm]
 have YJ:=kw d.now d.lt
 have hn0:0<=h.now:=by rw[d.now];omega
 have hset:∀c':Cl,ClP ms h.ze.length c'->c'.zy=h.ze[j].zy->c'.zi=h.ze[j].zi->Good ms (setH h c'):=fun c' q1 q2 q3=>d.g.cur d.now d.lt q1 q2 q3
 unfold doH
 simp only[]
 by_cases h1:k=1
 ·rw[if_pos h1];subst h1
  refine d.push (by rw[jC (by decide)];rfl) (ZP ?_ ?_)
  all_goals
   have:=hop
   simp only[jm,if_true,zx] at this
   simp only[]
   omega
 rw[if_neg h1]
 by_cases h5:k=5
 ·rw[if_pos h5];subst h5
  refine d.push (by rw[jC (by decide)];rfl) (ZP ?_ ?_)
  ·exact Int.emod_nonneg _ (by decide)
  ·have:=Int.emod_lt_of_pos ((args.getD 0 (0,0)).2+(args.getD 1 (0,0)).2) (show(0:Int)<1000 by decide)
   simp only[]
   omega
 rw[if_neg h5]
 by_cases h6:k=6
 ·rw[if_pos h6];subst h6
  exact d.push (by rw[jC (by decide)];rfl) (U0 _ _)
 rw[if_neg h6]
 by_cases h2:k=2
 ·rw[if_pos h2];subst h2
  refine d.push (by rw[jC (by decide)];rfl) ?_
  rw[YJ]
  exact Ju c.vt _
 rw[if_neg h2]
 by_cases h3:k=3
 ·rw[if_pos h3];subst h3
  rw[YJ]
  exact hset _ ⟨c.m,c.pc,by simp only[List.length_set];exact c.t,c.s,c.sd,zbC c.vt _ (d.first 0),c.vs,c.dd⟩ rfl rfl
 rw[if_neg h3]
 have zgB:k=7\/k=8->Good ms (setH h {qm h with pc:=a}):=fun hk=>by
  rw[YJ]
  have ho:=hop
  unfold jm at ho
  rw[if_neg (by omega),if_neg (by omega),if_pos hk,zx] at ho
  exact hset _ ⟨c.m,by simp only[];rw[hmg];omega,c.t,c.s,c.sd,c.vt,c.vs,c.dd⟩ rfl rfl
 by_cases h7:k=7
 ·rw[if_pos h7];exact zgB (.inl h7)
 rw[if_neg h7]
 by_cases h8:k=8
 ·rw[if_pos h8]
  split
  ·exact zgB (.inr h8)
  ·exact d.g
 rw[if_neg h8]
 by_cases h9:k=9
 ·rw[if_pos h9];subst h9
  unfold Yf
  by_cases hb:30<=h.born
  ·rw[if_pos hb];exact d.g.code hn0 (.inr rfl)
  rw[if_neg hb]
  have ho:=hop
  unfold jm at ho
  rw[if_neg (by decide),if_neg (by decide),if_neg (by decide),if_pos rfl,zx] at ho
  obtain⟨a',rfl⟩:=Int.eq_ofNat_of_zero_le ho.1
  have ha:a'<ms.length:=by omega
  have hA:=vz d.g.head.p ha
  have htk:=wj ha
  have h6:=d.free (by rw[htk])
  have hal:(args.length:Int)=ms[a'].1:=by rw[d.takes,htk]
  have hga:ms.getD ((a':Int)).toNat (0,0,[])=ms[a']:=by simp[ha]
  rw[hga]
  obtain⟨l,hw⟩:=d.g.w
  rw[d.now] at hw
  have hw':=hw.call d.lt h6 ⟨(a':Int),0,args ++ List.replicate (ms[a'].2.1.toNat - args.length) (0,0),[],h.now,false⟩ rfl d.now
  have hlen:(h.ze ++ [(⟨(a':Int),0,args ++ List.replicate (ms[a'].2.1.toNat - args.length) (0,0),[],h.now,false⟩:Cl)]).length=h.ze.length+1:=by simp
  have qk:=d.g.head.born
  have yE:=d.g.head.few
  refine⟨⟨d.g.head.p,?_,by simp only[];omega,by simp only[hlen];omega,d.g.head.code,d.g.head.zm,⟨fun e=>by(have e':h.code=1:=e;rw[d.code] at e';cases e'),fun e=>by(have e':((h.ze.length:Nat):Int)<0:=e;omega)⟩⟩,fun i hi=>?_,_,hw'⟩
  ·simp only[hlen];omega
  ·simp only[hlen] at hi ⊢
   by_cases e:i<h.ze.length
   ·rw[List.getElem_append_left e]
    exact(d.g.cl i e).mono (Nat.le_succ _)
   ·obtain rfl:i=h.ze.length:=by omega
    simp only[List.getElem_append_right zD,Nat.sub_self,List.getElem_singleton]
    refine⟨by simp only[];omega,by simp only[hga];omega,?_,by simp,by simp only[];rw[d.now];omega,?_,rfl,fun e=>by cases e⟩
    ·simp only[hga,List.length_append,List.length_replicate]
     have:=hA.zh
     omega
    ·exact Zs (Qc (Nat.le_succ _) d.vals) (zcS _ _)
 rw[if_neg h9]
 by_cases h10:k=10
 ·rw[if_pos h10];subst h10
  unfold zcC
  rw[YJ]
  by_cases hs:h.ze[j].zi<0
  ·rw[if_pos hs]
   exact d.g.fin d.now d.lt hs (d.first 0)
  ·rw[if_neg hs]
   have hs0:0<=h.ze[j].zi:=by omega
   obtain⟨a1,a2,_⟩:=zaQ d.now d.lt
   have hg:=d.g.leave d.now d.lt hs0 d.code
   obtain⟨l,hw⟩:=d.g.w
   rw[d.now] at hw
   obtain⟨t,_,hw',hr⟩:=hw.leave d.lt (u9 h.ze[j]) rfl
   obtain⟨s,hse⟩:∃s:Nat,h.ze[j].zi=s:=⟨h.ze[j].zi.toNat,by omega⟩
   rw[hse] at hw'
   obtain⟨hsl,t',rfl,hsd,_,_⟩:=hw'.head
   have hlen:(yo h).ze.length=h.ze.length:=by rw[a1];simp
   have hsl':s<h.ze.length:=by simpa using hsl
   have hjs:j≠s:=fun q=>by
    subst q
    simp only[List.getElem_set_self] at hsd
    cases hsd
   have hat:∀q:s<(yo h).ze.length,(yo h).ze[s]=h.ze[s]:=fun q=>by
    simp only[a1]
    rw[List.getElem_set_ne hjs]
   have hlv:s<(yo h).ze.length:=by omega
   refine hg.push (j:=s) (by rw[a2,hse]) hlv (by rw[hat];exact hr s List.mem_cons_self hsl') (by rw[hlen];exact d.first 0) ?_
   rw[hat]
   rw[List.getElem_set_ne hjs] at hsd
   exact hsd
 rw[if_neg h10]
 by_cases h11:k=11
 ·rw[if_pos h11];subst h11
  refine d.push (by rw[jC (by decide)];rfl) (Jt hn0 ?_)
  rw[d.now]
  have:=d.lt
  simp only[]
  omega
 rw[if_neg h11]
 by_cases hl:k=12\/k=13\/k=17\/k=18
 ·rw[if_pos hl]
  obtain⟨_,_,hr⟩:=d.ref (by omega)
  have hlv:(yx ms k a).2=1:=by
   rw[jC (by omega)]
   rcases hl with e | e | e | e <;> subst e <;> rfl
  refine d.push hlv ?_
  have cr:=d.g.cl _ hr
  unfold QC
  simp only[]
  rw[xo hr]
  by_cases e12:k=12
  ·rw[if_pos e12]
   split
   ·rename_i q;exact Jt q cr.sd.2
   ·exact Xc _
  rw[if_neg e12]
  by_cases e13:k=13
  ·rw[if_pos e13];exact Ju cr.vt _
  rw[if_neg e13]
  by_cases e17:k=17
  ·rw[if_pos e17];exact U0 _ _
  rw[if_neg e17]
  have hlm:h.ze[(args.getD 0 (0,0)).2.toNat].m.toNat<ms.length:=by have:=cr.m;omega
  have zb9:=(vz d.g.head.p hlm).few
  have hpc:=cr.pc
  rw[xo hlm] at hpc
  exact ZP hpc.1 (by simp only[];omega)
 rw[if_neg hl]
 by_cases KR:k=14
 ·rw[if_pos KR]
  obtain⟨_,_,hr⟩:=d.ref (by omega)
  have cr:=d.g.cl _ hr
  unfold YT
  rw[xo hr]
  obtain⟨l,hw⟩:=d.g.w
  exact d.g.set hr ⟨cr.m,cr.pc,by simp only[List.length_set];exact cr.t,cr.s,cr.sd,zbC cr.vt _ (d.first 1),cr.vs,cr.dd⟩ (hw.set_like _ hr _ rfl rfl (fun q=>hw.room _ q hr))
 rw[if_neg KR]
 by_cases h15:k=15
 ·rw[if_pos h15];subst h15
  obtain⟨_,_,hr⟩:=d.ref (by decide)
  unfold Ut
  rw[xo hr]
  by_cases hd:h.ze[(args.getD 0 (0,0)).2.toNat].zy=true
  ·rw[if_pos hd];exact d.g.code hn0 (.inl rfl)
  rw[if_neg hd]
  obtain⟨l,hw⟩:=d.g.w
  have hbl:(args.getD 0 (0,0)).2.toNat∈l:=hw.all _ hr (by simpa using hd)
  have h6:∀hb:(args.getD 0 (0,0)).2.toNat<h.ze.length,h.ze[(args.getD 0 (0,0)).2.toNat].zf.length<6:=fun hb=>by
   have hw2:=hw
   rw[d.now] at hw2
   obtain⟨_,t,rfl,_⟩:=hw2.head
   rcases List.mem_cons.1 hbl with q | q
   ·have:=d.free (by rw[jC (by decide)];rfl)
    simp only[q]
    exact this
   ·exact hw.room _ (by simpa using q) hb
  obtain⟨r1,_,r3,r4,r5⟩:=Good.back h.ze.length h _ l d.g d.code hw hbl hw.len h6
  have yt:(args.getD 0 (0,0)).2.toNat<(qo h.ze.length h (args.getD 0 (0,0)).2.toNat).ze.length:=by rw[r4];exact hr
  exact r1.push r3 yt (r5 yt).1 (by rw[r4];exact d.first 1) (r5 yt).2
 rw[if_neg h15]
 by_cases h16:k=16
 ·rw[if_pos h16]
  exact⟨⟨d.g.head.p,d.g.head.now,d.g.head.born,d.g.head.few,d.g.head.code,Zs d.g.head.zm (VO (zbB d.g (d.first 0))),d.g.head.fin⟩,d.g.cl,d.g.w⟩
 rw[if_neg h16]
 exact d.g
theorem Good.doing {ms:Ms} {h:Hp} (g:Good ms h) (hc:h.code=0) (h1:¬((ms.getD (qm h).m.toNat (0,0,[])).2.2.length:Int)<=(qm h).pc)
 (h2:¬(((qm h).zf.length:Int) - (yx ms (xZ ms (qm h)).1 (xZ ms (qm h)).2).1<0\/6<((qm h).zf.length:Int) - (yx ms (xZ ms (qm h)).1 (xZ ms (qm h)).2).1+(yx ms (xZ ms (qm h)).1 (xZ ms (qm h)).2).2))
 (h3:qZ (xZ ms (qm h)).1 ((qm h).zf.drop (((qm h).zf.length:Int) - (yx ms (xZ ms (qm h)).1 (xZ ms (qm h)).2).1).toNat)=true) :
 ∃j:Nat,kI ms (setH h {qm h with zf:=(qm h).zf.take (((qm h).zf.length:Int) - (yx ms (xZ ms (qm h)).1 (xZ ms (qm h)).2).1).toNat,pc:=(qm h).pc+1}) j (xZ ms (qm h)).1 (xZ ms (qm h)).2 ((qm h).zf.drop (((qm h).zf.length:Int) - (yx ms (xZ ms (qm h)).1 (xZ ms (qm h)).2).1).toNat):=by
 have hn0:0<=h.now:=by
  by_cases q:h.now<0
  ·have:=g.head.fin.2 q;omega
  ·omega
 obtain⟨j,hn⟩:∃j:Nat,h.now=j:=⟨h.now.toNat,by omega⟩
 have hj:j<h.ze.length:=by have:=g.head.now;omega
 have YJ:=kw hn hj
 have c:=g.cl j hj
 obtain⟨l,hw⟩:=g.w
 rw[hn] at hw
 obtain⟨_,_,_,hlive,_⟩:=hw.head
 rw[YJ] at h1 h2 h3 ⊢
 have Zm:h.ze[j].m.toNat<ms.length:=by have:=c.m;omega
 have hmg:ms.getD h.ze[j].m.toNat (0,0,[])=ms[h.ze[j].m.toNat]:=by simp[Zm]
 have hpc:=c.pc
 rw[hmg] at h1 hpc
 have hpl:h.ze[j].pc.toNat<ms[h.ze[j].m.toNat].2.2.length:=by omega
 have hon:xZ ms h.ze[j]=ms[h.ze[j].m.toNat].2.2[h.ze[j].pc.toNat]:=by
  unfold xZ
  rw[hmg]
  simp[hpl]
 have hop:=(vz g.head.p Zm).ops _ (List.getElem_mem hpl)
 rw[<-hon] at hop
 generalize xZ ms h.ze[j]=op at *
 generalize hT:yx ms op.1 op.2=T at *
 have hs:=c.s
 have hlen:∀c':Cl,(setH h c').ze.length=h.ze.length:=fun c'=>by unfold setH;simp
 have hat:∀(c':Cl) (q:j<(setH h c').ze.length),(setH h c').ze[j]=c':=fun c' q=>by
  have e:h.now.toNat=j:=by omega
  unfold setH
  simp only[e,List.getElem_set_self]
 have hT1:0<=T.1:=by
  rw[<-hT]
  unfold yx
  split
  ·split
   ·rename_i q
    rw[zx] at q
    have hq:op.2.toNat<ms.length:=by omega
    rw[show ms.getD op.2.toNat (0,0,[])=ms[op.2.toNat] by simp[hq]]
    exact(vz g.head.p hq).args.1
   ·exact Int.le_refl _
  ·simp only[]
   unfold tk
   split
   ·decide
   ·split <;> decide
 refine⟨j,?_,hc,hn,by rw[hlen];exact hj,?_,zd5 hop,⟨_,Zm,?_,hop⟩,?_,?_,?_,h3⟩
 ·exact g.cur hn hj ⟨c.m,by simp only[];rw[hmg];omega,c.t,by simp only[List.length_take];omega,c.sd,c.vt,zer c.vs _,fun q=>by simp only[] at q;rw[hlive] at q;cases q⟩ rfl rfl
 ·rw[hat];exact hlive
 ·rw[hat];simp only[];have:=c.m;omega
 ·rw[hT,List.length_drop];omega
 ·rw[hat,hT];simp only[List.length_take];omega
 ·rw[hlen];exact zeq c.vs _
theorem Good.step {ms:Ms} {h:Hp} (g:Good ms h) (hc:h.code=0):Good ms (xU ms h):=by
 have hn0:0<=h.now:=by
  by_cases q:h.now<0
  ·have:=g.head.fin.2 q;omega
  ·omega
 unfold xU
 simp only[]
 by_cases h1:((ms.getD (qm h).m.toNat (0,0,[])).2.2.length:Int)<=(qm h).pc
 ·rw[if_pos h1];exact g.code hn0 (.inl rfl)
 rw[if_neg h1]
 split
 ·exact g.code hn0 (.inl rfl)
 rename_i h2
 split
 ·exact g.code hn0 (.inl rfl)
 rename_i h3
 obtain⟨j,d⟩:=g.doing hc h1 h2 (by simpa using h3)
 exact Good.do d
theorem Good.run {ms:Ms}:∀(n:Nat) (h:Hp),Good ms h->Good ms (qi ms n h)
 | 0,h,g=>g
 | n+1,h,g=>by
  unfold qi
  by_cases hc:h.code=0
  ·rw[if_pos hc];exact Good.run n _ (g.step hc)
  ·rw[if_neg hc];exact g
theorem UX (h:Hp) (v:Int × Int):(qK h v).zm=h.zm:=rfl
theorem Q7 (h:Hp):(yo h).zm=h.zm:=rfl
theorem JS:∀(f:Nat) (h:Hp) (b:Nat),(qo f h b).zm=h.zm
 | 0,_,_=>rfl
 | f+1,h,b=>by
  unfold qo
  split
  ·rfl
  ·rw[JS f,Q7]
theorem zbi (h:Hp) (v:Int × Int):(YV h v).zm.length=h.zm.length+1:=by simp[YV]
theorem qT {c:Prop} [Decidable c] {a b:Hp} {n:Nat} (h1:a.zm.length<=n) (h2:b.zm.length<=n):(if c then a else b).zm.length<=n:=by
 by_cases e:c
 ·rw[if_pos e];exact h1
 ·rw[if_neg e];exact h2
theorem zeh (ms:Ms) (h:Hp) (m:Int) (args:yH):(Yf ms h m args).zm.length<=h.zm.length+1 :=
 qT (Nat.le_succ _) (Nat.le_succ _)
theorem zfK (h:Hp) (v:Int × Int):(zcC h v).zm.length<=h.zm.length+1 :=
 qT (Nat.le_of_eq ((zbi (yo h) v).trans (by rw[Q7]))) (by rw[UX,Q7];exact Nat.le_succ _)
theorem zeg (h:Hp) (b:Nat) (v:Int × Int):(Ut h b v).zm.length<=h.zm.length+1 :=
 qT (Nat.le_succ _) (by rw[UX,JS];exact Nat.le_succ _)
theorem zgn (ms:Ms) (h:Hp) (k a:Int) (args:yH):(doH ms h k a args).zm.length<=h.zm.length+1:=by
 have h0:h.zm.length<=h.zm.length+1:=Nat.le_succ _
 exact qT h0 (qT h0 (qT h0 (qT h0 (qT h0 (qT h0 (qT (qT h0 h0) (qT (zeh ms h a args) (qT (zfK h _) (qT h0 (qT h0 (qT h0 (qT (zeg h _ _) (qT (Nat.le_of_eq (zbi h _)) h0)))))))))))))
theorem zei (ms:Ms) (h:Hp):(xU ms h).zm.length<=h.zm.length+1 :=
 qT (Nat.le_succ _) (qT (Nat.le_succ _) (qT (Nat.le_succ _) (zgn ms _ _ _ _)))
theorem VA (ms:Ms):∀(n:Nat) (h:Hp),(qi ms n h).zm.length<=h.zm.length+n
 | 0,_=>Nat.le_refl _
 | n+1,h=>by
  unfold qi
  split
  ·have:=VA ms n (xU ms h)
   have:=zei ms h
   omega
  ·omega
theorem zbg (ms:Ms):∀(n:Nat) (h:Hp),(qi ms n h).code=0->qi ms (n+1) h=xU ms (qi ms n h)
 | 0,h,hc=>by
  have hc':h.code=0:=hc
  show(if h.code=0 then qi ms 0 (xU ms h) else h)=_
  rw[if_pos hc']
  rfl
 | n+1,h,hc=>by
  by_cases h0:h.code=0
  ·have e:qi ms (n+1) h=qi ms n (xU ms h):=by
    show(if h.code=0 then qi ms n (xU ms h) else h)=_
    rw[if_pos h0]
   have e2:qi ms (n+1+1) h=qi ms (n+1) (xU ms h):=by
    show(if h.code=0 then qi ms (n+1) (xU ms h) else h)=_
    rw[if_pos h0]
   rw[e] at hc
   rw[e2,e]
   exact zbg ms n _ hc
  ·have e:qi ms (n+1) h=h:=by
    show(if h.code=0 then qi ms n (xU ms h) else h)=_
    rw[if_neg h0]
   rw[e] at hc
   exact absurd hc h0
theorem zbh (ms:Ms):∀(m n:Nat) (h:Hp),n<=m->(qi ms n h).code≠0->qi ms m h=qi ms n h
 | 0,n,h,hl,_=>by
  obtain rfl:n=0:=by omega
  rfl
 | m+1,0,h,_,hc=>by
  have hc':h.code≠0:=hc
  show(if h.code=0 then qi ms m (xU ms h) else h)=_
  rw[if_neg hc']
  rfl
 | m+1,n+1,h,hl,hc=>by
  by_cases h0:h.code=0
  ·have e:qi ms (n+1) h=qi ms n (xU ms h):=by
    show(if h.code=0 then qi ms n (xU ms h) else h)=_
    rw[if_pos h0]
   have e2:qi ms (m+1) h=qi ms m (xU ms h):=by
    show(if h.code=0 then qi ms m (xU ms h) else h)=_
    rw[if_pos h0]
   rw[e] at hc
   rw[e2,e]
   exact zbh ms m n _ (by omega) hc
  ·show(if h.code=0 then qi ms m (xU ms h) else h)=(if h.code=0 then qi ms n (xU ms h) else h)
   rw[if_neg h0,if_neg h0]
theorem Good.lens {ms:Ms} {h:Hp} (g:Good ms h):h.ze.length<=30/\∀i,(hi:i<h.ze.length)->h.ze[i].zh.length<=4/\h.ze[i].zf.length<=6:=by
 refine⟨by have:=g.head.few;have:=g.head.born;omega,fun i hi=>⟨?_,(g.cl i hi).s⟩⟩
 have c:=g.cl i hi
 have hp:=g.head.p
 unfold yn at hp
 simp only[Bool.and_eq_true] at hp
 have hm:=c.m
 have hl:h.ze[i].m.toNat<ms.length:=by omega
 have ha:=List.all_eq_true.1 hp.2 _ (List.getElem_mem hl)
 unfold qe at ha
 simp only[Bool.and_eq_true] at ha
 have a2:=zx.1 ha.1.1.2
 have ht:=c.t
 have e:ms.getD h.ze[i].m.toNat (0,0,[])=ms[h.ze[i].m.toNat]:=by simp[hl]
 rw[e] at ht
 omega
theorem zga (h:Hp) (c:Cl):(setH h c).ze.length=h.ze.length:=by simp[setH]
theorem zdV (h:Hp):(yo h).ze.length=h.ze.length:=zga _ _
def hRun (ms:Ms) (h:Hp) (n:Int):Hp:=if(KX ms h && qy n 0 400)=true then qi ms n.toNat h else⟨[],0,0,[],0⟩
open Go.RowKit
theorem zgj {ms:zM} (h:yn ms=true):∀i,(hi:i<ms.length)->ms[i].2.2.length<=1000000:=fun i hi=>by
 simp only[yn,Bool.and_eq_true] at h
 have:=List.all_eq_true.1 h.2 ms[i] (List.getElem_mem hi)
 simp only[qe,Bool.and_eq_true,zx,decide_eq_true_iff] at this
 omega
theorem Jg {ps:List Nat} {p:Int} (h:yK ps p≠-1):∃i,∃hi:i<ps.length,yK ps p=(i:Int)/\(ps[i]:Int)=p:=by
 unfold yK at h ⊢
 cases e:ps.findIdx? (fun(q:Nat)=>(q:Int) == p) with
 | none=>rw[e] at h;exact absurd rfl h
 | some i =>
  rw[List.findIdx?_eq_some_iff_getElem] at e
  obtain⟨hi,h1,_⟩:=e
  exact⟨i,hi,rfl,by simpa using h1⟩
theorem Jh {ps:List Nat} (t:List Nat) {q:Int} (h:yK ps q≠-1):yK (ps ++ t) q=yK ps q:=by
 unfold yK at h ⊢
 cases e:ps.findIdx? (fun(q':Nat)=>(q':Int) == q) with
 | none=>rw[e] at h;exact absurd rfl h
 | some i=>rw[List.findIdx?_append,e];rfl
theorem za2 {m i:Nat} (h:i<m):yK (List.range m) (i:Int)=i :=
 YP (i:=i) (by simpa using h) (by simp) fun k hk=>by simp;omega
theorem Kf {m:Nat} {i:Int} (h:¬(0<=i/\i<(m:Int))):yK (List.range m) i=-1:=kZ fun k hk=>by
 simp at hk ⊢
 omega
theorem KF {n:Nat} {F:List Nat} (hF:xV n F) {ps:List Nat} {p:Int} (hpre:∃t,F=qn n ps p ++ t):qn F.length (List.range ps.length) (yK F p)=List.range (qn n ps p).length:=by
 by_cases hin:0<=p/\p<(n:Int)
 ·obtain⟨k,rfl⟩:=Int.eq_ofNat_of_zero_le hin.1
  have hk:k<n:=by omega
  by_cases hnum:yK ps k=-1
  ·obtain⟨t,ht⟩:=hpre
   rw[Qj hk hnum] at ht ⊢
   have hl:ps.length<F.length:=by rw[ht];simp
   have e:yK F k=(ps.length:Int):=by
    subst ht
    refine YP (i:=ps.length) hl (by simp) fun q hq=>?_
    rw[List.getElem_append_left (by simp;omega),List.getElem_append_left hq]
    exact ZB.1 hnum q hq
   rw[e,Qj hl (Kf (by omega))]
   simp[List.range_succ]
  ·obtain⟨t,ht⟩:=hpre
   rw[Xj hnum] at ht ⊢
   obtain⟨i,hi,e,_⟩:=Jg hnum
   rw[ht,Jh t hnum,e,Xj (by rw[za2 hi];omega)]
 ·have e:yK F p=-1:=kZ fun i hi e=>by
   have:=hF.lt _ (List.getElem_mem hi)
   omega
  rw[XW hin,e,XW (by omega)]
theorem Zg {n:Nat} {F:List Nat} (hF:xV n F):∀(vs:yH) (ps:List Nat),(∃t,F=comeV n ps vs ++ t)->comeV F.length (List.range ps.length) (vs.map (XN F))=List.range (comeV n ps vs).length
 | [],_,_=>rfl
 | v :: r,ps,h=>by
  have e1:comeV n ps (v :: r)=comeV n (if v.1=2 then qn n ps v.2 else ps) r:=rfl
  have e2:comeV F.length (List.range ps.length) ((v :: r).map (XN F))=comeV F.length (if(XN F v).1=2 then qn F.length (List.range ps.length) (XN F v).2 else List.range ps.length) (r.map (XN F)):=rfl
  rw[e1] at h ⊢
  rw[e2]
  by_cases hv:v.1=2
  ·rw[if_pos hv] at h ⊢
   have hr:XN F v=(2,yK F v.2):=if_pos hv
   rw[hr,if_pos rfl]
   obtain⟨t,ht⟩:=h
   obtain⟨t2,h2⟩:=vW n r (qn n ps v.2)
   rw[KF hF ⟨t2 ++ t,by rw[ht,h2,List.append_assoc]⟩]
   exact Zg hF r _ ⟨t,ht⟩
  ·rw[if_neg hv] at h ⊢
   have hr:XN F v=v:=if_neg hv
   rw[hr,if_neg hv]
   exact Zg hF r _ h
theorem zaq {n:Nat} {F:List Nat} (hF:xV n F) (ps:List Nat) (c:Cl) (h:∃t,F=comeC n ps c ++ t):comeC F.length (List.range ps.length) (j1 F c)=List.range (comeC n ps c).length:=by
 obtain⟨t,ht⟩:=h
 obtain⟨t2,h2⟩:=vW n c.zh (qn n ps c.zi)
 obtain⟨t3,h3⟩:=vW n c.zf (comeV n (qn n ps c.zi) c.zh)
 unfold comeC at ht ⊢
 have p2:F=comeV n (qn n ps c.zi) c.zh ++ (t3 ++ t):=by rw[ht,h3,List.append_assoc]
 have p1:F=qn n ps c.zi ++ (t2 ++ (t3 ++ t)):=by rw[<-List.append_assoc,<-h2];exact p2
 show comeV F.length (comeV F.length (qn F.length (List.range ps.length) (yK F c.zi)) (c.zh.map (XN F))) (c.zf.map (XN F))=_
 rw[KF hF ⟨_,p1⟩,Zg hF _ _ ⟨_,p2⟩,Zg hF _ _ ⟨_,ht⟩]
theorem QM (cs:List Cl):∀(f j:Nat) (ps:List Nat),∃t,foundF cs f j ps=ps ++ t
 | 0,_,_=>⟨[],by simp[foundF]⟩
 | f+1,j,ps=>by
  show ∃t,(if h:j<ps.length then foundF cs f (j+1) (comeC cs.length ps (cs.getD ps[j] Cl.none)) else ps)=ps ++ t
  by_cases h:j<ps.length
  ·rw[dif_pos h]
   obtain⟨t1,h1⟩:=Qi cs.length ps (cs.getD ps[j] Cl.none)
   obtain⟨t2,h2⟩:=QM cs f (j+1) (comeC cs.length ps (cs.getD ps[j] Cl.none))
   exact⟨t1 ++ t2,by rw[h2,h1,List.append_assoc]⟩
  ·rw[dif_neg h];exact⟨[],by simp⟩
theorem Uy (cs:List Cl):∀(f j:Nat) (ps:List Nat),xV cs.length ps->xV cs.length (foundF cs f j ps)
 | 0,_,_,h=>h
 | f+1,j,ps,h=>by
  show xV cs.length (if h:j<ps.length then foundF cs f (j+1) (comeC cs.length ps (cs.getD ps[j] Cl.none)) else ps)
  by_cases e:j<ps.length
  ·rw[dif_pos e];exact Uy cs f _ _ (h.comeC _)
  ·rw[dif_neg e];exact h
theorem zaw (h:Hp):xV h.ze.length (found h):=Uy _ _ _ _ (xV.come ⟨List.nodup_nil,fun _ hp=>by cases hp⟩ _)
theorem Wm {cs:List Cl} {F:List Nat} (hF:xV cs.length F):∀(k j:Nat) (ps:List Nat),k=cs.length - j->xV cs.length ps->foundF cs (cs.length - j) j ps=F ->
 foundF (F.map fun p=>j1 F (cs.getD p Cl.none)) (F.length - j) j (List.range ps.length)=List.range F.length
 | k,j,ps,hk,hps,e=>by
  by_cases hj:j<ps.length
  ·have hp:ps[j]<cs.length:=hps.lt _ (List.getElem_mem hj)
   have hjn:j<cs.length:=by have:=hps.len;omega
   rw[Zj hps hj hp] at e
   obtain⟨t1,h1⟩:=Qi cs.length ps cs[ps[j]]
   obtain⟨t2,h2⟩:=QM cs (cs.length - (j+1)) (j+1) (comeC cs.length ps cs[ps[j]])
   rw[e] at h2
   have hF1:F=ps ++ (t1 ++ t2):=by rw[h2,h1,List.append_assoc]
   have hlF:ps.length<=F.length:=by rw[hF1];simp
   have hjF:j<F.length:=by omega
   have hFj:F[j]=ps[j]:=by simp only[hF1];rw[List.getElem_append_left hj]
   have hcl:(F.map fun p=>j1 F (cs.getD p Cl.none)).length=F.length:=by simp
   have hR:xV (F.map fun p=>j1 F (cs.getD p Cl.none)).length (List.range ps.length):=⟨List.nodup_range,fun p hp=>by rw[hcl];simp at hp;omega⟩
   have hjr:j<(List.range ps.length).length:=by simpa using hj
   have st:=Zj hR hjr (by rw[hcl];simp;omega)
   have hcj:(F.map fun p=>j1 F (cs.getD p Cl.none))[(List.range ps.length)[j]]'(by rw[hcl];simp;omega)=j1 F cs[ps[j]]:=by
    simp[hFj,hp]
   rw[hcj,hcl] at st
   rw[st,zaq hF ps _ ⟨t2,h2⟩]
   exact Wm hF (k - 1) (j+1) _ (by omega) (hps.comeC _) e
  ·rw[kQ _ hj] at e
   subst e
   rw[kQ _ (by simpa using hj)]
 termination_by k=>k
 decreasing_by omega
theorem U3 (h:Hp):(jq h).length=(found h).length:=by simp[jq]
def Xf (cs:List Cl) (ps:List Nat) (p:Nat):Prop:=0<=(cs.getD p Cl.none).zi->(cs.getD p Cl.none).zi<(cs.length:Int)->yK ps (cs.getD p Cl.none).zi≠-1
theorem Xf.more {cs:List Cl} {ps:List Nat} {p:Nat} (h:Xf cs ps p) (t:List Nat):Xf cs (ps ++ t) p:=fun h0 h1=>by
 rw[Jh t (h h0 h1)];exact h h0 h1
theorem zcZ {n:Nat} {ps:List Nat} {p:Int} (h0:0<=p) (h1:p<(n:Int)):yK (qn n ps p) p≠-1:=by
 obtain⟨k,rfl⟩:=Int.eq_ofNat_of_zero_le h0
 by_cases e:yK ps k=-1
 ·rw[Qj (by omega) e,Vj e,if_pos rfl];omega
 ·rw[Xj e];exact e
theorem Qx {cs:List Cl}:∀(k j:Nat) (ps:List Nat),k=cs.length - j->xV cs.length ps->(∀i,(hi:i<ps.length)->i<j->Xf cs ps ps[i])->∀p∈foundF cs (cs.length - j) j ps,Xf cs (foundF cs (cs.length - j) j ps) p
 | k,j,ps,hk,hps,hin=>by
  by_cases hj:j<ps.length
  ·have hp:ps[j]<cs.length:=hps.lt _ (List.getElem_mem hj)
   have hjn:j<cs.length:=by have:=hps.len;omega
   rw[Zj hps hj hp]
   obtain⟨t1,h1⟩:=Qi cs.length ps cs[ps[j]]
   refine Qx (k - 1) (j+1) _ (by omega) (hps.comeC _) fun i hi hij=>?_
   have hip:i<ps.length:=by omega
   have he:(comeC cs.length ps cs[ps[j]])[i]=ps[i]:=by simp only[h1];rw[List.getElem_append_left hip]
   rw[he]
   by_cases e:i=j
   ·subst e
    obtain⟨t2,h2⟩:=vW cs.length cs[ps[i]].zh (qn cs.length ps cs[ps[i]].zi)
    obtain⟨t3,h3⟩:=vW cs.length cs[ps[i]].zf (comeV cs.length (qn cs.length ps cs[ps[i]].zi) cs[ps[i]].zh)
    have e4:comeC cs.length ps cs[ps[i]]=qn cs.length ps cs[ps[i]].zi ++ (t2 ++ t3):=by unfold comeC;rw[h3,h2,List.append_assoc]
    rw[e4]
    refine Xf.more (fun h0 h1=>?_) _
    have eg:cs.getD ps[i] Cl.none=cs[ps[i]]:=by simp[hp]
    rw[eg] at h0 h1 ⊢
    exact zcZ h0 h1
   ·rw[h1]
    exact(hin i hip (by omega)).more _
  ·rw[kQ _ hj]
   intro p hp
   obtain⟨i,hi,rfl⟩:=List.getElem_of_mem hp
   exact hin i hi (by omega)
 termination_by k=>k
 decreasing_by omega
theorem Xo (h:Hp):∀p∈found h,Xf h.ze (found h) p :=
 Qx (h.ze.length - 0) 0 _ rfl (xV.come ⟨List.nodup_nil,fun _ hp=>by cases hp⟩ _) fun i _ hij=>absurd hij yB
theorem zet {h:Hp}:∀(f:Nat) (a:Int) (l:List Nat),qh h.ze f a=some l->(0<=a->yK (found h) a≠-1)->qh (jq h) f (yK (found h) a)=some (l.map fun(p:Nat)=>(yK (found h) p).toNat)
 | 0,a,l,e,_=>by
  by_cases ha:a<0
  ·rw[yN ha] at e
   cases e
   rw[yN]
   ·rfl
   ·rw[kZ fun i hi=>by omega];omega
  ·rw[vr (by omega)] at e;cases e
 | f+1,a,l,e,hin=>by
  by_cases ha:a<0
  ·rw[yN ha] at e
   cases e
   rw[yN]
   ·rfl
   ·rw[kZ fun i hi=>by omega];omega
  obtain⟨n,rfl⟩:=Int.eq_ofNat_of_zero_le (show 0<=a by omega)
  obtain⟨i,hi,e1,e2⟩:=Jg (hin (by omega))
  have e2':(found h)[i]=n:=by omega
  have hn:n<h.ze.length:=by rw[<-e2'];exact(zaw h).lt _ (List.getElem_mem hi)
  have hiv:i<(jq h).length:=by rw[U3];exact hi
  have hv:(jq h)[i]=j1 (found h) h.ze[n]:=by
   unfold jq
   simp[e2',hn]
  cases hd:h.ze[n].zy
  ·rw[xQ hn hd] at e
   cases ht:qh h.ze f h.ze[n].zi with
   | none=>rw[ht] at e;cases e
   | some t =>
    rw[ht] at e
    obtain rfl:n :: t=l:=Option.some.inj e
    rw[e1,xQ hiv (by rw[hv];exact hd),hv]
    show Option.map _ (qh (jq h) f (yK (found h) h.ze[n].zi))=_
    rw[zet f _ _ ht fun h0=>?_]
    ·simp[e1]
    ·have hs:h.ze[n].zi<(h.ze.length:Int):=by
      by_cases hq:h.ze[n].zi<(h.ze.length:Int)
      ·exact hq
      ·obtain⟨q,hq'⟩:=Int.eq_ofNat_of_zero_le h0
       rw[hq',wY (by omega)] at ht
       cases ht
     have:=Xo h n (by rw[<-e2'];exact List.getElem_mem hi)
     unfold Xf at this
     rw[show h.ze.getD n Cl.none=h.ze[n] by simp[hn]] at this
     exact this h0 hs
  ·rw[uD hn hd] at e;cases e
theorem VR {cs:List Cl}:∀(f:Nat) (a:Int) (l:List Nat),qh cs f a=some l->(∀h:0<l.length,(l[0]:Int)=a)/\(l=[]->a<0)/\∀i,(hi:i<l.length)->∃hb:l[i]<cs.length,(∀h2:i+1<l.length,cs[l[i]].zi=(l[i+1]:Int))/\(i+1=l.length->cs[l[i]].zi<0)
 | 0,a,l,e=>by
  by_cases ha:a<0
  ·rw[yN ha] at e
   cases e
   exact⟨fun h=>absurd h yB,fun _=>ha,fun i hi=>absurd hi yB⟩
  ·rw[vr (by omega)] at e;cases e
 | f+1,a,l,e=>by
  by_cases ha:a<0
  ·rw[yN ha] at e
   cases e
   exact⟨fun h=>absurd h yB,fun _=>ha,fun i hi=>absurd hi yB⟩
  obtain⟨n,rfl⟩:=Int.eq_ofNat_of_zero_le (show 0<=a by omega)
  by_cases hn:n<cs.length
  ·cases hd:cs[n].zy
   ·rw[xQ hn hd] at e
    cases ht:qh cs f cs[n].zi with
    | none=>rw[ht] at e;cases e
    | some t =>
     rw[ht] at e
     obtain rfl:n :: t=l:=Option.some.inj e
     obtain⟨s1,s2,s3⟩:=VR f _ _ ht
     refine⟨fun _=>rfl,fun q=>absurd q (by simp),fun i hi=>?_⟩
     cases i with
     | zero =>
      refine⟨hn,fun h2=>?_,fun h2=>?_⟩
      ·have h3:0<t.length:=by simp at h2;omega
       exact(s1 h3).symm
      ·exact s2 (List.length_eq_zero_iff.1 (by rw[List.length_cons] at h2;omega))
     | succ i =>
      have hi':i<t.length:=by simp at hi;omega
      obtain⟨b1,b2,b3⟩:=s3 i hi'
      exact⟨b1,fun h2=>b2 (by simp at h2;omega),fun h2=>b3 (by simp at h2;omega)⟩
   ·rw[uD hn hd] at e;cases e
  ·rw[wY hn] at e;cases e
end Go.Proofs.YtbjgjjkgfnfejaaGreatDoor
