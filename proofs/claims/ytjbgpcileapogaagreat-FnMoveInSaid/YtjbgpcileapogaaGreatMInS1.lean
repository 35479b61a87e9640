/-
  The model's machine that a heap is moved to, in memory: its twins in a row, each with lists of its own.
-/
import Derived.Test.YtjbgpcileapogaaGreatMIn2
import Derived.Test.YtjbgpcileapogaaGreatMNewH
namespace Go.Proofs.YtjbgpcileapogaaGreat
open Go.RowKit
def clA (h:Hp) (i:Nat):Cl:=h.za.getD i Cl.none
theorem Jg {h:Hp} {i:Nat} (hi:i<h.za.length):clA h i=h.za[i]:=by simp[clA,hi]
def Ja (D C S:Nat) (w:World) (v:Value) (h:Hp) (k:Nat):Prop :=
 ∃VT VS:Nat->Value,yl D 8 w v k ((List.range k).flatMap (jn h VT VS))/\(∀g,v.ownBlock=some g->g<C\/S<=g) /\
  ∀i,i<k->zj S w (VT i) (clA h i).zg/\zj S w (VS i) (clA h i).ze/\(∀g,(VT i).ownBlock=some g->v.ownBlock≠some g)/\∀g,(VS i).ownBlock=some g->v.ownBlock≠some g
theorem Ja.kept {D C S k:Nat} {w w':World} {v:Value} {h:Hp} (t:Ja D C S w v h k) (hDS:D<=S) (hs:w.heap.size<=w'.heap.size) (hb:∀g,D<=g->(g<C\/S<=g)->g<w.heap.size->w'.heap[g]?=w.heap[g]?):Ja D C S w' v h k:=by
 obtain⟨VT,VS,h1,h2,h3⟩:=t
 refine⟨VT,VS,h1.kept hs fun g e=>hb g (h1.lt g e).1 (h2 g e) (h1.lt g e).2,h2,fun i hi=>?_⟩
 obtain⟨a,b,c,d⟩:=h3 i hi
 exact⟨a.kept hs fun g e=>hb g (Nat.le_trans hDS (a.lt g e).1) (.inr (a.lt g e).1) (a.lt g e).2,b.kept hs fun g e=>hb g (Nat.le_trans hDS (b.lt g e).1) (.inr (b.lt g e).1) (b.lt g e).2,c,d⟩
theorem Ja.below {D C S k:Nat} {w w':World} {v:Value} {h:Hp} (t:Ja D C S w v h k) (hDS:D<=S) (hb:Below w.heap.size w w'):Ja D C S w' v h k:=t.kept hDS hb.size fun g _ _ h2=>hb.block g h2
theorem Ja.lt {D C S k:Nat} {w:World} {v:Value} {h:Hp} (t:Ja D C S w v h k):∀g,v.ownBlock=some g->D<=g/\g<w.heap.size/\(g<C\/S<=g):=by
 obtain⟨VT,VS,h1,h2,_⟩:=t
 exact fun g e=>⟨(h1.lt g e).1,(h1.lt g e).2,h2 g e⟩
theorem Ja.slice {D C S k:Nat} {w:World} {v:Value} {h:Hp} (t:Ja D C S w v h k):∃a c,v=.slice a k c:=by
 obtain⟨VT,VS,h1,_⟩:=t
 obtain⟨a,c,e,_⟩:=h1.slice
 exact⟨a,c,e⟩
theorem Ja.nil {D C S gT:Nat} {w:World} {h:Hp} (h1:D<=gT) (h2:gT<w.heap.size) (h3:gT<C):Ja D C S w (.slice (some ⟨gT,0,none⟩) 0 0) h 0 :=
 ⟨fun _=>undef,fun _=>undef,⟨rfl,.inr ⟨gT,0,0,rfl,h1,h2,Nat.le_refl _,by unfold maxLen;omega,fun i hi=>absurd hi (by omega),fun i hi=>absurd hi zF⟩⟩,fun g e=>by injection e with e;subst e;exact .inl h3,fun i hi=>absurd hi zF⟩
theorem Ja.append {D C S B2 k:Nat} {w:World} {v ut us:Value} {h:Hp} (t:Ja D C S w v h k) (hk:k<h.za.length) (hu:zj B2 w ut h.za[k].zg) (hs:zj B2 w us h.za[k].ze) (hS2:S<=B2) (hDS:D<=S) (hv:∀g,v.ownBlock=some g->g<B2)
 (hut:ut.oneCell'=true) (hus:us.oneCell'=true) (H:Nat) (hx:∀j x,([.int .i64 (-1),.int .i64 0,.int .i64 h.za[k].m,.int .i64 h.za[k].pc,ut,us,.int .i64 h.za[k].zf,.bool h.za[k].zv]:List Value)[j]?=some x->w.cell? ⟨H,j,none⟩=some x) (hSw:S<=w.heap.size) (hkf:k<=2900000) :
 ∃a' c' w',(Builtin.append_ #[40,40] 40 #[v,.slice (some ⟨H,0,none⟩) 1 1]).run Tryz.prog w=.ok (.slice a' (k+1) c') w'/\Ja D C S w' (.slice a' (k+1) c') h (k+1)/\w.grownBy w' v.ownBlock:=by
 obtain⟨i0,hii,hz0,hz1,hz2⟩:=info_parts Tryz.infoTwinI
 obtain⟨VT,VS,h1,ho,hV⟩:=t
 have hgd:h.za.getD k Cl.none=h.za[k]:=by simp[hk]
 obtain⟨v',w',hrun,zS,hg,hor⟩:=jE (P:=Tryz.prog) (t:=40) (ty:=40) Tryz.underlying40 hii hz0 hz1 rfl (by omega) h1 [.int .i64 (-1),.int .i64 0,.int .i64 h.za[k].m,.int .i64 h.za[k].pc,ut,us,.int .i64 h.za[k].zf,.bool h.za[k].zv] rfl
  (by intro x hx;simp at hx;rcases hx with rfl | rfl | rfl | rfl | rfl | rfl | rfl | rfl;all_goals first | rfl | exact hut | exact hus) H 1 hx hkf (Nat.le_trans hDS hSw)
 obtain⟨a',c',hv',_⟩:=zS.slice
 subst hv'
 have hnew:∀i,i<k->∀g,((VT i).ownBlock=some g\/(VS i).ownBlock=some g)->(Value.slice a' (k+1) c').ownBlock≠some g:=fun i hi g e e2=>by
  obtain⟨p1,p2,p3,p4⟩:=hV i hi
  rcases hor with h9 | h9
  ·rw[h9] at e2
   rcases e with e | e
   ·exact p3 g e e2
   ·exact p4 g e e2
  ·rw[h9] at e2
   injection e2 with e2
   rcases e with e | e
   ·have:=(p1.lt g e).2;omega
   ·have:=(p2.lt g e).2;omega
 have zdu:∀g,(ut.ownBlock=some g\/us.ownBlock=some g)->(Value.slice a' (k+1) c').ownBlock≠some g:=fun g e e2=>by
  rcases hor with h9 | h9
  ·rw[h9] at e2
   have:=hv g e2
   rcases e with e | e
   ·have:=(hu.lt g e).1;omega
   ·have:=(hs.lt g e).1;omega
  ·rw[h9] at e2
   injection e2 with e2
   rcases e with e | e
   ·have:=(hu.lt g e).2;omega
   ·have:=(hs.lt g e).2;omega
 refine⟨a',c',w',hrun,⟨fun q=>if q=k then ut else VT q,fun q=>if q=k then us else VS q,?_,fun g e=>?_,fun q hq=>?_⟩,hg⟩
 ·rw[kL]
  have e1:jn h (fun q=>if q=k then ut else VT q) (fun q=>if q=k then us else VS q) k=[.int .i64 (-1),.int .i64 0,.int .i64 h.za[k].m,.int .i64 h.za[k].pc,ut,us,.int .i64 h.za[k].zf,.bool h.za[k].zv]:=by
   unfold jn
   rw[hgd]
   simp only[if_true]
  rw[e1,Yi (g:=jn h VT VS) k fun i hi=>by unfold jn;simp only[if_neg (show ¬i=k by omega)]]
  exact zS
 ·rcases hor with h9 | h9
  ·rw[h9] at e;exact ho g e
  ·rw[h9] at e;injection e with e;exact .inr (by omega)
 ·by_cases e:q=k
  ·subst e
   rw[Jg hk]
   simp only[if_true]
   exact⟨(hu.mono hS2).kept hg.size fun g e=>hg.block g (hu.lt g e).2 fun e2=>by have:=hv g e2.symm;have:=(hu.lt g e).1;omega,(hs.mono hS2).kept hg.size fun g e=>hg.block g (hs.lt g e).2 fun e2=>by have:=hv g e2.symm;have:=(hs.lt g e).1;omega,fun g e=>zdu g (.inl e),fun g e=>zdu g (.inr e)⟩
  ·simp only[if_neg e]
   obtain⟨p1,p2,p3,p4⟩:=hV q (by omega)
   exact⟨p1.kept hg.size fun g e=>hg.block g (p1.lt g e).2 fun e2=>p3 g e e2.symm,p2.kept hg.size fun g e=>hg.block g (p2.lt g e).2 fun e2=>p4 g e e2.symm,fun g e=>hnew q (by omega) g (.inl e),fun g e=>hnew q (by omega) g (.inr e)⟩
theorem Ja.at {D C S:Nat} {w:World} {v:Value} {h:Hp} (t:Ja D C S w v h h.za.length):jH w v (h.za.map wK):=by
 obtain⟨VT,VS,h1,_,h3⟩:=t
 refine Xu h1 fun i hi=>?_
 obtain⟨a,b,_⟩:=h3 i hi
 rw[Jg hi] at a b
 exact⟨a.at,b.at⟩
theorem Uf {cs cs':List Cl} {φ:Nat->Nat} (hlt:∀i,i<cs.length->φ i<cs'.length) (hcl:∀i,(hi:i<cs.length)->cs'.getD (φ i) Cl.none=YF φ cs[i]) (hs:∀i,(hi:i<cs.length)->-1<=cs[i].zf/\cs[i].zf<(cs.length:Int)) :
 ∀(f f':Nat) (a:Int) (n:Nat),f<=f'->-1<=a->a<(cs.length:Int)->xX cs f a=some n->xX cs' f' (up φ a)=some n
 | f,f',a,n,hff,h0,h1,h=>by
  by_cases hn:a<0
  ·rw[vC (by omega)] at h
   rw[YG φ hn,vC (by omega)]
   exact h
  obtain⟨k,rfl⟩:=Int.eq_ofNat_of_zero_le (show 0<=a by omega)
  have hk:k<cs.length:=by omega
  have hk':=hlt k hk
  have hc:cs'[φ k]=YF φ cs[k]:=by rw[<-hcl k hk];simp[hk']
  rw[wL]
  cases f with
  | zero =>
   exfalso
   unfold xX at h
   rw[if_pos ⟨by omega,by simpa using hk⟩] at h
   cases h
  | succ f =>
   obtain⟨g,rfl⟩:∃g,f'=g+1:=⟨f' - 1,by omega⟩
   unfold xX at h ⊢
   rw[dif_pos ⟨by omega,by simpa using hk⟩] at h
   rw[dif_pos ⟨by omega,by simpa using hk'⟩]
   simp only[Int.toNat_natCast] at h ⊢
   rw[hc]
   show(if cs[k].zv=true then none else(xX cs' g (up φ cs[k].zf)).map (·+1))=some n
   cases hd:cs[k].zv with
   | true=>rw[hd] at h;cases h
   | false =>
    rw[hd] at h
    simp only[Bool.false_eq_true,if_false] at h ⊢
    obtain⟨n',e1,e2⟩:=Option.map_eq_some_iff.1 h
    rw[Uf hlt hcl hs f g _ n' (by omega) (hs k hk).1 (hs k hk).2 e1]
    exact congrArg some e2
theorem kK (c:Cl) (l:List Cl):yY (c :: l)=(if c.zv then 0 else 1)+yY l:=by
 unfold yY
 cases hd:c.zv <;> simp[hd]
 omega
theorem JC:∀(l:List Cl) (j:Nat) (d:Cl),(hj:j<l.length)->l[j].zv=false->d.zv=true->yY (l.set j d)+1=yY l
 | [],_,_,h,_,_=>absurd h zF
 | c :: l,0,d,_,h1,h2=>by
  have h1':c.zv=false:=h1
  rw[List.set_cons_zero,kK,kK,h1',h2]
  simp
  omega
 | c :: l,j+1,d,h,h1,h2=>by
  rw[List.set_cons_succ,kK,kK]
  have:=JC l j d (by simpa using h) h1 h2
  omega
theorem UE (φ:Nat->Nat):∀l:List Cl,yY (l.map (YF φ))=yY l
 | []=>rfl
 | c :: l=>by
  rw[List.map_cons,kK,kK,UE φ l]
  rfl
def jL (j:Nat) (i:Nat):Nat:=if i=j then 0 else i+1
theorem zcp (j a b:Nat) (h:jL j a=jL j b):a=b:=by
 unfold jL at h
 split at h <;> split at h <;> omega
def Va:Cl:=⟨0,0,[],[],-1,true⟩
def qr (cs:List Cl) (j:Nat):List Cl:=YF (jL j) (cs.getD j Cl.none) :: (cs.map (YF (jL j))).set j Va
theorem kf (cs:List Cl) (j:Nat):(qr cs j).length=cs.length+1:=by simp[qr]
theorem wk {cs:List Cl} {j k:Nat} (hk:k<cs.length):(qr cs j)[k+1]?=some (if k=j then Va else YF (jL j) cs[k]):=by
 unfold qr
 rw[List.getElem?_cons_succ]
 by_cases e:k=j
 ·subst e
  rw[if_pos rfl,List.getElem?_set_self (by simpa using hk)]
 ·rw[if_neg e,List.getElem?_set_ne (Ne.symm e),List.getElem?_map,List.getElem?_eq_getElem hk]
  rfl
theorem Xm {cs:List Cl} {j:Nat} {i:Nat} (hi:i<cs.length):(qr cs j).getD (jL j i) Cl.none=YF (jL j) cs[i]:=by
 by_cases e:i=j
 ·have h1:jL j i=0:=if_pos e
  rw[h1]
  subst e
  show YF (jL i) (cs.getD i Cl.none)=_
  rw[show cs.getD i Cl.none=cs[i] by simp[hi]]
 ·have h1:jL j i=i+1:=if_neg e
  rw[h1,List.getD_eq_getElem?_getD,wk hi,if_neg e]
  rfl
theorem Kk {ms:Ms} {h:Hp} {j:Nat} (g:Good ms h) (hj:j<h.za.length) (hn:h.now=(j:Int)) (hd:h.za[j].zv=false):j6 (qr h.za j) 0=true:=by
 have hw:j6 h.za h.now=true:=by
  have ok:=kx.2 g
  rw[J4 (fun i hi=>ws.2 (g.cl i hi)) g.head.now.1 g.head.now.2]
  unfold ym at ok
  simp only[Bool.and_eq_true] at ok
  exact ok.2
 have hf:Jq h.za h.now:=by
  have:=hw
  unfold j6 at this
  simp only[Bool.and_eq_true,decide_eq_true_iff] at this
  exact this.1
 rw[Q0 hf] at hw
 simp only[Bool.and_eq_true,beq_iff_eq] at hw
 have hlt:∀i,i<h.za.length->jL j i<(qr h.za j).length:=fun i hi=>by
  rw[kf]
  unfold jL
  split <;> omega
 have hf':Jq (qr h.za j) 0:=fun i hi hne=>by
  rw[kf] at hi
  obtain⟨k,rfl⟩:∃k,i=k+1:=⟨i - 1,by omega⟩
  have hk:k<h.za.length:=by omega
  obtain⟨_,hq⟩:=List.getElem?_eq_some_iff.1 (wk (j:=j) hk)
  rw[hq]
  by_cases e:k=j
  ·rw[if_pos e]
   decide
  ·rw[if_neg e]
   show(h.za[k].ze.map (Kt (jL j))).length<6
   rw[List.length_map]
   exact hf k hk (by omega)
 have hdp:qO (qr h.za j) 0=qO h.za h.now:=by
  have hz:up (jL j) h.now=0:=by rw[hn,wL];simp[jL]
  unfold qO
  cases e:xX h.za h.za.length h.now with
  | none =>
   exfalso
   have h2:=hw.2
   unfold qO at h2
   rw[e,hn] at h2
   have h3:((j:Int) == -1)=true:=by rw[<-h2];rfl
   simp only[beq_iff_eq] at h3
   omega
  | some n =>
   have:=Uf hlt (fun i hi=>Xm hi) (fun i hi=>(g.cl i hi).sd) h.za.length (qr h.za j).length h.now n (by rw[kf];omega) g.head.now.1 g.head.now.2 e
   rw[hz] at this
   rw[this]
 have hlv:yY (qr h.za j)=yY h.za:=by
  unfold qr
  rw[kK]
  have hm:((h.za.map (YF (jL j)))[j]'(by simpa using hj)).zv=false:=by
   rw[List.getElem_map]
   exact hd
  have h1:=JC (h.za.map (YF (jL j))) j Va (by simpa using hj) hm rfl
  rw[UE] at h1
  have h2:(YF (jL j) (h.za.getD j Cl.none)).zv=false:=by
   have:h.za.getD j Cl.none=h.za[j]:=by simp[hj]
   rw[this]
   exact hd
  rw[h2]
  simp only[Bool.false_eq_true,if_false]
  omega
 rw[Q0 hf',hdp,hlv]
 simp only[Bool.and_eq_true,beq_iff_eq]
 refine⟨hw.1,?_⟩
 have h2:=hw.2
 rw[h2,hn]
 have:¬((j:Int)=-1):=by omega
 simp[this]
theorem VA {ms:Ms} {h:Hp} {j:Nat} (_g:Good ms h) (_hj:j<h.za.length) (hn:h.now=(j:Int)):XX (jL j) h ⟨qr h.za j,0,h.born,h.zl,h.code⟩ where
 inj a b _ _ e:=zcp j a b e
 lt i hi:=by
  show jL j i<(qr h.za j).length
  rw[kf]
  unfold jL
  split <;> omega
 cl i hi:=Xm hi
 now:=by rw[hn,wL];simp[jL]
 zl:=rfl
 code:=rfl
 born:=rfl
theorem Xa {α:Type} {p:α->Bool}:∀(l:List α) (j:Nat) (d:α),(hj:j<l.length)->p l[j]=true->p d=false->((l.set j d).filter p).length+1=(l.filter p).length
 | [],_,_,h,_,_=>absurd h zF
 | c :: l,0,d,_,h1,h2=>by
  have h1':p c=true:=h1
  simp[h1',h2]
 | c :: l,j+1,d,h,h1,h2=>by
  have:=Xa l j d (by simpa using h) h1 h2
  rw[List.set_cons_succ]
  cases hc:p c <;> simp[hc] <;> omega
def yx (h:Hp) (n:Nat) (c:Int) (j:Nat) (x:Cl):Mc :=
 ⟨c,⟨x.zf,[⟨x.m,x.pc,(j:Int),x.zg,x.ze⟩]⟩ :: List.replicate n Z9,zX (n+1) (n+1),0,(h.za.map wK).set j xH,h.born,h.zl,h.code⟩
def qv (h:Hp) (n:Nat) (c:Int):Mc:=⟨c,List.replicate n Z9,zX n n,-1,h.za.map wK,h.born,h.zl,h.code⟩
theorem vZ {h:Hp} {n:Nat} {c:Int} {j:Nat} (hj:j<h.za.length) (hn:h.now=(j:Int)):ko h (n+1) c=yx h n c j h.za[j]:=by
 have e:h.za.getD j Cl.none=h.za[j]:=by simp[hj]
 unfold ko
 rw[if_neg (by rw[hn];omega),hn,Int.toNat_natCast,e,List.replicate_succ,List.set_cons_zero]
 rfl
theorem vY {h:Hp} {n:Nat} {c:Int} (hn:h.now=-1):ko h n c=qv h n c:=by
 unfold ko
 rw[if_pos hn]
 rfl
theorem YU (n:Nat) (k:Nat):yC (List.replicate n Z9) k=0:=by
 unfold yC
 rw[List.take_replicate,List.map_replicate]
 exact List.sum_replicate_nat.trans (Nat.mul_zero _)
theorem Vh (p:Pg) (n:Nat) (k:Nat):yC (p :: List.replicate n Z9) (k+1)=p.zk.length:=by
 have:=YU n k
 unfold yC at this ⊢
 rw[List.take_succ_cons,List.map_cons,List.sum_cons,this]
 rfl
section
variable {ms:Ms} {h:Hp} {n:Nat} {c:Int} {j:Nat}
theorem ZR (hj:j<h.za.length) {i:Nat} (hi:i<h.za.length):((h.za.map wK).set j xH)[i]?=some (if i=j then xH else wK h.za[i]):=by
 by_cases e:i=j
 ·subst e
  rw[if_pos rfl,List.getElem?_set_self (by simpa using hi)]
 ·rw[if_neg e,List.getElem?_set_ne (Ne.symm e),List.getElem?_map,List.getElem?_eq_getElem hi]
  rfl
theorem VJ (hj:j<h.za.length) (x:Cl) {i:Nat} (hi:i<h.za.length):jM (yx h n c j x) (i:Int)=if i=j then xH else wK h.za[i]:=by
 unfold jM yx
 rw[Int.toNat_natCast,List.getD_eq_getElem?_getD,ZR hj hi]
 rfl
theorem Zy (x:Cl):zY (yx h n c j x).zd=1:=by
 unfold zY yx
 rw[List.length_cons,Vh]
 rfl
theorem zcE (hj:j<h.za.length) (x:Cl) {i:Nat} (hi:i<h.za.length):jY (yx h n c j x) (i:Int)=(jL j i:Int):=by
 unfold jY
 rw[VJ hj x hi,Zy]
 by_cases e:i=j
 ·rw[if_pos e]
  unfold jL
  rw[if_pos e,if_neg (show ¬(xH.page=-1) by decide)]
  rfl
 ·rw[if_neg e]
  unfold jL
  rw[if_neg e,if_pos (show(wK h.za[i]).page=-1 from rfl)]
  omega
theorem zai (hj:j<h.za.length) (x:Cl) {s:Int} (h0:-1<=s) (h1:s<(h.za.length:Int)):xw (yx h n c j x) s=up (jL j) s:=by
 unfold xw
 by_cases e:s=-1
 ·rw[if_pos e,e,YG _ (by omega)]
 ·rw[if_neg e]
  obtain⟨i,rfl⟩:=Int.eq_ofNat_of_zero_le (show 0<=s by omega)
  rw[zcE hj x (by omega),wL]
theorem QN {k:Nat} {f:Int->Int} {φ:Nat->Nat} (hf:∀i:Nat,i<k->f (i:Int)=(φ i:Int)) {l:zL} (hl:yk (k:Int) l=true):l.map (jm f)=l.map (Kt φ):=by
 refine List.map_congr_left fun v hv=>?_
 have h1:=qJ.1 hl v hv
 unfold jm Kt
 by_cases e:v.1=2
 ·rw[if_pos e,if_pos e]
  have h2:yO v.2 0 ((k:Int) - 1)=true:=by
   unfold yN at h1
   rw[if_neg (by omega),if_neg (by omega),if_pos e] at h1
   exact h1
  have h3:=zH.1 h2
  obtain⟨i,hi⟩:=Int.eq_ofNat_of_zero_le h3.1
  have h4:f v.2=up φ v.2:=by
   rw[hi,hf i (by omega),wL]
  rw[h4,e]
 ·rw[if_neg e,if_neg e]
theorem YA (g:Good ms h) (hj:j<h.za.length) (hd:h.za[j].zv=false):yW (yx h n c j h.za[j])=⟨qr h.za j,0,0,[],0⟩:=by
 have hgd:h.za.getD j Cl.none=h.za[j]:=by simp[hj]
 have hpl:∀i:Nat,i<h.za.length->jY (yx h n c j h.za[j]) (i:Int)=(jL j i:Int):=fun i hi=>zcE hj _ hi
 have hca:∀i:Nat,i<h.za.length->xw (yx h n c j h.za[j]) (i:Int)=(jL j i:Int):=fun i hi=>by
  rw[zai hj _ (by omega) (by omega),wL]
 have hfr:∀k,yK (yx h n c j h.za[j]) (k+1)=[YF (jL j) h.za[j]]\/n<k:=fun k=>by
  induction k with
  | zero =>
   left
   have hp:uK (yx h n c j h.za[j]) ((0:Nat):Int)=⟨h.za[j].zf,[⟨h.za[j].m,h.za[j].pc,(j:Int),h.za[j].zg,h.za[j].ze⟩]⟩:=rfl
   have hf0:Wx (yx h n c j h.za[j]) ((0:Nat):Int) ((0:Nat):Int)=⟨h.za[j].m,h.za[j].pc,(j:Int),h.za[j].zg,h.za[j].ze⟩:=rfl
   rw[kw,hp]
   show [] ++ xh _ 0 1=_
   unfold xh
   rw[List.range_one,List.map_singleton,hf0]
   unfold vk zak
   rw[if_neg (Nat.lt_irrefl 0),hp]
   show [] ++ [(⟨h.za[j].m,h.za[j].pc,h.za[j].zg.map (jm (jY (yx h n c j h.za[j]))),h.za[j].ze.map (jm (jY (yx h n c j h.za[j]))),xw (yx h n c j h.za[j]) h.za[j].zf,false⟩:Cl)]=_
   rw[QN hpl (g.cl j hj).vt,QN hpl (g.cl j hj).vs,zai hj _ (g.cl j hj).sd.1 (g.cl j hj).sd.2]
   unfold YF
   rw[hd]
   rfl
  | succ k ih =>
   by_cases hk:n<k+1
   ·exact .inr hk
   left
   rcases ih with ih | ih
   ·rw[kw,ih]
    have hp:uK (yx h n c j h.za[j]) ((k+1:Nat):Int)=Z9:=by
     unfold uK
     rw[Int.toNat_natCast]
     show((⟨h.za[j].zf,[⟨h.za[j].m,h.za[j].pc,(j:Int),h.za[j].zg,h.za[j].ze⟩]⟩:Pg) :: List.replicate n Z9).getD (k+1) Pg.none=Z9
     rw[List.getD_cons_succ,List.getD_eq_getElem?_getD,List.getElem?_replicate]
     split <;> rfl
    rw[hp]
    rfl
   ·omega
 have hfr':yK (yx h n c j h.za[j]) (n+1)=[YF (jL j) h.za[j]]:=by
  rcases hfr n with e | e
  ·exact e
  ·omega
 have htl:(yx h n c j h.za[j]).zh.length=h.za.length:=by simp[yx]
 have Z3:yX (yx h n c j h.za[j]) h.za.length=(h.za.map (YF (jL j))).set j Va:=by
  refine List.ext_getElem (by simp[yX]) fun i h1 h2=>?_
  have hi:i<h.za.length:=by simpa using h2
  have e1:(yX (yx h n c j h.za[j]) h.za.length)[i]=qE (yx h n c j h.za[j]) (jM (yx h n c j h.za[j]) (i:Int)):=by simp[yX]
  rw[e1,VJ hj _ hi]
  by_cases e:i=j
  ·subst e
   rw[if_pos rfl,List.getElem_set_self]
   rfl
  ·rw[if_neg e,List.getElem_set_ne (Ne.symm e),List.getElem_map]
   show KK _ h.za[i]=_
   unfold KK YF
   rw[QN hca (g.cl i hi).vt,QN hca (g.cl i hi).vs,zai hj _ (g.cl i hi).sd.1 (g.cl i hi).sd.2]
 have hpn:(yx h n c j h.za[j]).zd.length=n+1:=by simp[yx]
 have QB:un (yx h n c j h.za[j])=0:=by
  unfold un
  rw[hpn,if_pos]
  ·rfl
  ·exact⟨zH.2 ⟨by show(0:Int)<=0;omega,by show(0:Int)<=((n+1:Nat):Int) - 1;omega⟩,by show(1:Nat)≠0;omega⟩
 unfold yW
 rw[hpn,htl,hfr',Z3,QB]
 unfold qr
 rw[hgd]
 rfl
end
theorem UR {m:Mc} {n:Nat} (hp:m.zd.length=n) (ho:m.order=zX n n):ju m=true:=by
 unfold ju
 rw[hp,ho]
 simp only[Bool.and_eq_true,List.all_eq_true,List.mem_range,decide_eq_true_iff]
 exact⟨qp n n,fun k hk=>zbf hk⟩
theorem zaC {ms:Ms} {m:Mc} (h1:yt ms=true) (h2:yQ m.zd.length m.cells=true) (h3:ju m=true) (h4:XM m=true) (h5:yO m.born 1 30=true) (h6:(vB m:Int)<=m.born) (h7:yk ms.length m.zl=true) (h8:yO m.code 0 3=true) (h9:m.code=1 ↔ m.now=-1):vy ms m=true:=by
 unfold vy
 rw[h1,h2,h3,h4,h5,h7,h8]
 have h10:((m.code == 1) == (m.now == -1))=true:=by
  by_cases e:m.code=1
  ·rw[h9.1 e,e];rfl
  ·have e2:¬m.now=-1:=fun x=>e (h9.2 x)
   have a:(m.code == 1)=false:=by simpa using e
   have b:(m.now == -1)=false:=by simpa using e2
   rw[a,b]
   rfl
 rw[h10]
 simp[h6]
section
variable {ms:Ms} {h:Hp} {n:Nat} {c:Int} {j:Nat}
theorem Qc (cs:List Cl) (k:Nat):ua (cs.map wK) (cs.map wK).length=cs.length/\k=k:=by
 refine⟨?_,rfl⟩
 unfold ua
 rw[List.take_length,List.filter_eq_self.2 fun t ht=>by
  obtain⟨x,_,rfl⟩:=List.mem_map.1 ht
  rfl,List.length_map]
theorem zbp (hj:j<h.za.length) (x:Cl):vB (yx h n c j x)=h.za.length:=by
 unfold vB
 rw[Zy]
 show 1+ua ((h.za.map wK).set j xH) ((h.za.map wK).set j xH).length=_
 have h1:=Xa (p:=fun t:Tw=>t.page == -1) (h.za.map wK) j xH (by simpa using hj) (by rw[List.getElem_map];rfl) rfl
 have h2:=(Qc h.za 0).1
 unfold ua at h2 ⊢
 rw[List.take_length] at h2 ⊢
 omega
theorem zcD (g:Good ms h) (hj:j<h.za.length) (hn:h.now=(j:Int)) (hr:yQ ((n+1:Nat):Int) c=true) (x:Cl):vy ms (yx h n c j x)=true:=by
 have hp:(yx h n c j x).zd.length=n+1:=by simp[yx]
 have hh:=g.head
 refine zaC hh.p (by rw[hp];exact hr) (UR hp rfl) ?_ (zH.2 hh.born) (by rw[zbp hj];exact hh.few) hh.zl (zH.2 hh.code) ⟨fun e=>?_,fun e=>absurd e (by show ¬(0:Int)=-1;omega)⟩
 ·unfold XM
  have hl:=Xo (n+1) (by omega) (by rw[qp];omega)
  have:(zX (n+1) (n+1)).getD ((zX (n+1) (n+1)).length - 1) 0=0:=by
   rw[qp,List.getD_eq_getElem?_getD,List.getElem?_eq_getElem (by rw[qp];omega)]
   exact hl
  show((0:Int) == -1 || ((0:Int) == (zX (n+1) (n+1)).getD ((zX (n+1) (n+1)).length - 1) 0 && decide (0<1)))=true
  rw[this]
  rfl
 ·have:=hh.fin.1 e
  rw[hn] at this
  omega
theorem cl_of {k:Nat} {x y:Cl} (hc:ClP ms k x) (hm:y.m=x.m) (hpc:y.pc=x.pc) (ht:y.zg=x.zg) (hs:y.ze=x.ze) (hsd:y.zf=-1) (hd:y.zv=false):yT ms k y=true :=
 ws.2 ⟨by rw[hm];exact hc.m,by rw[hpc,hm];exact hc.pc,by rw[ht,hm];exact hc.t,by rw[hs];exact hc.s,by rw[hsd];omega,by rw[ht];exact hc.vt,by rw[hs];exact hc.vs,by rw[hd];intro e;cases e⟩
theorem Jn {m:Mc} {i:Nat} (hc:0<=m.cells):xg ms m i Z9=true:=by
 unfold xg kj Z9
 have:decide ((je [] ([]:List Fr).length:Int)<=m.cells)=true:=decide_eq_true (by show(0:Int)<=m.cells;exact hc)
 show(true && (decide ((je [] ([]:List Fr).length:Int)<=m.cells) && true))=true
 rw[this]
 rfl
theorem KU (g:Good ms h) (hj:j<h.za.length) (hr:yQ ((n+1:Nat):Int) c=true) (k:Nat) (hk:k<(yx h n c j h.za[j]).zd.length):xg ms (yx h n c j h.za[j]) k (yx h n c j h.za[j]).zd[k]=true:=by
 have hc:=(xp hr)
 have htl:(yx h n c j h.za[j]).zh.length=h.za.length:=by simp[yx]
 cases k with
 | succ k =>
  have e:(yx h n c j h.za[j]).zd[k+1]=Z9:=by
   have h1:(yx h n c j h.za[j]).zd[k+1]?=some Z9:=by
    show(_ :: List.replicate n Z9)[k+1]?=_
    rw[List.getElem?_cons_succ,List.getElem?_replicate,if_pos (by simp[yx] at hk;omega)]
   exact(List.getElem?_eq_some_iff.1 h1).2
  rw[e]
  exact Jn (by show 0<=c;omega)
 | zero =>
  have hcl:=g.cl j hj
  show xg ms (yx h n c j h.za[j]) 0 ⟨h.za[j].zf,[⟨h.za[j].m,h.za[j].pc,(j:Int),h.za[j].zg,h.za[j].ze⟩]⟩=true
  have hf:xP ms (yx h n c j h.za[j]) 0 0 ⟨h.za[j].m,h.za[j].pc,(j:Int),h.za[j].zg,h.za[j].ze⟩=true:=by
   unfold xP
   rw[htl,cl_of (y:=Uk ⟨h.za[j].m,h.za[j].pc,(j:Int),h.za[j].zg,h.za[j].ze⟩) hcl rfl rfl rfl rfl rfl rfl]
   show(true && ((j:Int) == -1 || (yO (j:Int) 0 ((h.za.length:Int) - 1) && ((jM (yx h n c j h.za[j]) (j:Int)).page == ((0:Nat):Int) && (jM (yx h n c j h.za[j]) (j:Int)).place == ((0:Nat):Int)))))=true
   rw[VJ hj _ hj,if_pos rfl,zH.2 ⟨by omega,by omega⟩]
   simp[xH]
  have hct:(je [(⟨h.za[j].m,h.za[j].pc,(j:Int),h.za[j].zg,h.za[j].ze⟩:Fr)] 1:Int)<=c:=by
   have h4:=(ww (kx.2 g)).small j hj
   simp[je]
   omega
  have hb:kj (yx h n c j h.za[j]) ⟨h.za[j].zf,[⟨h.za[j].m,h.za[j].pc,(j:Int),h.za[j].zg,h.za[j].ze⟩]⟩=true:=by
   unfold kj
   by_cases e:h.za[j].zf=-1
   ·simp[e]
   ·obtain⟨i,hi⟩:=Int.eq_ofNat_of_zero_le (show 0<=h.za[j].zf by have:=hcl.sd;omega)
    have hil:i<h.za.length:=by have:=hcl.sd;omega
    show(h.za[j].zf == -1 || (decide (1≠0) && yO h.za[j].zf 0 (((yx h n c j h.za[j]).zh.length:Int) - 1) && ((jM (yx h n c j h.za[j]) h.za[j].zf).page == -1 || (yO (jM (yx h n c j h.za[j]) h.za[j].zf).page 0 (((yx h n c j h.za[j]).zd.length:Int) - 1) && (jM (yx h n c j h.za[j]) h.za[j].zf).place == ((uK (yx h n c j h.za[j]) (jM (yx h n c j h.za[j]) h.za[j].zf).page).zk.length:Int) - 1))))=true
    rw[htl,hi,VJ hj _ hil,zH.2 ⟨by omega,by omega⟩]
    by_cases e2:i=j
    ·rw[if_pos e2]
     have hpn:(yx h n c j h.za[j]).zd.length=n+1:=by simp[yx]
     rw[hpn]
     have h1:yO xH.page 0 (((n+1:Nat):Int) - 1)=true:=zH.2 ⟨by show(0:Int)<=0;omega,by show(0:Int)<=_;omega⟩
     rw[h1]
     have h2:(xH.place == ((uK (yx h n c j h.za[j]) xH.page).zk.length:Int) - 1)=true:=rfl
     rw[h2]
     simp
    ·rw[if_neg e2]
     have:((wK h.za[i]).page == -1)=true:=rfl
     rw[this]
     simp
  unfold xg
  rw[hb]
  simp only[List.length_cons,List.length_nil,Nat.zero_add,List.range_one,List.all_cons,List.all_nil,List.getD_cons_zero,hf,Bool.and_true,Bool.true_and]
  exact decide_eq_true hct
theorem J1 {m:Mc} {i k:Nat} {x:Cl} (hl:m.zh.length=k) (hc:ClP ms k x):qW ms m i (wK x)=true:=by
 unfold qW wK
 rw[if_pos rfl,hl,ws.2 hc]
 rfl
theorem JV (g:Good ms h) (hj:j<h.za.length) (k:Nat) (hk:k<(yx h n c j h.za[j]).zh.length):qW ms (yx h n c j h.za[j]) k (yx h n c j h.za[j]).zh[k]=true:=by
 have htl:(yx h n c j h.za[j]).zh.length=h.za.length:=by simp[yx]
 have hk':k<h.za.length:=by omega
 have e:(yx h n c j h.za[j]).zh[k]=if k=j then xH else wK h.za[k]:=(List.getElem?_eq_some_iff.1 (ZR hj hk')).2
 rw[e]
 by_cases e2:k=j
 ·rw[if_pos e2,e2]
  have hf:Uj (yx h n c j h.za[j]) 0 0=true:=by
   unfold Uj
   have hpn:(yx h n c j h.za[j]).zd.length=n+1:=by simp[yx]
   rw[hpn,zH.2 ⟨by omega,by omega⟩]
   rfl
  unfold qW
  rw[if_neg (show ¬(xH.page=-1) by decide)]
  show(Uj (yx h n c j h.za[j]) 0 0 && ((j:Int) == (j:Int) && js xH.left))=true
  rw[hf]
  simp[js,xH]
 ·rw[if_neg e2]
  exact J1 htl (g.cl k hk')
theorem zdT (g:Good ms h) (hj:j<h.za.length) (hn:h.now=(j:Int)) (hd:h.za[j].zv=false) (hr:yQ ((n+1:Nat):Int) c=true):jq ms (yx h n c j h.za[j])=true:=by
 rw[QH (zcD g hj hn hr _) (fun k hk=>KU g hj hr k hk) fun k hk=>JV g hj k hk,YA g hj hd]
 exact Kk g hj hn hd
theorem zbJ {i:Nat} (hi:i<h.za.length):jM (qv h n c) (i:Int)=wK h.za[i]:=by
 rw[vQ (by simpa [qv] using hi)]
 simp[qv]
theorem Zh:zY (qv h n c).zd=0:=YU n _
theorem zdH (i:Nat):uK (qv h n c) (i:Int)=Z9:=by
 unfold uK
 rw[Int.toNat_natCast]
 show(List.replicate n Z9).getD i Pg.none=Z9
 rw[List.getD_eq_getElem?_getD,List.getElem?_replicate]
 split <;> rfl
theorem zdV {x:Cl} {k:Nat} (_hc:ClP ms k x):YF (fun i=>i) x=x:=by
 have hv:∀l:zL,l.map (Kt fun i=>i)=l:=fun l=>by
  refine(List.map_congr_left fun v _=>?_).trans (List.map_id l)
  unfold Kt
  split
  ·rename_i e
   unfold up
   split
   ·rename_i e2
    show((2:Int),((v.2.toNat:Nat):Int))=v
    rw[Int.toNat_of_nonneg e2,<-e]
   ·show((2:Int),v.2)=v
    rw[<-e]
  ·rfl
 have hs:up (fun i=>i) x.zf=x.zf:=by
  unfold up
  split
  ·rename_i e2
   exact Int.toNat_of_nonneg e2
  ·rfl
 unfold YF
 rw[hv,hv,hs]
theorem Yg (g:Good ms h):yW (qv h n c)=⟨h.za,-1,0,[],0⟩:=by
 have hfr:∀k,yK (qv h n c) k=[]:=fun k=>by
  induction k with
  | zero=>rfl
  | succ k ih=>rw[kw,ih,zdH];rfl
 have hca:∀i:Nat,i<h.za.length->xw (qv h n c) (i:Int)=(i:Int):=fun i hi=>by
  unfold xw jY
  rw[if_neg (by omega),zbJ hi,Zh,if_pos (show(wK h.za[i]).page=-1 from rfl)]
  omega
 have htl:(qv h n c).zh.length=h.za.length:=by simp[qv]
 have Z3:yX (qv h n c) h.za.length=h.za:=by
  refine List.ext_getElem (by simp[yX]) fun i h1 h2=>?_
  have e1:(yX (qv h n c) h.za.length)[i]=qE (qv h n c) (jM (qv h n c) (i:Int)):=by simp[yX]
  have hsd:xw (qv h n c) h.za[i].zf=up (fun i=>i) h.za[i].zf:=by
   by_cases e:h.za[i].zf=-1
   ·rw[e,YG _ (by omega)]
    rfl
   ·obtain⟨q,hq⟩:=Int.eq_ofNat_of_zero_le (show 0<=h.za[i].zf by have:=(g.cl i h2).sd;omega)
    rw[hq,hca q (by have:=(g.cl i h2).sd;omega),wL]
  rw[e1,zbJ h2]
  show KK _ h.za[i]=_
  unfold KK
  rw[QN (φ:=fun i=>i) hca (g.cl i h2).vt,QN (φ:=fun i=>i) hca (g.cl i h2).vs,hsd]
  exact zdV (g.cl i h2)
 unfold yW
 rw[hfr,htl,Z3]
 rfl
theorem zbI (g:Good ms h) (hn:h.now=-1) (hr:yQ (n:Int) c=true):vy ms (qv h n c)=true:=by
 have hp:(qv h n c).zd.length=n:=by simp[qv]
 have hh:=g.head
 have hcl:vB (qv h n c)=h.za.length:=by
  unfold vB
  rw[Zh]
  have:=(Qc h.za 0).1
  show 0+ua (h.za.map wK) (h.za.map wK).length=_
  omega
 exact zaC hh.p (by rw[hp];exact hr) (UR hp rfl) rfl (zH.2 hh.born) (by rw[hcl];exact hh.few) hh.zl (zH.2 hh.code) ⟨fun _=>rfl,fun _=>hh.fin.2 (by rw[hn];omega)⟩
theorem Kz (hr:yQ (n:Int) c=true) (k:Nat) (hk:k<(qv h n c).zd.length):xg ms (qv h n c) k (qv h n c).zd[k]=true:=by
 have e:(qv h n c).zd[k]=Z9:=by simp[qv]
 rw[e]
 exact Jn (by have:=xp hr;show 0<=c;omega)
theorem KA (g:Good ms h) (k:Nat) (hk:k<(qv h n c).zh.length):qW ms (qv h n c) k (qv h n c).zh[k]=true:=by
 have htl:(qv h n c).zh.length=h.za.length:=by simp[qv]
 have e:(qv h n c).zh[k]=wK (h.za[k]'(by omega)):=by simp[qv]
 rw[e]
 exact J1 htl (g.cl k (by omega))
theorem zdG (g:Good ms h) (hn:h.now=-1) (hr:yQ (n:Int) c=true):jq ms (qv h n c)=true:=by
 rw[QH (zbI g hn hr) (fun k hk=>Kz hr k hk) fun k hk=>KA g k hk,Yg g]
 have ok:=kx.2 g
 have:=J4 (fun i hi=>ws.2 (g.cl i hi)) g.head.now.1 g.head.now.2
 rw[hn] at this
 show j6 h.za (-1)=true
 rw[this]
 unfold ym at ok
 simp only[Bool.and_eq_true] at ok
 exact ok.2
theorem uB {ms:Ms} {h:Hp} (g:Good ms h):h.now=-1\/∃j:Nat,h.now=(j:Int)/\∃hj:j<h.za.length,h.za[j].zv=false:=by
 by_cases e:h.now=-1
 ·exact .inl e
 ·right
  have:=g.head.now
  obtain⟨j,hj⟩:=Int.eq_ofNat_of_zero_le (show 0<=h.now by omega)
  obtain⟨l,hw⟩:=g.w
  rw[hj] at hw
  obtain⟨hl,_,_,hd,_⟩:=hw.head
  exact⟨j,hj,hl,hd⟩
theorem zaF {c:Int} (g:Good ms h) (hr:yQ (n:Int) c=true):jq ms (ko h n c)=true:=by
 have h1:=(xp hr).1
 rcases uB g with e | ⟨j,e,hj,hd⟩
 ·rw[vY e]
  exact zdG g e hr
 ·obtain⟨k,rfl⟩:∃k,n=k+1:=⟨n - 1,by omega⟩
  rw[vZ hj e]
  exact zdT g hj e hd hr
theorem zba {c:Int} (g:Good ms h) (hr:yQ (n:Int) c=true):zaQ (ko h n c):=by
 have h1:=(xp hr).1
 rcases uB g with e | ⟨j,e,hj,hd⟩
 ·rw[vY e]
  exact VO g.head.p (fun k hk=>Kz hr k hk) fun k hk=>KA g k hk
 ·obtain⟨k,rfl⟩:∃k,n=k+1:=⟨n - 1,by omega⟩
  rw[vZ hj e]
  exact VO g.head.p (fun k hk=>KU g hj hr k hk) fun k hk=>JV g hj k hk
theorem J3 {h h':Hp} (h1:h'.za=h.za) (h2:h'.now=h.now):j5 h'=j5 h:=by
 obtain⟨a,b,c,d,e⟩:=h
 obtain⟨a',b',c',d',e'⟩:=h'
 dsimp only at h1 h2
 subst h1 h2
 rfl
theorem zbb {c:Int} (g:Good ms h) (hn:1<=n):j5 (yW (ko h n c))=j5 h:=by
 rcases uB g with e | ⟨j,e,hj,hd⟩
 ·rw[vY e,Yg g]
  exact J3 rfl e.symm
 ·obtain⟨k,rfl⟩:∃k,n=k+1:=⟨n - 1,by omega⟩
  rw[vZ hj e,YA g hj hd,<-(VA g hj e).view g]
  exact J3 rfl rfl
theorem WU {c:Int} (g:Good ms h) (hr:yQ (n:Int) c=true) (hs:h.zl.length<=1048576):(ko h n c).small:=by
 have hrr:=xp hr
 have P:=ww (kx.2 g)
 have h30:=P.n30
 have hcl:∀k,(hk:k<h.za.length)->h.za[k].small:=fun k hk=>by
  have:=P.small k hk
  unfold Cl.small
  omega
 rcases uB g with e | ⟨j,e,hj,hd⟩
 ·rw[vY e]
  refine⟨by simp[qv];omega,fun i hi=>by simp[qv,Z9],by simp[qv];omega,by show(zX n n).length<=_;rw[qp];omega,hs,fun i hi k hk=>by simp[qv,Z9] at hk,fun i hi=>?_⟩
  have hi':i<h.za.length:=by simpa [qv] using hi
  have e2:(qv h n c).zh[i].left=h.za[i]:=by simp[qv,wK]
  rw[e2]
  exact hcl i hi'
 ·obtain⟨k,rfl⟩:∃k,n=k+1:=⟨n - 1,by omega⟩
  rw[vZ hj e]
  have jN:∀i,(hi:i<(yx h k c j h.za[j]).zd.length)->(yx h k c j h.za[j]).zd[i]=if i=0 then⟨h.za[j].zf,[⟨h.za[j].m,h.za[j].pc,(j:Int),h.za[j].zg,h.za[j].ze⟩]⟩ else Z9:=fun i hi=>by
   cases i with
   | zero=>rfl
   | succ i =>
    have h1:(yx h k c j h.za[j]).zd[i+1]?=some Z9:=by
     show(_ :: List.replicate k Z9)[i+1]?=_
     rw[List.getElem?_cons_succ,List.getElem?_replicate,if_pos (by simp[yx] at hi;omega)]
    exact(List.getElem?_eq_some_iff.1 h1).2
  have hP:=P.small j hj
  refine⟨by simp[yx];omega,fun i hi=>?_,by simp[yx];omega,by show(zX (k+1) (k+1)).length<=_;rw[qp];omega,hs,fun i hi q hq=>?_,fun i hi=>?_⟩
  ·rw[jN i hi]
   split
   ·show 1<=1048576;omega
   ·show 0<=1048576;omega
  ·have e3:=jN i hi
   generalize (yx h k c j h.za[j]).zd[i]=X at e3 hq ⊢
   subst e3
   by_cases e4:i=0
   ·simp only[if_pos e4] at hq ⊢
    have:q=0:=by simpa using hq
    subst this
    show h.za[j].zg.length<=1048576/\h.za[j].ze.length<=1048576
    omega
   ·simp only[if_neg e4] at hq
    exact absurd hq zF
  ·have hi':i<h.za.length:=by simpa [yx] using hi
   have e2:(yx h k c j h.za[j]).zh[i]=if i=j then xH else wK h.za[i]:=(List.getElem?_eq_some_iff.1 (ZR hj hi')).2
   rw[e2]
   split
   ·unfold Cl.small
    show 0<=_/\0<=_
    omega
   ·exact hcl i hi'
end
end Go.Proofs.YtjbgpcileapogaaGreat
