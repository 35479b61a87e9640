/-
  HeapTrim of both sides: without what cannot be come to.
-/
import Derived.Test.YtbjgjjkgfnfejaaGreatDoorPgBack
import Derived.Lib.MinMax
namespace Go.Proofs.YtbjgjjkgfnfejaaGreatDoor
open Go.RowKit
theorem Jl {P:Program} {t tx ty e:TypeId} {i:TypeInfo} {z:Value} {B:Nat} (ht:P.underlying t=some (.slice e)) (hi:P.info? e=some i) (hz:i.zero=some z) (hzs:z.cells.size=i.size) (hby:i.bytes<=1000)
 {w:World} {v:Value} {n:Nat} {xs:List Value} (zE:ym B i.size w v n xs) (x:Value) (m:Nat) (news:List Value) (hs:Src P i.size tx x m news w) (hL:n+m<=2000000) (hB:B<=w.heap.size) :
 ∃v' w',(Builtin.append_ #[t,tx] ty #[v,x]).run P w=.ok v' w'/\ym B i.size w' v' (n+m) (xs ++ news)/\w.grownBy w' v.ownBlock/\(v'.ownBlock=v.ownBlock\/v'.ownBlock=some w.heap.size):=by
 obtain⟨hxl,zE⟩:=zE
 have hll:(xs ++ news).length=(n+m) * i.size:=by rw[List.length_append,hxl,hs.newsLen,Nat.add_mul]
 have wL:∀(k:Nat),n+m<=k->k<=maxLen ->
  ym B i.size (w.drew.alloc (.cells ((xs ++ news).toArray ++ Builtin.zeroCells z.cells (k - (n+m))) e)) (zK w.heap.size 0 (n+m) k) (n+m) (xs ++ news):=by
  intro k hqk hk
  have Ua:(Builtin.zeroCells z.cells (k - (n+m))).size=(k - (n+m)) * i.size:=by rw[size_zeroCells,hzs]
  have hblk:(w.drew.alloc (.cells ((xs ++ news).toArray ++ Builtin.zeroCells z.cells (k - (n+m))) e)).heap[w.heap.size]?=some (.cells ((xs ++ news).toArray ++ Builtin.zeroCells z.cells (k - (n+m))) e):=Go.Deep.blk_alloc_new w.drew _
  have hsum:(n+m) * i.size+(k - (n+m)) * i.size=k * i.size:=by rw[<-Nat.add_mul];congr 1;omega
  refine⟨hll,.inr ⟨w.heap.size,0,k,rfl,hB,by simp,hqk,hk,fun j hj=>?_,fun j hj=>?_⟩⟩
  ·refine⟨?_,?_⟩
   ·rw[Nat.zero_add,cell_of_row _ _ _ _ _ _ hblk]
    rw[Array.getElem?_eq_getElem (by rw[Array.size_append,Ua,List.size_toArray,hll];omega)];rfl
   ·unfold World.frozen?
    rw[hblk]
    simp
  ·rw[Nat.zero_add,cell_of_row _ _ _ _ _ _ hblk,Array.getElem?_append_left (by rw[List.size_toArray];exact hj)]
   simp[List.getElem?_eq_getElem hj]
 have hgb:∀(o:Obj) (row:Option Nat),w.grownBy (w.drew.alloc o) row:=fun o row =>
  ⟨rfl,rfl,rfl,Nat.le_of_lt (by rw[World.size_alloc];exact Nat.lt_succ_self _),fun k hk _=>Below.heap_alloc w.drew _ k hk⟩
 rcases zE with⟨rfl,rfl⟩ | ⟨g,off,cap,rfl,hBg,hg,hl,hmx,hsp,hx⟩
 ·obtain rfl:xs=[]:=List.eq_nil_of_length_eq_zero (by simpa using hxl)
  by_cases hm0:m=0
  ·subst hm0
   obtain rfl:news=[]:=List.eq_nil_of_length_eq_zero (by simpa using hs.newsLen)
   refine⟨zQ,w,?_,ym.nil _ _ _,World.grownBy.refl _ _,.inl rfl⟩
   rcases hs.kind with⟨e',hk⟩ | hk <;> simp[Builtin.append_,run_underlying ht,run_underlying hk,sizeOf,typeInfo,hi,hs.len,hs.cells]
  ·have hr:=run_append_grow_src (P:=P) w t tx ty e i z ht hi hz none 0 0 [] (run_firstCells_none _ _ _ _ _) x m news hs (by omega) (by omega) (growslice_fits (by omega) (by have:=Nat.mul_le_mul (show 0+m<=2000000 by omega) hby;omega))
   refine⟨_,_,hr,?_,hgb _ _,.inr rfl⟩
   exact wL (grownCap w (0+m) 0 e) (grownCap_ge _ _ _ _) (grownCap_le_maxLen _ _ _ _ (by unfold maxLen;omega))
 ·by_cases hroom:n+m<=cap
  ·have hle:n * i.size+news.length<=cap * i.size:=by rw[hs.newsLen,<-Nat.add_mul];exact Nat.mul_le_mul_right _ hroom
   have hc:∀j,j<news.length->(w.cell? (zH g (off+n * i.size+j))).isSome=true:=fun j hj=>by
    have:=(hsp (n * i.size+j) (by omega)).1
    rwa [<-Nat.add_assoc] at this
   have hf:∀j,j<news.length->w.frozen? (zH g (off+n * i.size+j))=false:=fun j hj=>by
    have:=(hsp (n * i.size+j) (by omega)).2
    rwa [<-Nat.add_assoc] at this
   have hr:=run_append_room_src (P:=P) w t tx ty e i ht hi g off n cap x m news hs hroom hc hf
   obtain⟨r1,r2,r3⟩:=ZE g news (off+n * i.size) w
   refine⟨_,_,hr,⟨hll,.inr ⟨g,off,cap,rfl,hBg,by rw[ku];exact hg,hroom,hmx,fun j hj=>?_,fun j hj=>?_⟩⟩,⟨r1,r2,r3,by rw[ku];exact Nat.le_refl _,fun k _ hk=>wV _ _ _ _ _ (fun e=>hk (by rw[e];rfl))⟩,.inl rfl⟩
   ·rw[World.frozen?_setCells]
    refine⟨?_,(hsp j hj).2⟩
    by_cases hin:n * i.size<=j/\j<n * i.size+news.length
    ·have:=World.cell?_setCells_in g news (off+n * i.size) w hc (j - n * i.size) (by omega)
     rw[show off+n * i.size+(j - n * i.size)=off+j by omega] at this
     rw[this];rfl
    ·rw[World.cell?_setCells_out g _ _ _ _ (fun _ _=>by simp;omega)]
     exact(hsp j hj).1
   ·rw[List.length_append] at hj
    by_cases hin:j<xs.length
    ·rw[World.cell?_setCells_out g _ _ _ _ (fun _ _=>by simp;omega),hx j hin]
     simp[hin]
    ·have:=World.cell?_setCells_in g news (off+n * i.size) w hc (j - n * i.size) (by omega)
     rw[show off+n * i.size+(j - n * i.size)=off+j by omega] at this
     rw[this,List.getElem_append_right (by omega)]
     simp only[hxl]
  ·have hr:=run_append_grow_src (P:=P) w t tx ty e i z ht hi hz (some ⟨g,off,none⟩) n cap xs (run_firstCells_some _ _ _ _ _ _ _ hxl (fun j u hu=>by
    by_cases hj:j<xs.length
    ·rw[List.getElem?_eq_getElem hj] at hu
     have h1:=hx j hj
     rw[Addr.add_lit]
     show w.cell? _=_
     rw[h1]
     simpa using hu
    ·rw[List.getElem?_eq_none (by omega)] at hu;simp at hu)) x m news hs (by omega) (by omega) (growslice_fits (by omega) (by have:=Nat.mul_le_mul (show n+m<=2000000 by omega) hby;omega))
   refine⟨_,_,hr,?_,hgb _ _,.inr rfl⟩
   exact wL (grownCap w (n+m) cap e) (grownCap_ge _ _ _ _) (grownCap_le_maxLen _ _ _ _ (by unfold maxLen;omega))
theorem Jm {ty:TypeId} {B:Nat} {w:World} {v xv:Value} {L M:yH} (zE:zl B w v L) (hM:yi w xv M) (hL:L.length+M.length<=2000000) (hB:B<=w.heap.size) :
 ∃v' w',(Builtin.append_ #[32,32] ty #[v,xv]).run Tryz.prog w=.ok v' w'/\zl B w' v' (L ++ M)/\w.grownBy w' v.ownBlock/\(v'.ownBlock=v.ownBlock\/v'.ownBlock=some w.heap.size):=by
 obtain⟨i0,hi,jM,xP,vJ⟩:=info_parts Tryz.infoVal
 have h1:=zE.crow
 have h2:=zbq (P:=Tryz.prog) Tryz.underlying32 hM
 rw[<-xP] at h1 h2
 obtain⟨v',w',hr,hc,hg,hb⟩:=Jl (P:=Tryz.prog) (ty:=ty) Tryz.underlying32 hi jM (by rw[xP];rfl) (by rw[vJ];omega) h1 xv M.length (ja M) h2 hL hB
 refine⟨v',w',hr,?_,hg,hb⟩
 rw[xP,<-QE] at hc
 exact hc.pair (by simp)
theorem Wc {ops:Array Oper} {rest:List Oper} {o:Oper} {act:Act} {Q:Exit->Act->World->Prop} (w:World) (hgd:o.guard=none) (s x:Operand)
 (ho:o.op=.call {callee:=.builtin .append,args:=#[s,x],argTypes:=#[32,32]}) (B:Nat) (v xv:Value) (L M:yH) (hs:act.eval s=v) (hx:act.eval x=xv) (zE:zl B w v L) (hM:yi w xv M)
 (hL:L.length+M.length<=2000000) (hB:B<=w.heap.size)
 (h:∀v' w',zl B w' v' (L ++ M)->w.grownBy w' v.ownBlock->(v'.ownBlock=v.ownBlock\/v'.ownBlock=some w.heap.size)->wpList Tryz.prog ops Q rest (act.put o.dst v') w') :
 wpList Tryz.prog ops Q (o :: rest) act w:=by
 obtain⟨v',w',hr,h2,h3,h4⟩:=Jm (ty:=o.type) zE hM hL hB
 refine wpList_plain hgd fun K hK=>?_
 unfold Oper.wp execOp
 simp only[ho,resolve,invoke,builtin,Sem.run_bind,Sem.run_pure,Result.andThen_ok,List.map_toArray,List.map_cons,List.map_nil,hs,hx,hr]
 exact hK _ _ (h v' w' h2 h3 h4)
set_option maxRecDepth 100000 in
set_option maxHeartbeats 1000000 in
theorem zdt (v:Value) (xs:yH) (w:World) (h:yi w v xs) (hl:xs.length<=1048576) :
 Calls Tryz.prog 46 #[v] w fun e w'=>∃v',e=.returned v'/\zl w.heap.size w' v' xs/\zO w w':=by
 obtain⟨a,c,rfl,hlm,hc⟩:=id h
 have hnil:∀(W:World) (a:Option Addr) (n c:Nat),(binOp .eql 32 (.slice a n c) (zQ)).run Tryz.prog W=.ok (.bool a.isNone) W:=fun W a n c=>Lib.run_eql_slice_nil W _ _ a n c 0 0 Tryz.underlying32
 cases a with
 | none =>
  have hx:xs=[]:=by
   cases xs with
   | nil=>rfl
   | cons y t=>obtain⟨b,o,e,_⟩:=hc 0 (by simp);cases e
  subst hx
  go_enter Tryz.func46,Tryz.ntmps46
  go_wp2
  go_ret
  exact⟨_,rfl,zl.nil _ _,zS⟩
 | some ad =>
  have N1:=zR w (.cells #[] 86)
  have mk:=zl.made (B:=w.heap.size) (w:=w) (e:=86) zD
  have h1:=h.below N1
  go_enter Tryz.func46,Tryz.ntmps46
  go_wp2_with (at_builtin;refine Wc _ (by rfl) _ _ (by rfl) w.heap.size _ _ [] xs (by rfl) (by rfl) mk h1 (by simp;omega) N1.size ?_;intro v2 w2 yO qF yE;rw[List.nil_append] at yO)
  have B2:=N1.grown qF N1.size (fun q e=>(mk.lt q e).1)
  clear qF yE
  go_ret
  exact⟨_,rfl,yO,B2⟩
theorem Ve {ps:List Nat} {p:Nat} (h:yK ps (p:Int)≠-1):p∈ps:=by
 obtain⟨i,hi,_,e⟩:=Jg h
 have:ps[i]=p:=by exact_mod_cast e
 rw[<-this]
 exact List.getElem_mem hi
theorem VQ {h:Hp}:∀(f:Nat) (a:Int) (l:List Nat),qh h.ze f a=some l->(0<=a->yK (found h) a≠-1)->∀p∈l,yK (found h) (p:Int)≠-1
 | f,a,l,hw,ha=>by
  by_cases h0:a<0
  ·rw[yN h0] at hw
   intro p hp
   have:l=[]:=by simpa using hw.symm
   rw[this] at hp
   cases hp
  ·obtain⟨g,n,hn,t,hf,hl,e,_,ht⟩:=xi hw (by omega)
   subst hf hl e
   have hin:=ha (by omega)
   intro p hp
   rcases List.mem_cons.1 hp with rfl | hp
   ·exact hin
   ·refine VQ g _ t ht (fun hs0=>?_) p hp
    have hsn:=Xo h n (Ve hin)
    unfold Xf at hsn
    rw[show h.ze.getD n Cl.none=h.ze[n] by simp[hn]] at hsn
    by_cases yt:h.ze[n].zi<(h.ze.length:Int)
    ·exact hsn hs0 yt
    ·exfalso
     obtain⟨k,hk⟩:=Int.eq_ofNat_of_zero_le hs0
     rw[hk,wY (by omega)] at ht
     cases ht
 termination_by f=>f
theorem zdF {ms:Ms} {h:Hp} (g:Good ms h):0<=h.now->yK (found h) h.now≠-1:=fun h0=>by
 have hc:=zcZ (ps:=[]) h0 g.head.now.2
 obtain⟨t,ht⟩:=QM h.ze h.ze.length 0 (qn h.ze.length [] h.now)
 unfold found
 rw[ht,Jh t hc]
 exact hc
theorem UL {ps:List Nat} {p:Int} (h:p<0):yK ps p=-1:=kZ fun k _=>by omega
def up (φ:Nat->Nat) (a:Int):Int:=if 0<=a then(φ a.toNat:Int) else a
def upV (φ:Nat->Nat) (v:Int × Int):Int × Int:=if v.1=2 then(2,up φ v.2) else v
def upC (φ:Nat->Nat) (c:Cl):Cl:=⟨c.m,c.pc,c.zh.map (upV φ),c.zf.map (upV φ),up φ c.zi,c.zy⟩
theorem Yb (φ:Nat->Nat) (k:Nat):up φ (k:Int)=(φ k:Int):=by simp[up]
theorem zg1 (φ:Nat->Nat) {a:Int} (h:0<=a):up φ a=(φ a.toNat:Int):=if_pos h
theorem zcO (φ:Nat->Nat) {a:Int} (h:a<0):up φ a=a:=if_neg (by omega)
theorem zgr (φ:Nat->Nat) (a:Int):0<=up φ a ↔ 0<=a:=by
 by_cases h:0<=a
 ·rw[zg1 φ h];omega
 ·rw[zcO φ (by omega)]
theorem zby (φ:Nat->Nat) (v:Int × Int):(upV φ v).1=v.1:=by
 unfold upV
 split
 ·rename_i h;exact h.symm
 ·rfl
theorem zdj (φ:Nat->Nat) {v:Int × Int} (h:v.1≠2):upV φ v=v:=if_neg h
def KA (S:Nat->Prop) (a:Int):Prop:=a<0\/∃k:Nat,a=(k:Int)/\S k
def Ye (S:Nat->Prop) (vs:yH):Prop:=∀v∈vs,v.1=2->KA S v.2
structure Zw (S:Nat->Prop) (φ:Nat->Nat) (g h:Hp):Prop where
 inj:∀i j,S i->S j->φ i=φ j->i=j
 lo:∀i,S i->i<g.ze.length
 lt:∀i,S i->φ i<h.ze.length
 cl:∀i,S i->h.ze.getD (φ i) Cl.none=upC φ (g.ze.getD i Cl.none)
 snd:∀i,S i->KA S (g.ze.getD i Cl.none).zi
 tm:∀i,S i->Ye S (g.ze.getD i Cl.none).zh
 st:∀i,S i->Ye S (g.ze.getD i Cl.none).zf
 now:h.now=up φ g.now
 nowS:KA S g.now
variable {S:Nat->Prop} {φ:Nat->Nat} {g h:Hp}
theorem Q2 (inj:∀i j,S i->S j->φ i=φ j->i=j) {ps:List Nat} (hp:∀p∈ps,S p) {a:Int} (ha:KA S a):yK (ps.map φ) (up φ a)=yK ps a:=by
 rcases ha with h0 | ⟨k,rfl,hk⟩
 ·rw[zcO φ h0,UL h0,UL h0]
 ·rw[Yb]
  unfold yK
  rw[List.findIdx?_map]
  have:ps.findIdx? ((fun(q:Nat)=>(q:Int) == ((φ k:Nat):Int)) ∘ φ)=ps.findIdx? (fun(q:Nat)=>(q:Int) == (k:Int)):=by
   induction ps with
   | nil=>rfl
   | cons x l ih =>
    rw[List.findIdx?_cons,List.findIdx?_cons,ih (fun p q=>hp p (List.mem_cons_of_mem _ q))]
    have hx:=hp x List.mem_cons_self
    have:((fun(q:Nat)=>(q:Int) == ((φ k:Nat):Int)) ∘ φ) x=((x:Int) == (k:Int)):=by
     simp only[Function.comp_apply]
     rw[Bool.eq_iff_iff,beq_iff_eq,beq_iff_eq]
     constructor
     ·intro q
      have:=inj x k hx hk (by exact_mod_cast q)
      omega
     ·intro q
      have:x=k:=by exact_mod_cast q
      rw[this]
    rw[this]
  rw[this]
theorem Zw.come (e:Zw S φ g h) {ps:List Nat} (hS:∀p∈ps,S p) {a:Int} (ha:KA S a):qn h.ze.length (ps.map φ) (up φ a)=(qn g.ze.length ps a).map φ/\∀p∈qn g.ze.length ps a,S p:=by
 have hn:=Q2 e.inj hS ha
 unfold qn
 rw[hn]
 rcases ha with h0 | ⟨k,rfl,hk⟩
 ·rw[if_neg (fun z=>by have:=(zgr φ a).1 z.1;omega),if_neg (fun z=>by omega)]
  exact⟨rfl,hS⟩
 ·have h1:=e.lo k hk
  have h2:=e.lt k hk
  by_cases hq:yK ps k=-1
  ·rw[if_pos ⟨by rw[Yb];omega,by rw[Yb];omega,hq⟩,if_pos ⟨by omega,by omega,hq⟩,List.map_append,Yb,Int.toNat_natCast,Int.toNat_natCast]
   refine⟨rfl,fun p hp=>?_⟩
   rcases List.mem_append.1 hp with hp | hp
   ·exact hS p hp
   ·rw[List.mem_singleton.1 hp]
    exact hk
  ·rw[if_neg (fun z=>hq z.2.2),if_neg (fun z=>hq z.2.2)]
   exact⟨rfl,hS⟩
theorem Zw.comeV (e:Zw S φ g h):∀(vs:yH) {ps:List Nat},(∀p∈ps,S p)->Ye S vs->comeV h.ze.length (ps.map φ) (vs.map (upV φ))=(Go.Proofs.YtbjgjjkgfnfejaaGreatDoor.comeV g.ze.length ps vs).map φ/\∀p∈Go.Proofs.YtbjgjjkgfnfejaaGreatDoor.comeV g.ze.length ps vs,S p
 | [],ps,hS,_=>⟨rfl,hS⟩
 | v :: r,ps,hS,hv=>by
  have hr:Ye S r:=fun u hu=>hv u (List.mem_cons_of_mem _ hu)
  show Go.Proofs.YtbjgjjkgfnfejaaGreatDoor.comeV h.ze.length (if(upV φ v).1=2 then qn h.ze.length (ps.map φ) (upV φ v).2 else ps.map φ) (r.map (upV φ))=(Go.Proofs.YtbjgjjkgfnfejaaGreatDoor.comeV g.ze.length (if v.1=2 then qn g.ze.length ps v.2 else ps) r).map φ/\∀p∈Go.Proofs.YtbjgjjkgfnfejaaGreatDoor.comeV g.ze.length (if v.1=2 then qn g.ze.length ps v.2 else ps) r,S p
  rw[zby]
  by_cases h2:v.1=2
  ·rw[if_pos h2,if_pos h2]
   have q:(upV φ v).2=up φ v.2:=by unfold upV;rw[if_pos h2]
   obtain⟨h3,h4⟩:=e.come hS (hv v List.mem_cons_self h2)
   rw[q,h3]
   exact Zw.comeV e r h4 hr
  ·rw[if_neg h2,if_neg h2]
   exact Zw.comeV e r hS hr
theorem Zw.comeC (e:Zw S φ g h) {ps:List Nat} (hS:∀p∈ps,S p) {i:Nat} (hi:S i):comeC h.ze.length (ps.map φ) (upC φ (g.ze.getD i Cl.none))=(Go.Proofs.YtbjgjjkgfnfejaaGreatDoor.comeC g.ze.length ps (g.ze.getD i Cl.none)).map φ/\∀p∈Go.Proofs.YtbjgjjkgfnfejaaGreatDoor.comeC g.ze.length ps (g.ze.getD i Cl.none),S p:=by
 obtain⟨a1,a2⟩:=e.come hS (e.snd i hi)
 obtain⟨b1,b2⟩:=e.comeV _ a2 (e.tm i hi)
 obtain⟨c1,c2⟩:=e.comeV _ b2 (e.st i hi)
 unfold Go.Proofs.YtbjgjjkgfnfejaaGreatDoor.comeC
 show Go.Proofs.YtbjgjjkgfnfejaaGreatDoor.comeV _ (Go.Proofs.YtbjgjjkgfnfejaaGreatDoor.comeV _ (qn _ (ps.map φ) (up φ (g.ze.getD i Cl.none).zi)) ((g.ze.getD i Cl.none).zh.map (upV φ))) ((g.ze.getD i Cl.none).zf.map (upV φ))=_/\_
 rw[a1,b1,c1]
 exact⟨rfl,c2⟩
theorem Zw.foundF (e:Zw S φ g h):∀(f f' j:Nat) {ps:List Nat},(∀p∈ps,S p)->xV g.ze.length ps->xV h.ze.length (ps.map φ)->g.ze.length<=f+j->h.ze.length<=f'+j->foundF h.ze f' j (ps.map φ)=(Go.Proofs.YtbjgjjkgfnfejaaGreatDoor.foundF g.ze f j ps).map φ/\∀p∈Go.Proofs.YtbjgjjkgfnfejaaGreatDoor.foundF g.ze f j ps,S p
 | 0,f',j,ps,hS,hp,hp',hf,hf'=>by
  have:=hp.len
  rw[kQ _ (by simp;omega),kQ _ (by omega)]
  exact⟨rfl,hS⟩
 | f+1,f',j,ps,hS,hp,hp',hf,hf'=>by
  have hl:=hp.len
  have hl':=hp'.len
  rw[List.length_map] at hl'
  by_cases hj:j<ps.length
  ·obtain⟨f'',rfl⟩:∃f'',f'=f''+1:=⟨f' - 1,by omega⟩
   have hpj:=hS _ (List.getElem_mem hj)
   obtain⟨h1,h2⟩:=e.comeC hS hpj
   have h3:=hp'.comeC (upC φ (g.ze.getD ps[j] Cl.none))
   rw[h1] at h3
   show(if q:j<(ps.map φ).length then Go.Proofs.YtbjgjjkgfnfejaaGreatDoor.foundF h.ze f'' (j+1) (Go.Proofs.YtbjgjjkgfnfejaaGreatDoor.comeC h.ze.length (ps.map φ) (h.ze.getD (ps.map φ)[j] Cl.none)) else ps.map φ)=(if q:j<ps.length then Go.Proofs.YtbjgjjkgfnfejaaGreatDoor.foundF g.ze f (j+1) (Go.Proofs.YtbjgjjkgfnfejaaGreatDoor.comeC g.ze.length ps (g.ze.getD ps[j] Cl.none)) else ps).map φ/\∀p∈(if q:j<ps.length then Go.Proofs.YtbjgjjkgfnfejaaGreatDoor.foundF g.ze f (j+1) (Go.Proofs.YtbjgjjkgfnfejaaGreatDoor.comeC g.ze.length ps (g.ze.getD ps[j] Cl.none)) else ps),S p
   rw[dif_pos hj,dif_pos (by simpa using hj),List.getElem_map,e.cl _ hpj,h1]
   exact Zw.foundF e f f'' (j+1) h2 (hp.comeC _) h3 (by omega) (by omega)
  ·rw[kQ _ (by simpa using hj),kQ _ hj]
   exact⟨rfl,hS⟩
theorem Zw.found (e:Zw S φ g h):found h=(Go.Proofs.YtbjgjjkgfnfejaaGreatDoor.found g).map φ/\∀p∈Go.Proofs.YtbjgjjkgfnfejaaGreatDoor.found g,S p:=by
 unfold Go.Proofs.YtbjgjjkgfnfejaaGreatDoor.found
 have h0:xV g.ze.length ([]:List Nat):=⟨List.nodup_nil,fun _ hp=>by cases hp⟩
 have h1:xV h.ze.length ([]:List Nat):=⟨List.nodup_nil,fun _ hp=>by cases hp⟩
 obtain⟨q,hq⟩:=e.come (a:=g.now) (ps:=[]) (fun p hp=>by cases hp) e.nowS
 have h2:=h1.come h.now
 rw[List.map_nil,<-e.now] at q
 rw[q] at h2 ⊢
 exact e.foundF _ _ 0 hq (h0.come _) h2 (by omega) (by omega)
theorem Zw.view (e:Zw S φ g h):jq h=jq g:=by
 obtain⟨hf,hS⟩:=e.found
 unfold jq
 rw[hf,List.map_map]
 refine List.map_congr_left fun p hp=>?_
 have hpS:=hS p hp
 have hv:∀l:yH,Ye S l->(l.map (upV φ)).map (XN ((Go.Proofs.YtbjgjjkgfnfejaaGreatDoor.found g).map φ))=l.map (XN (Go.Proofs.YtbjgjjkgfnfejaaGreatDoor.found g)):=fun l hl=>by
  rw[List.map_map]
  refine List.map_congr_left fun v hv=>?_
  simp only[Function.comp_apply]
  unfold XN
  rw[zby]
  by_cases h2:v.1=2
  ·rw[if_pos h2,if_pos h2]
   have q:(upV φ v).2=up φ v.2:=by unfold upV;rw[if_pos h2]
   rw[q,Q2 e.inj hS (hl v hv h2)]
  ·rw[if_neg h2,if_neg h2,zdj φ h2]
 simp only[Function.comp_apply]
 rw[e.cl p hpS]
 unfold j1 upC
 simp only[]
 rw[hv _ (e.tm p hpS),hv _ (e.st p hpS),Q2 e.inj hS (e.snd p hpS)]
end Go.Proofs.YtbjgjjkgfnfejaaGreatDoor
