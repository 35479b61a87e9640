/-
  HeapTrim of both sides: without what cannot be come to.
-/
import Derived.Test.YtjbgpcileapogaaGreatMPut
import Derived.Lib.MinMax
namespace Go.Proofs.YtjbgpcileapogaaGreat
open Go.RowKit
theorem QP {P:Program} {t tx ty e:TypeId} {i:TypeInfo} {z:Value} {B:Nat} (ht:P.underlying t=some (.slice e)) (hi:P.info? e=some i) (hz:i.zero=some z) (hzs:z.cells.size=i.size) (hby:i.bytes<=1000)
 {w:World} {v:Value} {n:Nat} {xs:List Value} (zx:yl B i.size w v n xs) (x:Value) (m:Nat) (news:List Value) (hs:Src P i.size tx x m news w) (hL:n+m<=2000000) (hB:B<=w.heap.size) :
 ∃v' w',(Builtin.append_ #[t,tx] ty #[v,x]).run P w=.ok v' w'/\yl B i.size w' v' (n+m) (xs ++ news)/\w.grownBy w' v.ownBlock/\(v'.ownBlock=v.ownBlock\/v'.ownBlock=some w.heap.size):=by
 obtain⟨hxl,zx⟩:=zx
 have hll:(xs ++ news).length=(n+m) * i.size:=by rw[List.length_append,hxl,hs.newsLen,Nat.add_mul]
 have uD:∀(k:Nat),n+m<=k->k<=maxLen ->
  yl B i.size (w.drew.alloc (.cells ((xs ++ news).toArray ++ Builtin.zeroCells z.cells (k - (n+m))) e)) (.slice (some ⟨w.heap.size,0,none⟩) (n+m) k) (n+m) (xs ++ news):=by
  intro k hqk hk
  have hsz0:(Builtin.zeroCells z.cells (k - (n+m))).size=(k - (n+m)) * i.size:=by rw[size_zeroCells,hzs]
  have hblk:(w.drew.alloc (.cells ((xs ++ news).toArray ++ Builtin.zeroCells z.cells (k - (n+m))) e)).heap[w.heap.size]?=some (.cells ((xs ++ news).toArray ++ Builtin.zeroCells z.cells (k - (n+m))) e):=Go.Deep.blk_alloc_new w.drew _
  have hsum:(n+m) * i.size+(k - (n+m)) * i.size=k * i.size:=by rw[<-Nat.add_mul];congr 1;omega
  refine⟨hll,.inr ⟨w.heap.size,0,k,rfl,hB,by simp,hqk,hk,fun j hj=>?_,fun j hj=>?_⟩⟩
  ·refine⟨?_,?_⟩
   ·rw[Nat.zero_add,cell_of_row _ _ _ _ _ _ hblk]
    rw[Array.getElem?_eq_getElem (by rw[Array.size_append,hsz0,List.size_toArray,hll];omega)];rfl
   ·unfold World.frozen?
    rw[hblk]
    simp
  ·rw[Nat.zero_add,cell_of_row _ _ _ _ _ _ hblk,Array.getElem?_append_left (by rw[List.size_toArray];exact hj)]
   simp[List.getElem?_eq_getElem hj]
 have hgb:∀(o:Obj) (row:Option Nat),w.grownBy (w.drew.alloc o) row:=fun o row =>
  ⟨rfl,rfl,rfl,Nat.le_of_lt (by rw[World.size_alloc];exact Nat.lt_succ_self _),fun k hk _=>Below.heap_alloc w.drew _ k hk⟩
 rcases zx with⟨rfl,rfl⟩ | ⟨g,off,zp,rfl,hBg,hg,hl,hmx,hsp,hx⟩
 ·obtain rfl:xs=[]:=List.eq_nil_of_length_eq_zero (by simpa using hxl)
  by_cases hm0:m=0
  ·subst hm0
   obtain rfl:news=[]:=List.eq_nil_of_length_eq_zero (by simpa using hs.newsLen)
   refine⟨.slice none 0 0,w,?_,yl.nil _ _ _,World.grownBy.refl _ _,.inl rfl⟩
   rcases hs.kind with⟨e',hk⟩ | hk <;> simp[Builtin.append_,run_underlying ht,run_underlying hk,sizeOf,typeInfo,hi,hs.len,hs.cells]
  ·have hr:=run_append_grow_src (P:=P) w t tx ty e i z ht hi hz none 0 0 [] (run_firstCells_none _ _ _ _ _) x m news hs (by omega) (by omega) (growslice_fits (by omega) (by have:=Nat.mul_le_mul (show 0+m<=2000000 by omega) hby;omega))
   refine⟨_,_,hr,?_,hgb _ _,.inr rfl⟩
   exact uD (grownCap w (0+m) 0 e) (grownCap_ge _ _ _ _) (grownCap_le_maxLen _ _ _ _ (by unfold maxLen;omega))
 ·by_cases hroom:n+m<=zp
  ·have hle:n * i.size+news.length<=zp * i.size:=by rw[hs.newsLen,<-Nat.add_mul];exact Nat.mul_le_mul_right _ hroom
   have hc:∀j,j<news.length->(w.cell? ⟨g,off+n * i.size+j,none⟩).isSome=true:=fun j hj=>by
    have:=(hsp (n * i.size+j) (by omega)).1
    rwa [<-Nat.add_assoc] at this
   have hf:∀j,j<news.length->w.frozen? ⟨g,off+n * i.size+j,none⟩=false:=fun j hj=>by
    have:=(hsp (n * i.size+j) (by omega)).2
    rwa [<-Nat.add_assoc] at this
   have hr:=run_append_room_src (P:=P) w t tx ty e i ht hi g off n zp x m news hs hroom hc hf
   obtain⟨r1,r2,r3⟩:=wl g news (off+n * i.size) w
   refine⟨_,_,hr,⟨hll,.inr ⟨g,off,zp,rfl,hBg,by rw[jF];exact hg,hroom,hmx,fun j hj=>?_,fun j hj=>?_⟩⟩,⟨r1,r2,r3,by rw[jF];exact Nat.le_refl _,fun k _ hk=>uO _ _ _ _ _ (fun e=>hk (by rw[e];rfl))⟩,.inl rfl⟩
   ·rw[World.frozen?_setCells]
    refine⟨?_,(hsp j hj).2⟩
    by_cases hin:n * i.size<=j/\j<n * i.size+news.length
    ·have:=World.cell?_setCells_in g news (off+n * i.size) w hc (j - n * i.size) (by omega)
     rw[show off+n * i.size+(j - n * i.size)=off+j by omega] at this
     rw[this];rfl
    ·rw[World.cell?_setCells_out g _ _ _ _ (fun _ _=>by simp;omega)]
     exact(hsp j hj).1
   ·rw[List.length_append] at hj
    by_cases hin:j<xs.length
    ·rw[World.cell?_setCells_out g _ _ _ _ (fun _ _=>by simp;omega),hx j hin]
     simp[hin]
    ·have:=World.cell?_setCells_in g news (off+n * i.size) w hc (j - n * i.size) (by omega)
     rw[show off+n * i.size+(j - n * i.size)=off+j by omega] at this
     rw[this,List.getElem_append_right (by omega)]
     simp only[hxl]
  ·have hr:=run_append_grow_src (P:=P) w t tx ty e i z ht hi hz (some ⟨g,off,none⟩) n zp xs (run_firstCells_some _ _ _ _ _ _ _ hxl (fun j u hu=>by
    by_cases hj:j<xs.length
    ·rw[List.getElem?_eq_getElem hj] at hu
     have h1:=hx j hj
     rw[Addr.add_lit]
     show w.cell? _=_
     rw[h1]
     simpa using hu
    ·rw[List.getElem?_eq_none (by omega)] at hu;simp at hu)) x m news hs (by omega) (by omega) (growslice_fits (by omega) (by have:=Nat.mul_le_mul (show n+m<=2000000 by omega) hby;omega))
   refine⟨_,_,hr,?_,hgb _ _,.inr rfl⟩
   exact uD (grownCap w (n+m) zp e) (grownCap_ge _ _ _ _) (grownCap_le_maxLen _ _ _ _ (by unfold maxLen;omega))
theorem QQ {ty:TypeId} {B:Nat} {w:World} {v xv:Value} {L M:zL} (zx:zj B w v L) (hM:zR w xv M) (hL:L.length+M.length<=2000000) (hB:B<=w.heap.size) :
 ∃v' w',(Builtin.append_ #[27,27] ty #[v,xv]).run Tryz.prog w=.ok v' w'/\zj B w' v' (L ++ M)/\w.grownBy w' v.ownBlock/\(v'.ownBlock=v.ownBlock\/v'.ownBlock=some w.heap.size):=by
 obtain⟨i0,hi,hz0,hz1,hz2⟩:=info_parts Tryz.infoVal
 have h1:=zx.crow
 have h2:=U1 (P:=Tryz.prog) Tryz.underlying27 hM
 rw[<-hz1] at h1 h2
 obtain⟨v',w',hr,hc,hg,hb⟩:=QP (P:=Tryz.prog) (ty:=ty) Tryz.underlying27 hi hz0 (by rw[hz1];rfl) (by rw[hz2];omega) h1 xv M.length (jX M) h2 hL hB
 refine⟨v',w',hr,?_,hg,hb⟩
 rw[hz1,<-Z8] at hc
 exact hc.pair (by simp)
theorem K9 {ops:Array Oper} {rest:List Oper} {o:Oper} {act:Act} {Q:Exit->Act->World->Prop} (w:World) (hgd:o.guard=none) (s x:Operand)
 (ho:o.op=.call {callee:=.builtin .append,args:=#[s,x],argTypes:=#[27,27]}) (B:Nat) (v xv:Value) (L M:zL) (hs:act.eval s=v) (hx:act.eval x=xv) (zx:zj B w v L) (hM:zR w xv M)
 (hL:L.length+M.length<=2000000) (hB:B<=w.heap.size)
 (h:∀v' w',zj B w' v' (L ++ M)->w.grownBy w' v.ownBlock->(v'.ownBlock=v.ownBlock\/v'.ownBlock=some w.heap.size)->wpList Tryz.prog ops Q rest (act.put o.dst v') w') :
 wpList Tryz.prog ops Q (o :: rest) act w:=by
 obtain⟨v',w',hr,h2,h3,h4⟩:=QQ (ty:=o.type) zx hM hL hB
 refine wpList_plain hgd fun K hK=>?_
 unfold Oper.wp execOp
 simp only[ho,resolve,invoke,builtin,Sem.run_bind,Sem.run_pure,Result.andThen_ok,List.map_toArray,List.map_cons,List.map_nil,hs,hx,hr]
 exact hK _ _ (h v' w' h2 h3 h4)
set_option maxRecDepth 100000 in
set_option maxHeartbeats 1000000 in
theorem Kx (v:Value) (xs:zL) (w:World) (h:zR w v xs) (hl:xs.length<=1048576) :
 Calls Tryz.prog 53 #[v] w fun e w'=>∃v',e=.returned v'/\zj w.heap.size w' v' xs/\Below w.heap.size w w':=by
 obtain⟨a,c,rfl,hlm,hc⟩:=id h
 have hnil:∀(W:World) (a:Option Addr) (n c:Nat),(binOp .eql 27 (.slice a n c) (.slice none 0 0)).run Tryz.prog W=.ok (.bool a.isNone) W:=fun W a n c=>Lib.run_eql_slice_nil W _ _ a n c 0 0 Tryz.underlying27
 cases a with
 | none =>
  have hx:xs=[]:=by
   cases xs with
   | nil=>rfl
   | cons y t=>obtain⟨b,o,e,_⟩:=hc 0 (by simp);cases e
  subst hx
  go_enter Tryz.func53,Tryz.ntmps53
  go_wp2
  go_ret
  exact⟨_,rfl,zj.nil _ _,zC⟩
 | some ad =>
  have N1:=zB w (.cells #[] 98)
  have mk:=zj.made (B:=w.heap.size) (w:=w) (e:=98) zD
  have h1:=h.below N1
  go_enter Tryz.func53,Tryz.ntmps53
  go_wp2_with (at_builtin;refine K9 _ (by rfl) _ _ (by rfl) w.heap.size _ _ [] xs (by rfl) (by rfl) mk h1 (by simp;omega) N1.size ?_;intro v2 w2 hrow2 hg2 hb2;rw[List.nil_append] at hrow2)
  have B2:=N1.grown hg2 N1.size (fun q e=>(mk.lt q e).1)
  clear hg2 hb2
  go_ret
  exact⟨_,rfl,hrow2,B2⟩
structure zcP (h:Hp):Prop where
 sh:h.short
 n30:h.za.length<=30
 sd:∀i,(hi:i<h.za.length)->-1<=h.za[i].zf
 now0:-1<=h.now
 small:∀i,(hi:i<h.za.length)->h.za[i].zg.length<=4/\h.za[i].ze.length<=6
theorem ww {ms:zM} {h:Hp} (e:ym ms h=true):zcP h:=by
 unfold ym at e
 simp only[Bool.and_eq_true] at e
 obtain⟨⟨eh,ec⟩,_⟩:=e
 have hcl:∀i,(hi:i<h.za.length)->yT ms h.za.length h.za[i]=true:=fun i hi=>List.all_eq_true.1 ec _ (List.getElem_mem hi)
 unfold qw at eh
 simp only[Bool.and_eq_true,zH,decide_eq_true_iff] at eh
 obtain⟨⟨⟨⟨⟨⟨ep,en⟩,eb⟩,ecb⟩,_⟩,_⟩,_⟩:=eh
 have hms:∀m∈ms,m.2.1<=4:=fun m hm=>by
  unfold yt at ep
  simp only[Bool.and_eq_true] at ep
  have:=List.all_eq_true.1 ep.2 m hm
  unfold yG at this
  simp only[Bool.and_eq_true,zH] at this
  omega
 have hsm:∀i,(hi:i<h.za.length)->h.za[i].zg.length<=4/\h.za[i].ze.length<=6:=fun i hi=>by
  have hc:=hcl i hi
  simp only[yT,Bool.and_eq_true,zH,decide_eq_true_iff] at hc
  obtain⟨⟨⟨⟨hm,_⟩,ht⟩,hst⟩,_⟩:=hc
  refine⟨?_,hst⟩
  have hlt:h.za[i].m.toNat<ms.length:=by omega
  have hg:ms.getD h.za[i].m.toNat (0,0,[])=ms[h.za[i].m.toNat]:=by simp[hlt]
  rw[hg] at ht
  have:=hms _ (List.getElem_mem hlt)
  omega
 exact⟨⟨by omega,fun i hi=>by have:=hsm i hi;omega⟩,by omega,fun i hi=>(Q8 (hcl i hi)).1,by omega,hsm⟩
theorem KM {ps:List Nat} {p:Int} (h:p<0):qg ps p=-1:=wF fun k _=>by omega
def up (φ:Nat->Nat) (a:Int):Int:=if 0<=a then(φ a.toNat:Int) else a
def Kt (φ:Nat->Nat) (v:Int × Int):Int × Int:=if v.1=2 then(2,up φ v.2) else v
def YF (φ:Nat->Nat) (c:Cl):Cl:=⟨c.m,c.pc,c.zg.map (Kt φ),c.ze.map (Kt φ),up φ c.zf,c.zv⟩
theorem wL (φ:Nat->Nat) (k:Nat):up φ (k:Int)=(φ k:Int):=by simp[up]
theorem QW (φ:Nat->Nat) {a:Int} (h:0<=a):up φ a=(φ a.toNat:Int):=if_pos h
theorem YG (φ:Nat->Nat) {a:Int} (h:a<0):up φ a=a:=if_neg (by omega)
theorem zdi (φ:Nat->Nat) (a:Int):0<=up φ a ↔ 0<=a:=by
 by_cases h:0<=a
 ·rw[QW φ h];omega
 ·rw[YG φ (by omega)]
theorem U7 (φ:Nat->Nat) (v:Int × Int):(Kt φ v).1=v.1:=by
 unfold Kt
 split
 ·rename_i h;exact h.symm
 ·rfl
theorem zdh (φ:Nat->Nat) {v:Int × Int} (h:v.1≠2):Kt φ v=v:=if_neg h
structure XX (φ:Nat->Nat) (g h:Hp):Prop where
 inj:∀i j,i<g.za.length->j<g.za.length->φ i=φ j->i=j
 lt:∀i,i<g.za.length->φ i<h.za.length
 cl:∀i,(hi:i<g.za.length)->h.za.getD (φ i) Cl.none=YF φ g.za[i]
 now:h.now=up φ g.now
 zl:h.zl=g.zl
 code:h.code=g.code
 born:h.born=g.born
theorem XX.at {φ:Nat->Nat} {g h:Hp} (e:XX φ g h) {i:Nat} (hi:i<g.za.length):h.za.getD (φ i) Cl.none=YF φ (g.za.getD i Cl.none):=by
 rw[e.cl i hi,yi hi]
theorem zbQ {α:Type} (l:List α) (i j:Nat) (c d:α) (hi:i<l.length):(l.set i c).getD j d=if j=i then c else l.getD j d:=by
 by_cases h:j=i
 ·subst h
  rw[if_pos rfl]
  simp[hi]
 ·rw[if_neg h]
  by_cases hj:j<l.length
  ·rw[yi (by simpa using hj),yi hj,List.getElem_set_ne (fun q=>h q.symm)]
  ·simp[hj]
theorem KL {α β:Type} {f:α->β}:∀{l:List α},(∀x∈l,∀y∈l,f x=f y->x=y)->l.Nodup->(l.map f).Nodup
 | [],_,_=>by simp
 | a :: l,hf,hn=>by
  rw[List.map_cons,List.nodup_cons]
  rw[List.nodup_cons] at hn
  refine⟨fun h=>?_,KL (fun x hx y hy=>hf x (List.mem_cons_of_mem _ hx) y (List.mem_cons_of_mem _ hy)) hn.2⟩
  obtain⟨b,hb,e⟩:=List.mem_map.1 h
  exact hn.1 (hf b (List.mem_cons_of_mem _ hb) a List.mem_cons_self e ▸ hb)
theorem XX.put {φ:Nat->Nat} {g h:Hp} (e:XX φ g h) {b:Nat} (hb:b<g.za.length) (c:Cl):XX φ {g with za:=g.za.set b c} {h with za:=h.za.set (φ b) (YF φ c)}:=by
 refine⟨fun i j hi hj=>e.inj i j (by simpa using hi) (by simpa using hj),fun i hi=>by simpa using e.lt i (by simpa using hi),fun i hi=>?_,e.now,e.zl,e.code,e.born⟩
 have hi':i<g.za.length:=by simpa using hi
 show(h.za.set (φ b) (YF φ c)).getD (φ i) Cl.none=YF φ (g.za.set b c)[i]
 rw[zbQ _ _ _ _ _ (e.lt b hb)]
 by_cases q:i=b
 ·subst q
  rw[if_pos rfl,List.getElem_set_self]
 ·rw[if_neg (fun z=>q (e.inj i b hi' hb z)),List.getElem_set_ne (fun z=>q z.symm)]
  exact e.cl i hi'
theorem XX.set {φ:Nat->Nat} {g h:Hp} (e:XX φ g h) {j:Nat} (hn:g.now=j) (hj:j<g.za.length) (c c':Cl) (hc:c'=YF φ c):XX φ (jw g c) (jw h c'):=by
 subst hc
 unfold jw
 have q:=e.put hj c
 rw[show g.now.toNat=j by omega,show h.now.toNat=φ j by rw[e.now,hn,wL];omega]
 exact q
theorem up_like {φ ψ:Nat->Nat} {n:Nat} (hφ:∀i,i<n->ψ i=φ i) {a:Int} (h:a<(n:Int)):up ψ a=up φ a:=by
 by_cases h0:0<=a
 ·rw[QW _ h0,QW _ h0,hφ _ (by omega)]
 ·rw[YG _ (by omega),YG _ (by omega)]
theorem QJ {φ:Nat->Nat} {n:Nat} (inj:∀i j,i<n->j<n->φ i=φ j->i=j) {ps:List Nat} (hp:∀p∈ps,p<n) {a:Int} (ha:a<(n:Int)):qg (ps.map φ) (up φ a)=qg ps a:=by
 by_cases h0:0<=a
 ·obtain⟨k,rfl⟩:=Int.eq_ofNat_of_zero_le h0
  have hk:k<n:=by omega
  rw[wL]
  unfold qg
  rw[List.findIdx?_map]
  have:ps.findIdx? ((fun(q:Nat)=>(q:Int) == ((φ k:Nat):Int)) ∘ φ)=ps.findIdx? (fun(q:Nat)=>(q:Int) == (k:Int)):=by
   clear ha h0
   induction ps with
   | nil=>rfl
   | cons x l ih =>
    rw[List.findIdx?_cons,List.findIdx?_cons,ih (fun p q=>hp p (List.mem_cons_of_mem _ q))]
    have hx:=hp x List.mem_cons_self
    have:((fun(q:Nat)=>(q:Int) == ((φ k:Nat):Int)) ∘ φ) x=((x:Int) == (k:Int)):=by
     simp only[Function.comp_apply]
     rw[Bool.eq_iff_iff,beq_iff_eq,beq_iff_eq]
     constructor
     ·intro q
      have:=inj x k hx hk (by exact_mod_cast q)
      omega
     ·intro q
      have:x=k:=by exact_mod_cast q
      rw[this]
    rw[this]
  rw[this]
 ·rw[YG φ (by omega),KM (by omega),KM (by omega)]
theorem XX.come {φ:Nat->Nat} {g h:Hp} (e:XX φ g h) {ps:List Nat} (hp:jc g.za.length ps) {a:Int} (ha:a<(g.za.length:Int)):xm h.za.length (ps.map φ) (up φ a)=(xm g.za.length ps a).map φ:=by
 unfold xm
 rw[QJ e.inj hp.lt ha]
 by_cases h0:0<=a
 ·have hl:=e.lt a.toNat (by omega)
  by_cases hq:qg ps a=-1
  ·rw[if_pos ⟨by rw[QW φ h0];omega,by rw[QW φ h0];omega,hq⟩,if_pos ⟨h0,ha,hq⟩,List.map_append,QW φ h0,Int.toNat_natCast]
   rfl
  ·rw[if_neg (fun z=>hq z.2.2),if_neg (fun z=>hq z.2.2)]
 ·rw[if_neg (fun z=>h0 ((zdi φ a).1 z.1)),if_neg (fun z=>h0 z.1)]
theorem XX.comeV {φ:Nat->Nat} {g h:Hp} (e:XX φ g h):∀(vs:zL) {ps:List Nat},jc g.za.length ps->yk g.za.length vs=true->comeV h.za.length (ps.map φ) (vs.map (Kt φ))=(Go.Proofs.YtjbgpcileapogaaGreat.comeV g.za.length ps vs).map φ
 | [],ps,_,_=>rfl
 | v :: r,ps,hp,hv=>by
  have hv0:=qJ.1 hv v List.mem_cons_self
  have hr:yk g.za.length r=true:=qJ.2 fun u hu=>qJ.1 hv u (List.mem_cons_of_mem _ hu)
  show Go.Proofs.YtjbgpcileapogaaGreat.comeV h.za.length (if(Kt φ v).1=2 then xm h.za.length (ps.map φ) (Kt φ v).2 else ps.map φ) (r.map (Kt φ))=(Go.Proofs.YtjbgpcileapogaaGreat.comeV g.za.length (if v.1=2 then xm g.za.length ps v.2 else ps) r).map φ
  rw[U7]
  by_cases h2:v.1=2
  ·rw[if_pos h2,if_pos h2]
   have q:(Kt φ v).2=up φ v.2:=by unfold Kt;rw[if_pos h2]
   rw[h2] at hv0
   rw[q,e.come hp (vH hv0).2]
   exact XX.comeV e r (hp.come v.2) hr
  ·rw[if_neg h2,if_neg h2]
   exact XX.comeV e r hp hr
theorem XX.comeC {ms:Ms} {φ:Nat->Nat} {g h:Hp} (e:XX φ g h) {ps:List Nat} (hp:jc g.za.length ps) {c:Cl} (hc:ClP ms g.za.length c):comeC h.za.length (ps.map φ) (YF φ c)=(Go.Proofs.YtjbgpcileapogaaGreat.comeC g.za.length ps c).map φ:=by
 unfold Go.Proofs.YtjbgpcileapogaaGreat.comeC
 show Go.Proofs.YtjbgpcileapogaaGreat.comeV _ (Go.Proofs.YtjbgpcileapogaaGreat.comeV _ (xm _ (ps.map φ) (up φ c.zf)) (c.zg.map (Kt φ))) (c.ze.map (Kt φ))=_
 rw[e.come hp hc.sd.2,e.comeV _ (hp.come _) hc.vt,e.comeV _ ((hp.come _).comeV _) hc.vs]
theorem XX.foundF {ms:Ms} {φ:Nat->Nat} {g h:Hp} (e:XX φ g h) (gd:Good ms g):∀(f f' j:Nat) {ps:List Nat},jc g.za.length ps->g.za.length<=f+j->g.za.length<=f'+j->foundF h.za f' j (ps.map φ)=(Go.Proofs.YtjbgpcileapogaaGreat.foundF g.za f j ps).map φ
 | 0,f',j,ps,hp,hf,hf'=>by
  have:=hp.len
  rw[uz _ (by simp;omega),uz _ (by omega)]
 | f+1,f',j,ps,hp,hf,hf'=>by
  have hl:=hp.len
  by_cases hj:j<ps.length
  ·obtain⟨f'',rfl⟩:∃f'',f'=f''+1:=⟨f' - 1,by omega⟩
   have hpj:=hp.lt _ (List.getElem_mem hj)
   show(if q:j<(ps.map φ).length then Go.Proofs.YtjbgpcileapogaaGreat.foundF h.za f'' (j+1) (Go.Proofs.YtjbgpcileapogaaGreat.comeC h.za.length (ps.map φ) (h.za.getD (ps.map φ)[j] Cl.none)) else ps.map φ)=(if q:j<ps.length then Go.Proofs.YtjbgpcileapogaaGreat.foundF g.za f (j+1) (Go.Proofs.YtjbgpcileapogaaGreat.comeC g.za.length ps (g.za.getD ps[j] Cl.none)) else ps).map φ
   rw[dif_pos hj,dif_pos (by simpa using hj),List.getElem_map,e.at hpj,yi hpj,e.comeC hp (gd.cl _ hpj)]
   exact XX.foundF e gd f f'' (j+1) (hp.comeC _) (by omega) (by omega)
  ·rw[uz _ (by simpa using hj),uz _ hj]
theorem XX.found {ms:Ms} {φ:Nat->Nat} {g h:Hp} (e:XX φ g h) (gd:Good ms g):found h=(Go.Proofs.YtjbgpcileapogaaGreat.found g).map φ:=by
 unfold Go.Proofs.YtjbgpcileapogaaGreat.found
 have h0:jc g.za.length ([]:List Nat):=⟨List.nodup_nil,fun _ hp=>by cases hp⟩
 have hlen:g.za.length<=h.za.length:=by
  have z:((List.range g.za.length).map φ).length<=(List.range h.za.length).length:=jt _ _ ?_ fun k hk=>?_
  ·simpa using z
  ·refine KL (fun x hx y hy=>e.inj x y (List.mem_range.1 hx) (List.mem_range.1 hy)) List.nodup_range
  ·obtain⟨i,hi,rfl⟩:=List.mem_map.1 hk
   exact List.mem_range.2 (e.lt i (List.mem_range.1 hi))
 have q:=e.come (a:=g.now) h0 gd.head.now.2
 rw[List.map_nil,<-e.now] at q
 rw[q]
 exact e.foundF gd _ _ 0 (h0.come _) (by omega) (by omega)
theorem XX.view {ms:Ms} {φ:Nat->Nat} {g h:Hp} (e:XX φ g h) (gd:Good ms g):j5 h=j5 g:=by
 have ho:=zbO g
 unfold j5
 rw[e.found gd,List.map_map]
 refine List.map_congr_left fun p hp=>?_
 have hpl:=ho.lt p hp
 have c:=gd.cl p hpl
 have hv:∀l:zL,yk g.za.length l=true->(l.map (Kt φ)).map (VH ((Go.Proofs.YtjbgpcileapogaaGreat.found g).map φ))=l.map (VH (Go.Proofs.YtjbgpcileapogaaGreat.found g)):=fun l hl=>by
  rw[List.map_map]
  refine List.map_congr_left fun v hv=>?_
  have hv0:=qJ.1 hl v hv
  simp only[Function.comp_apply]
  unfold VH
  rw[U7]
  by_cases h2:v.1=2
  ·rw[if_pos h2,if_pos h2]
   have q:(Kt φ v).2=up φ v.2:=by unfold Kt;rw[if_pos h2]
   rw[h2] at hv0
   rw[q,QJ e.inj ho.lt (vH hv0).2]
  ·rw[if_neg h2,if_neg h2,zdh φ h2]
 simp only[Function.comp_apply]
 rw[e.at hpl,yi hpl]
 unfold vr YF
 simp only[]
 rw[hv _ c.vt,hv _ c.vs,QJ e.inj ho.lt c.sd.2]
end Go.Proofs.YtjbgpcileapogaaGreat
