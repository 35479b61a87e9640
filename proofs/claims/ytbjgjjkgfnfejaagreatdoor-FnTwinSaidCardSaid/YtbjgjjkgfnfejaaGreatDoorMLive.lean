/-
  Rows of cells of one's own, elements of any size: more is appended to them. Nothing of the translation is used here.
-/
import Derived.Test.YtbjgjjkgfnfejaaGreatDoorIntsM
import Derived.Deep.AppendSrc
namespace Go.Proofs.YtbjgjjkgfnfejaaGreatDoor
open Go.RowKit
def yg (B sz:Nat) (w:World) (v:Value) (n:Nat) (xs:List Value):Prop :=
 xs.length=n * sz/\((v=zQ/\n=0) \/
 ∃(g off cap:Nat),v=zK g off n cap/\B<=g/\g<w.heap.size/\n<=cap/\cap<=maxLen /\
  (∀i,i<cap * sz->(w.cell? (zH g (off+i))).isSome=true/\w.frozen? (zH g (off+i))=false) /\
  ∀i,(h:i<xs.length)->w.cell? (zH g (off+i))=some xs[i])
theorem yg.nil (B sz:Nat) (w:World):yg B sz w (zQ) 0 []:=⟨by simp,.inl ⟨rfl,rfl⟩⟩
theorem yg.made {B sz:Nat} {w:World} {e:TypeId} (hB:B<=w.heap.size):yg B sz (w.alloc (.cells #[] e)) (.slice (some ⟨w.heap.size,0,none⟩) 0 0) 0 [] :=
 ⟨by simp,.inr ⟨w.heap.size,0,0,rfl,hB,by simp,Nat.le_refl _,Nat.zero_le _,fun i hi=>by simp at hi,fun i hi=>by simp at hi⟩⟩
theorem yg.lt {B sz n:Nat} {w:World} {v:Value} {xs:List Value} (h:yg B sz w v n xs):∀k,v.ownBlock=some k->B<=k/\k<w.heap.size:=by
 intro k hk
 rcases h.2 with⟨rfl,_⟩ | ⟨g,off,cap,rfl,hB,hg,_⟩
 ·simp[Value.ownBlock] at hk
 ·simp[Value.ownBlock] at hk
  omega
theorem yg.kept {B sz n:Nat} {w w':World} {v:Value} {xs:List Value} (h:yg B sz w v n xs) (vJ:w.heap.size<=w'.heap.size) (hb:∀g,v.ownBlock=some g->w'.heap[g]?=w.heap[g]?):yg B sz w' v n xs:=by
 refine⟨h.1,?_⟩
 rcases h.2 with h | ⟨g,off,cap,rfl,hB,hg,hl,hc,hsp,hx⟩
 ·exact .inl h
 ·have hbk:=hb g rfl
  refine .inr ⟨g,off,cap,rfl,hB,by omega,hl,hc,fun i hi=>?_,fun i hi=>?_⟩
  ·rw[World.cell?_of_block (a:=⟨g,off+i,none⟩) hbk,World.frozen?_of_block (a:=⟨g,off+i,none⟩) hbk];exact hsp i hi
  ·rw[World.cell?_of_block (a:=⟨g,off+i,none⟩) hbk];exact hx i hi
theorem yg.below {B sz n:Nat} {w w':World} {v:Value} {xs:List Value} (h:yg B sz w v n xs) (hb:zO w w'):yg B sz w' v n xs :=
 h.kept hb.size fun g hg=>hb.block g (h.lt g hg).2
theorem vw (g:Nat):∀(vs:List Value) (o:Nat) (W:World),(W.setCells g o vs).heap.size=W.heap.size
 | [],_,_=>rfl
 | v :: r,o,W=>by rw[World.setCells,vw g r];simp[World.setCell]
theorem wR (g:Nat):∀(vs:List Value) (o:Nat) (W:World) (k:Nat),k≠g->(W.setCells g o vs).heap[k]?=W.heap[k]?
 | [],_,_,_,_=>rfl
 | v :: r,o,W,k,hk=>by rw[World.setCells,wR g r _ _ _ hk];exact Below.heap_setCell _ _ _ _ hk
theorem Zv (g:Nat):∀(vs:List Value) (o:Nat) (W:World),(W.setCells g o vs).os=W.os/\(W.setCells g o vs).tape=W.tape/\(W.setCells g o vs).output=W.output
 | [],_,_=>⟨rfl,rfl,rfl⟩
 | v :: r,o,W=>by rw[World.setCells];exact Zv g r _ _
theorem j7 {P:Program} {t tx ty e:TypeId} {i:TypeInfo} {z:Value} {B:Nat} (ht:P.underlying t=some (.slice e)) (hi:P.info? e=some i) (hz:i.zero=some z) (hzs:z.cells.size=i.size) (hby:i.bytes<=1000)
 {w:World} {v:Value} {n:Nat} {xs:List Value} (zy:yg B i.size w v n xs) (x:Value) (m:Nat) (news:List Value) (hs:Src P i.size tx x m news w) (hL:n+m<=3000000) (hB:B<=w.heap.size) :
 ∃v' w',(Builtin.append_ #[t,tx] ty #[v,x]).run P w=.ok v' w'/\yg B i.size w' v' (n+m) (xs ++ news)/\w.grownBy w' v.ownBlock/\(v'.ownBlock=v.ownBlock\/v'.ownBlock=some w.heap.size):=by
 obtain⟨hxl,zy⟩:=zy
 have hll:(xs ++ news).length=(n+m) * i.size:=by rw[List.length_append,hxl,hs.newsLen,Nat.add_mul]
 have Yv:∀(k:Nat),n+m<=k->k<=maxLen ->
  yg B i.size (w.drew.alloc (.cells ((xs ++ news).toArray ++ Builtin.zeroCells z.cells (k - (n+m))) e)) (zK w.heap.size 0 (n+m) k) (n+m) (xs ++ news):=by
  intro k hqk hk
  have WI:(Builtin.zeroCells z.cells (k - (n+m))).size=(k - (n+m)) * i.size:=by rw[size_zeroCells,hzs]
  have hblk:(w.drew.alloc (.cells ((xs ++ news).toArray ++ Builtin.zeroCells z.cells (k - (n+m))) e)).heap[w.heap.size]?=some (.cells ((xs ++ news).toArray ++ Builtin.zeroCells z.cells (k - (n+m))) e):=Go.Deep.blk_alloc_new w.drew _
  have hsum:(n+m) * i.size+(k - (n+m)) * i.size=k * i.size:=by rw[<-Nat.add_mul];congr 1;omega
  refine⟨hll,.inr ⟨w.heap.size,0,k,rfl,hB,by simp,hqk,hk,fun j hj=>?_,fun j hj=>?_⟩⟩
  ·refine⟨?_,?_⟩
   ·rw[Nat.zero_add,cell_of_row _ _ _ _ _ _ hblk]
    rw[Array.getElem?_eq_getElem (by rw[Array.size_append,WI,List.size_toArray,hll];omega)];rfl
   ·unfold World.frozen?
    rw[hblk]
    simp
  ·rw[Nat.zero_add,cell_of_row _ _ _ _ _ _ hblk,Array.getElem?_append_left (by rw[List.size_toArray];exact hj)]
   simp[List.getElem?_eq_getElem hj]
 have hgb:∀(o:Obj) (row:Option Nat),w.grownBy (w.drew.alloc o) row:=fun o row =>
  ⟨rfl,rfl,rfl,Nat.le_of_lt (by rw[World.size_alloc];exact Nat.lt_succ_self _),fun k hk _=>Below.heap_alloc w.drew _ k hk⟩
 rcases zy with⟨rfl,rfl⟩ | ⟨g,off,cap,rfl,hBg,hg,hl,hmx,hsp,hx⟩
 ·obtain rfl:xs=[]:=List.eq_nil_of_length_eq_zero (by simpa using hxl)
  by_cases hm0:m=0
  ·subst hm0
   obtain rfl:news=[]:=List.eq_nil_of_length_eq_zero (by simpa using hs.newsLen)
   refine⟨zQ,w,?_,yg.nil _ _ _,World.grownBy.refl _ _,.inl rfl⟩
   rcases hs.kind with⟨e',hk⟩ | hk <;> simp[Builtin.append_,run_underlying ht,run_underlying hk,sizeOf,typeInfo,hi,hs.len,hs.cells]
  ·have hr:=run_append_grow_src (P:=P) w t tx ty e i z ht hi hz none 0 0 [] (run_firstCells_none _ _ _ _ _) x m news hs (by omega) (by omega) (growslice_fits (by omega) (by have:=Nat.mul_le_mul (show 0+m<=3000000 by omega) hby;omega))
   refine⟨_,_,hr,?_,hgb _ _,.inr rfl⟩
   exact Yv (grownCap w (0+m) 0 e) (grownCap_ge _ _ _ _) (grownCap_le_maxLen _ _ _ _ (by unfold maxLen;omega))
 ·by_cases hroom:n+m<=cap
  ·have hle:n * i.size+news.length<=cap * i.size:=by rw[hs.newsLen,<-Nat.add_mul];exact Nat.mul_le_mul_right _ hroom
   have hc:∀j,j<news.length->(w.cell? (zH g (off+n * i.size+j))).isSome=true:=fun j hj=>by
    have:=(hsp (n * i.size+j) (by omega)).1
    rwa [<-Nat.add_assoc] at this
   have hf:∀j,j<news.length->w.frozen? (zH g (off+n * i.size+j))=false:=fun j hj=>by
    have:=(hsp (n * i.size+j) (by omega)).2
    rwa [<-Nat.add_assoc] at this
   have hr:=run_append_room_src (P:=P) w t tx ty e i ht hi g off n cap x m news hs hroom hc hf
   obtain⟨r1,r2,r3⟩:=Zv g news (off+n * i.size) w
   refine⟨_,_,hr,⟨hll,.inr ⟨g,off,cap,rfl,hBg,by rw[vw];exact hg,hroom,hmx,fun j hj=>?_,fun j hj=>?_⟩⟩,⟨r1,r2,r3,by rw[vw];exact Nat.le_refl _,fun k _ hk=>wR _ _ _ _ _ (fun e=>hk (by rw[e];rfl))⟩,.inl rfl⟩
   ·rw[World.frozen?_setCells]
    refine⟨?_,(hsp j hj).2⟩
    by_cases hin:n * i.size<=j/\j<n * i.size+news.length
    ·have:=World.cell?_setCells_in g news (off+n * i.size) w hc (j - n * i.size) (by omega)
     rw[show off+n * i.size+(j - n * i.size)=off+j by omega] at this
     rw[this];rfl
    ·rw[World.cell?_setCells_out g _ _ _ _ (fun _ _=>by simp;omega)]
     exact(hsp j hj).1
   ·rw[List.length_append] at hj
    by_cases hin:j<xs.length
    ·rw[World.cell?_setCells_out g _ _ _ _ (fun _ _=>by simp;omega),hx j hin]
     simp[hin]
    ·have:=World.cell?_setCells_in g news (off+n * i.size) w hc (j - n * i.size) (by omega)
     rw[show off+n * i.size+(j - n * i.size)=off+j by omega] at this
     rw[this,List.getElem_append_right (by omega)]
     simp only[hxl]
  ·have hr:=run_append_grow_src (P:=P) w t tx ty e i z ht hi hz (some ⟨g,off,none⟩) n cap xs (run_firstCells_some _ _ _ _ _ _ _ hxl (fun j u hu=>by
    by_cases hj:j<xs.length
    ·rw[List.getElem?_eq_getElem hj] at hu
     have h1:=hx j hj
     rw[Addr.add_lit]
     show w.cell? _=_
     rw[h1]
     simpa using hu
    ·rw[List.getElem?_eq_none (by omega)] at hu;simp at hu)) x m news hs (by omega) (by omega) (growslice_fits (by omega) (by have:=Nat.mul_le_mul (show n+m<=3000000 by omega) hby;omega))
   refine⟨_,_,hr,?_,hgb _ _,.inr rfl⟩
   exact Yv (grownCap w (n+m) cap e) (grownCap_ge _ _ _ _) (grownCap_le_maxLen _ _ _ _ (by unfold maxLen;omega))
structure jg where
 m:Int
 pc:Int
 zg:yH
 zf:yH
 zv:Bool
structure ki where
 body:Nat
 twin:Int
structure wh where
 base:Int
 zh:List ki
structure kN where
 page:Int
 place:Int
 body:Nat
 zi:Int
structure yF where
 cells:Int
 zd:List wh
 order:List Int
 now:Int
 ze:List kN
 zj:List jg
def jg.none:jg:=⟨0,0,[],[],false⟩
structure yF.wf (L:yF):Prop where
 fr:∀i,(hi:i<L.zd.length)->∀k,(hk:k<L.zd[i].zh.length)->L.zd[i].zh[k].body<L.zj.length
 tw:∀j,(hj:j<L.ze.length)->L.ze[j].body<L.zj.length
def cells2 (l:List (Value × Value)):List Value:=l.flatMap fun p=>[p.1,p.2]
theorem X3 (l:List (Value × Value)) (p:Value × Value):cells2 (l ++ [p])=cells2 l ++ [p.1,p.2]:=by simp[cells2]
theorem Qd:∀l:List (Value × Value),(cells2 l).length=l.length * 2
 | []=>rfl
 | p :: l=>by
  show(p.1 :: p.2 :: cells2 l).length=_
  simp only[List.length_cons,Qd l]
  omega
theorem kO:∀(l:List (Value × Value)) (i:Nat) (h:i<l.length),(cells2 l)[i * 2]?=some l[i].1/\(cells2 l)[i * 2+1]?=some l[i].2
 | [],_,h=>absurd h yB
 | p :: l,0,_=>⟨rfl,rfl⟩
 | p :: l,i+1,h=>by
  have hi:i<l.length:=by simpa using h
  have:=kO l i hi
  show(p.1 :: p.2 :: cells2 l)[(i+1) * 2]?=some l[i].1/\(p.1 :: p.2 :: cells2 l)[(i+1) * 2+1]?=some l[i].2
  rw[show(i+1) * 2=i * 2+1+1 by omega]
  exact this
theorem wz:∀(l:List (Value × Value)) (i:Nat) (a b:Value),((cells2 l).set (i * 2) a).set (i * 2+1) b=cells2 (l.set i (a,b))
 | [],_,_,_=>rfl
 | p :: l,0,a,b=>rfl
 | p :: l,i+1,a,b=>by
  show((p.1 :: p.2 :: cells2 l).set ((i+1) * 2) a).set ((i+1) * 2+1) b=p.1 :: p.2 :: cells2 (l.set i (a,b))
  rw[show(i+1) * 2=i * 2+1+1 by omega,<-wz l i a b]
  rfl
def yk (D:Nat->Nat) (fs:List ki):List (Value × Value):=fs.map fun f=>(zJ (D f.body) 0,zI f.twin)
def qt (F:Nat->Value) (ps:List wh):List (Value × Value):=(List.range ps.length).map fun i=>(zI (ps.getD i ⟨-1,[]⟩).base,F i)
def xG (D:Nat->Nat) (t:kN):Value:=.agg #[zI t.page,zI t.place,zJ (D t.body) 0,zI t.zi]
def xx (T:Value × Value) (b:jg):List Value:=[zI b.m,zI b.pc,T.1,T.2,.bool b.zv]
theorem yO (F:Nat->Value) (ps:List wh):(qt F ps).length=ps.length:=by simp[qt]
theorem jo {F:Nat->Value} {ps:List wh} {i:Nat} (h:i<ps.length):(qt F ps)[i]'(by rw[yO];exact h)=(zI ps[i].base,F i):=by simp[qt,h]
inductive Rl where
 | other | live | zd | zh (i:Nat) | order | ze | body (k:Nat) | zg (k:Nat) | zf (k:Nat)
structure Lay where
 bl:Nat
 vp:Value
 vo:Value
 bm:Nat
 F:Nat->Value
 D:Nat->Nat
 T:Nat->Value × Value
 L:yF
def Lay.it (B:Nat) (P:Lay) (ρ:Nat->Rl) (w:World):Rl->Prop
 | .other=>True
 | .live=>Bx w P.bl 117 [zI P.L.cells,P.vp,P.vo,zI P.L.now,.map (some P.bm)]/\ρ P.bl=.live/\B<=P.bl
 | .zd=>yg B 2 w P.vp P.L.zd.length (cells2 (qt P.F P.L.zd))/\∀g,P.vp.ownBlock=some g->ρ g=.zd
 | .zh i=>∀hi:i<P.L.zd.length,yg B 2 w (P.F i) P.L.zd[i].zh.length (cells2 (yk P.D P.L.zd[i].zh))/\∀g,(P.F i).ownBlock=some g->ρ g=.zh i
 | .order=>yf B w P.vo P.L.order/\∀g,P.vo.ownBlock=some g->ρ g=.order
 | .ze=>xl w P.bm (P.L.ze.map (xG P.D))/\ρ P.bm=.ze/\B<=P.bm
 | .body k=>∀hk:k<P.L.zj.length,Bx w (P.D k) 186 (xx (P.T k) P.L.zj[k])/\ρ (P.D k)=.body k/\B<=P.D k
 | .zg k=>∀hk:k<P.L.zj.length,zk B w (P.T k).1 P.L.zj[k].zg/\∀g,(P.T k).1.ownBlock=some g->ρ g=.zg k
 | .zf k=>∀hk:k<P.L.zj.length,zk B w (P.T k).2 P.L.zj[k].zf/\∀g,(P.T k).2.ownBlock=some g->ρ g=.zf k
def yj (B:Nat) (ρ:Nat->Rl) (w:World) (P:Lay):Prop:=∀r,P.it B ρ w r
structure Ch (R:Rl->Prop) (ρ ρ':Nat->Rl) (w w':World):Prop where
 size:w.heap.size<=w'.heap.size
 role:∀g,g<w.heap.size->ρ' g=ρ g
 blk:∀g,g<w.heap.size->¬R (ρ g)->w'.heap[g]?=w.heap[g]?
theorem Ch.refl (R:Rl->Prop) (ρ:Nat->Rl) (w:World):Ch R ρ ρ w w:=⟨Nat.le_refl _,fun _ _=>rfl,fun _ _ _=>rfl⟩
theorem Ch.trans {R:Rl->Prop} {ρ ρ1 ρ2:Nat->Rl} {w w1 w2:World} (h:Ch R ρ ρ1 w w1) (k:Ch R ρ1 ρ2 w1 w2):Ch R ρ ρ2 w w2 :=
 ⟨Nat.le_trans h.size k.size,fun g hg=>(k.role g (Nat.lt_of_lt_of_le hg h.size)).trans (h.role g hg),fun g hg hr=>(k.blk g (Nat.lt_of_lt_of_le hg h.size) (by rw[h.role g hg];exact hr)).trans (h.blk g hg hr)⟩
theorem Ch.mono {R R':Rl->Prop} {ρ ρ':Nat->Rl} {w w':World} (h:Ch R ρ ρ' w w') (hR:∀r,R r->R' r):Ch R' ρ ρ' w w':=⟨h.size,h.role,fun g hg hr=>h.blk g hg fun q=>hr (hR _ q)⟩
def zu (ρ:Nat->Rl) (w:World) (r:Rl):Nat->Rl:=fun g=>if g<w.heap.size then ρ g else r
theorem yG {ρ:Nat->Rl} {w:World} {r:Rl} {g:Nat} (h:g<w.heap.size):zu ρ w r g=ρ g:=if_pos h
theorem qj {ρ:Nat->Rl} {w:World} {r:Rl} {g:Nat} (h:w.heap.size<=g):zu ρ w r g=r:=if_neg (by omega)
theorem Ch.below {w w':World} (hb:zO w w') (R:Rl->Prop) (ρ:Nat->Rl) (r:Rl):Ch R ρ (zu ρ w r) w w':=⟨hb.size,fun _ hg=>yG hg,fun g hg _=>hb.block g hg⟩
theorem Ch.grown {R:Rl->Prop} {w w':World} {q:Option Nat} (hg:w.grownBy w' q) (ρ:Nat->Rl) (r:Rl) (hq:∀g,q=some g->R (ρ g)):Ch R ρ (zu ρ w r) w w' :=
 ⟨hg.size,fun _ h=>yG h,fun g h hr=>hg.block g h fun e=>hr (hq g e.symm)⟩
theorem Ch.set {R:Rl->Prop} (w:World) (ρ:Nat->Rl) (g o:Nat) (v:Value) (hr:R (ρ g)):Ch R ρ ρ w (w.setCell (zH g o) v) :=
 ⟨by simp[World.setCell],fun _ _=>rfl,fun k _ hk=>Below.heap_setCell _ _ _ _ fun e=>hk (by rw[e];exact hr)⟩
theorem Lay.it_keep {B:Nat} {P:Lay} {R:Rl->Prop} {ρ ρ':Nat->Rl} {w w':World} {r:Rl} (h:P.it B ρ w r) (c:Ch R ρ ρ' w w') (hr:¬R r):P.it B ρ' w' r:=by
 cases r with
 | other=>trivial
 | live =>
  obtain⟨h1,h2,h3⟩:=h
  exact⟨h1.kept (c.blk _ h1.lt (by rw[h2];exact hr)),(c.role _ h1.lt).trans h2,h3⟩
 | zd =>
  obtain⟨h1,h2⟩:=h
  exact⟨h1.kept c.size fun g e=>c.blk g (h1.lt g e).2 (by rw[h2 g e];exact hr),fun g e=>(c.role g (h1.lt g e).2).trans (h2 g e)⟩
 | zh i =>
  intro hi
  obtain⟨h1,h2⟩:=h hi
  exact⟨h1.kept c.size fun g e=>c.blk g (h1.lt g e).2 (by rw[h2 g e];exact hr),fun g e=>(c.role g (h1.lt g e).2).trans (h2 g e)⟩
 | order =>
  obtain⟨h1,h2⟩:=h
  exact⟨h1.kept c.size fun g e=>c.blk g (h1.lt g e).2 (by rw[h2 g e];exact hr),fun g e=>(c.role g (h1.lt g e).2).trans (h2 g e)⟩
 | ze =>
  obtain⟨h1,h2,h3⟩:=h
  exact⟨h1.kept (c.blk _ h1.lt (by rw[h2];exact hr)),(c.role _ h1.lt).trans h2,h3⟩
 | body k =>
  intro hk
  obtain⟨h1,h2,h3⟩:=h hk
  exact⟨h1.kept (c.blk _ h1.lt (by rw[h2];exact hr)),(c.role _ h1.lt).trans h2,h3⟩
 | zg k =>
  intro hk
  obtain⟨h1,h2⟩:=h hk
  exact⟨h1.kept c.size fun g e=>c.blk g (h1.lt g e).2 (by rw[h2 g e];exact hr),fun g e=>(c.role g (h1.lt g e).2).trans (h2 g e)⟩
 | zf k =>
  intro hk
  obtain⟨h1,h2⟩:=h hk
  exact⟨h1.kept c.size fun g e=>c.blk g (h1.lt g e).2 (by rw[h2 g e];exact hr),fun g e=>(c.role g (h1.lt g e).2).trans (h2 g e)⟩
theorem yj.keep {B:Nat} {P:Lay} {ρ ρ':Nat->Rl} {w w':World} (h:yj B ρ w P) (c:Ch (fun r=>r=.other) ρ ρ' w w'):yj B ρ' w' P:=fun r=>by
 cases r with
 | other=>trivial
 | live=>exact Lay.it_keep (P:=P) (r:=.live) (h .live) c (by simp)
 | zd=>exact Lay.it_keep (P:=P) (r:=.zd) (h .zd) c (by simp)
 | zh i=>exact Lay.it_keep (P:=P) (r:=(.zh i)) (h (.zh i)) c (by simp)
 | order=>exact Lay.it_keep (P:=P) (r:=.order) (h .order) c (by simp)
 | ze=>exact Lay.it_keep (P:=P) (r:=.ze) (h .ze) c (by simp)
 | body k=>exact Lay.it_keep (P:=P) (r:=(.body k)) (h (.body k)) c (by simp)
 | zg k=>exact Lay.it_keep (P:=P) (r:=(.zg k)) (h (.zg k)) c (by simp)
 | zf k=>exact Lay.it_keep (P:=P) (r:=(.zf k)) (h (.zf k)) c (by simp)
theorem yj.below {B:Nat} {P:Lay} {ρ:Nat->Rl} {w w':World} (h:yj B ρ w P) (hb:zO w w'):yj B (zu ρ w .other) w' P:=h.keep (Ch.below hb _ ρ _)
section
variable {B:Nat} {P:Lay} {ρ ρ':Nat->Rl} {w w':World}
theorem yj.box (h:yj B ρ w P):Bx w P.bl 117 [zI P.L.cells,P.vp,P.vo,zI P.L.now,.map (some P.bm)]:=(h .live).1
theorem yj.setNow (h:yj B ρ w P) (x:Int):yj B ρ (w.setCell (zH P.bl 3) (zI x)) {P with L:={P.L with now:=x}}:=fun r=>by
 have c:Ch (fun r=>r=.live) ρ ρ w (w.setCell (zH P.bl 3) (zI x)):=Ch.set w ρ _ _ _ (h .live).2.1
 cases r with
 | other=>trivial
 | live=>exact⟨(h .live).1.set 3 _,(h .live).2.1,(h .live).2.2⟩
 | zd=>exact Lay.it_keep (P:=P) (r:=.zd) (h .zd) c (by simp)
 | zh i=>exact Lay.it_keep (P:=P) (r:=(.zh i)) (h (.zh i)) c (by simp)
 | order=>exact Lay.it_keep (P:=P) (r:=.order) (h .order) c (by simp)
 | ze=>exact Lay.it_keep (P:=P) (r:=.ze) (h .ze) c (by simp)
 | body k=>exact Lay.it_keep (P:=P) (r:=(.body k)) (h (.body k)) c (by simp)
 | zg k=>exact Lay.it_keep (P:=P) (r:=(.zg k)) (h (.zg k)) c (by simp)
 | zf k=>exact Lay.it_keep (P:=P) (r:=(.zf k)) (h (.zf k)) c (by simp)
theorem yj.setOrder (h:yj B ρ w P) {vo:Value} {xs:List Int} (c:Ch (fun r=>r=.order) ρ ρ' w w') (hr:yf B w' vo xs) (hg:∀g,vo.ownBlock=some g->ρ' g=.order) :
 yj B ρ' (w'.setCell (zH P.bl 2) vo) {P with vo:=vo,L:={P.L with order:=xs}}:=fun r=>by
 have h1:=Lay.it_keep (P:=P) (h .live) c (by simp)
 have c2:Ch (fun r=>r=.live) ρ' ρ' w' (w'.setCell (zH P.bl 2) vo):=Ch.set w' ρ' _ _ _ h1.2.1
 have c3:Ch (fun r=>r=.live\/r=.order) ρ ρ' w (w'.setCell (zH P.bl 2) vo):=(c.mono fun _ e=>.inr e).trans (c2.mono fun _ e=>.inl e)
 cases r with
 | other=>trivial
 | live=>exact⟨h1.1.set 2 _,h1.2.1,h1.2.2⟩
 | order=>exact⟨hr.kept c2.size fun g e=>c2.blk g (hr.lt g e).2 (by rw[hg g e];simp),hg⟩
 | zd=>exact Lay.it_keep (P:=P) (r:=.zd) (h .zd) c3 (by simp)
 | zh i=>exact Lay.it_keep (P:=P) (r:=(.zh i)) (h (.zh i)) c3 (by simp)
 | ze=>exact Lay.it_keep (P:=P) (r:=.ze) (h .ze) c3 (by simp)
 | body k=>exact Lay.it_keep (P:=P) (r:=(.body k)) (h (.body k)) c3 (by simp)
 | zg k=>exact Lay.it_keep (P:=P) (r:=(.zg k)) (h (.zg k)) c3 (by simp)
 | zf k=>exact Lay.it_keep (P:=P) (r:=(.zf k)) (h (.zf k)) c3 (by simp)
theorem yj.setTwins (h:yj B ρ w P) {ts:List kN} (hg:w.grownBy w' (some P.bm)) (hm:xl w' P.bm (ts.map (xG P.D))):yj B (zu ρ w .other) w' {P with L:={P.L with ze:=ts}}:=fun r=>by
 have c:Ch (fun r=>r=.ze) ρ (zu ρ w .other) w w':=Ch.grown hg ρ .other fun g e=>by cases e;exact(h .ze).2.1
 cases r with
 | other=>trivial
 | ze=>exact⟨hm,(c.role _ (h .ze).1.lt).trans (h .ze).2.1,(h .ze).2.2⟩
 | live=>exact Lay.it_keep (P:=P) (r:=.live) (h .live) c (by simp)
 | zd=>exact Lay.it_keep (P:=P) (r:=.zd) (h .zd) c (by simp)
 | zh i=>exact Lay.it_keep (P:=P) (r:=(.zh i)) (h (.zh i)) c (by simp)
 | order=>exact Lay.it_keep (P:=P) (r:=.order) (h .order) c (by simp)
 | body k=>exact Lay.it_keep (P:=P) (r:=(.body k)) (h (.body k)) c (by simp)
 | zg k=>exact Lay.it_keep (P:=P) (r:=(.zg k)) (h (.zg k)) c (by simp)
 | zf k=>exact Lay.it_keep (P:=P) (r:=(.zf k)) (h (.zf k)) c (by simp)
theorem yj.setPage (h:yj B ρ w P) {i:Nat} (hi:i<P.L.zd.length) {p:wh} {vf:Value} (hf:yg B 2 w vf p.zh.length (cells2 (yk P.D p.zh))) (hfg:∀g,vf.ownBlock=some g->ρ g=.zh i)
 {gp op cp:Nat} (hp:P.vp=zK gp op P.L.zd.length cp) (W:World)
 (hW:yg B 2 W (zK gp op P.L.zd.length cp) P.L.zd.length (cells2 ((qt P.F P.L.zd).set i (zI p.base,vf)))) (hg:w.grownBy W (some gp)) :
 yj B (zu ρ w .other) W {P with F:=fun k=>if k=i then vf else P.F k,L:={P.L with zd:=P.L.zd.set i p}}:=by
 have hρ:ρ gp=.zd:=(h .zd).2 gp (by rw[hp];rfl)
 have c:Ch (fun r=>r=.zd) ρ (zu ρ w .other) w W:=Ch.grown hg ρ .other fun g e=>by cases e;exact hρ
 have hl:(P.L.zd.set i p).length=P.L.zd.length:=List.length_set
 have hpp:(qt P.F P.L.zd).set i (zI p.base,vf)=qt (fun k=>if k=i then vf else P.F k) (P.L.zd.set i p):=by
  refine List.ext_getElem (by rw[List.length_set,yO,yO,hl]) fun j h1 h2=>?_
  have hj:j<P.L.zd.length:=by rw[List.length_set,yO] at h1;exact h1
  rw[jo (by rw[hl];exact hj)]
  by_cases e:i=j
  ·subst e;simp
  ·rw[List.getElem_set_ne e,jo hj]
   simp[Ne.symm e,e]
 intro r
 cases r with
 | other=>trivial
 | zd =>
  refine⟨?_,fun g e=>(c.role g (((h .zd).1.lt g e).2)).trans ((h .zd).2 g e)⟩
  show yg B 2 W P.vp (P.L.zd.set i p).length _
  rw[hl,hp,<-hpp]
  exact hW
 | zh k =>
  intro hk
  have hk':k<P.L.zd.length:=by rw[<-hl];exact hk
  by_cases e:k=i
  ·subst e
   show yg B 2 W (if k=k then vf else P.F k) (P.L.zd.set k p)[k].zh.length (cells2 (yk P.D (P.L.zd.set k p)[k].zh))/\∀g,(if k=k then vf else P.F k).ownBlock=some g->_
   rw[if_pos rfl,List.getElem_set_self]
   exact⟨hf.kept c.size fun g e=>c.blk g (hf.lt g e).2 (by rw[hfg g e];simp),fun g e=>(c.role g (hf.lt g e).2).trans (hfg g e)⟩
  ·have:=(Lay.it_keep (P:=P) (h (.zh k)) c (by simp)) hk'
   show yg B 2 W (if k=i then vf else P.F k) (P.L.zd.set i p)[k].zh.length (cells2 (yk P.D (P.L.zd.set i p)[k].zh))/\∀g,(if k=i then vf else P.F k).ownBlock=some g->_
   rw[if_neg e,List.getElem_set_ne (Ne.symm e)]
   exact this
 | live=>exact Lay.it_keep (P:=P) (r:=.live) (h .live) c (by simp)
 | order=>exact Lay.it_keep (P:=P) (r:=.order) (h .order) c (by simp)
 | ze=>exact Lay.it_keep (P:=P) (r:=.ze) (h .ze) c (by simp)
 | body k=>exact Lay.it_keep (P:=P) (r:=(.body k)) (h (.body k)) c (by simp)
 | zg k=>exact Lay.it_keep (P:=P) (r:=(.zg k)) (h (.zg k)) c (by simp)
 | zf k=>exact Lay.it_keep (P:=P) (r:=(.zf k)) (h (.zf k)) c (by simp)
end
theorem yj.start {B:Nat} {w:World} {bl bm:Nat} {vo:Value} {cells now:Int} {order:List Int} (hb:Bx w bl 117 [zI cells,zQ,vo,zI now,.map (some bm)]) (hbB:B<=bl) (hm:xl w bm []) (hmB:B<=bm) (qF:bl≠bm)
 (ho:yf B w vo order) (ho1:vo.ownBlock≠some bl) (ho2:vo.ownBlock≠some bm) :
 yj B (fun g=>if g=bl then .live else if g=bm then .ze else if vo.ownBlock=some g then .order else .other) w ⟨bl,zQ,vo,bm,fun _=>undef,fun _=>0,fun _=>(undef,undef),⟨cells,[],order,now,[],[]⟩⟩:=fun r=>by
 cases r with
 | other=>trivial
 | live=>exact⟨hb,if_pos rfl,hbB⟩
 | zd=>exact⟨yg.nil _ _ _,fun g e=>by cases e⟩
 | zh i=>exact fun hi=>absurd hi yB
 | order=>exact⟨ho,fun g e=>by
  have h1:g≠bl:=fun e2=>ho1 (e2 ▸ e)
  have h2:g≠bm:=fun e2=>ho2 (e2 ▸ e)
  show(if g=bl then Rl.live else if g=bm then .ze else if vo.ownBlock=some g then .order else .other)=_
  rw[if_neg h1,if_neg h2,if_pos e]⟩
 | ze=>exact⟨hm,by
  show(if bm=bl then Rl.live else if bm=bm then .ze else if vo.ownBlock=some bm then .order else .other)=_
  rw[if_neg (Ne.symm qF),if_pos rfl],hmB⟩
 | body k=>exact fun hk=>absurd hk yB
 | zg k=>exact fun hk=>absurd hk yB
 | zf k=>exact fun hk=>absurd hk yB
def jh (ρ:Nat->Rl) (w:World) (n d:Nat) (vt vs:Value):Nat->Rl:=fun g=>if g<w.heap.size then ρ g else if g=d then .body n else if vt.ownBlock=some g then .zg n else if vs.ownBlock=some g then .zf n else .other
def jI (P:Lay) (d:Nat) (vt vs:Value) (b:jg):Lay:={P with D:=fun k=>if k=P.L.zj.length then d else P.D k,T:=fun k=>if k=P.L.zj.length then(vt,vs) else P.T k,L:={P.L with zj:=P.L.zj ++ [b]}}
theorem Va {D D':Nat->Nat} {fs:List ki} (h:∀k,(hk:k<fs.length)->D' fs[k].body=D fs[k].body):yk D' fs=yk D fs:=by
 refine List.ext_getElem (by simp[yk]) fun k h1 h2=>?_
 have hk:k<fs.length:=by simpa [yk] using h1
 simp[yk,h k hk]
theorem U4 {D D':Nat->Nat} {ts:List kN} (h:∀k,(hk:k<ts.length)->D' ts[k].body=D ts[k].body):ts.map (xG D')=ts.map (xG D):=by
 refine List.ext_getElem (by simp) fun k h1 h2=>?_
 have hk:k<ts.length:=by simpa using h1
 simp[xG,h k hk]
theorem yj.addBody {B:Nat} {P:Lay} {ρ:Nat->Rl} {w w':World} (h:yj B ρ w P) (hwf:P.L.wf) (hB:B<=w.heap.size) (hb:zO w w') {d:Nat} {vt vs:Value} {b:jg} (hx:Bx w' d 186 (xx (vt,vs) b)) (hd:w.heap.size<=d)
 (ht:zk w.heap.size w' vt b.zg) (hs:zk w.heap.size w' vs b.zf) (h1:vt.ownBlock≠some d) (h2:vs.ownBlock≠some d) (h3:∀g,vt.ownBlock=some g->vs.ownBlock≠some g) :
 yj B (jh ρ w P.L.zj.length d vt vs) w' (jI P d vt vs b):=by
 have c:Ch (fun r=>r=.other) ρ (jh ρ w P.L.zj.length d vt vs) w w':=⟨hb.size,fun g hg=>if_pos hg,fun g hg _=>hb.block g hg⟩
 have hrd:jh ρ w P.L.zj.length d vt vs d=.body P.L.zj.length:=by unfold jh;rw[if_neg (by omega),if_pos rfl]
 have hrt:∀g,vt.ownBlock=some g->jh ρ w P.L.zj.length d vt vs g=.zg P.L.zj.length:=fun g e=>by
  have:=(ht.lt g e).1
  unfold jh
  rw[if_neg (by omega),if_neg (show ¬g=d from fun e2=>h1 (by rw[<-e2];exact e)),if_pos e]
 have hrs:∀g,vs.ownBlock=some g->jh ρ w P.L.zj.length d vt vs g=.zf P.L.zj.length:=fun g e=>by
  have:=(hs.lt g e).1
  unfold jh
  rw[if_neg (by omega),if_neg (show ¬g=d from fun e2=>h2 (by rw[<-e2];exact e)),if_neg (show ¬vt.ownBlock=some g from fun e2=>h3 g e2 e),if_pos e]
 have hl:(P.L.zj ++ [b]).length=P.L.zj.length+1:=by simp
 have hold:∀{k:Nat},k<P.L.zj.length->(jI P d vt vs b).D k=P.D k/\(jI P d vt vs b).T k=P.T k:=fun {k} hk=>by
  constructor
  ·show(if k=P.L.zj.length then d else P.D k)=_
   rw[if_neg (by omega)]
  ·show(if k=P.L.zj.length then(vt,vs) else P.T k)=_
   rw[if_neg (by omega)]
 have hlast:∀hk:P.L.zj.length<(jI P d vt vs b).L.zj.length,(jI P d vt vs b).L.zj[P.L.zj.length]'hk=b:=fun _=>by
  exact List.getElem_concat_length (l:=P.L.zj) (a:=b) rfl (by simp)
 have hleft:∀{k:Nat} (hk:k<(jI P d vt vs b).L.zj.length) (h2:k<P.L.zj.length),(jI P d vt vs b).L.zj[k]'hk=P.L.zj[k]:=fun {k} _ h2=>by
  show(P.L.zj ++ [b])[k]'_=P.L.zj[k]
  exact List.getElem_append_left h2
 have hnD:(jI P d vt vs b).D P.L.zj.length=d:=if_pos rfl
 have hnT:(jI P d vt vs b).T P.L.zj.length=(vt,vs):=if_pos rfl
 intro r
 cases r with
 | other=>trivial
 | live=>exact Lay.it_keep (P:=P) (r:=.live) (h .live) c (by simp)
 | zd=>exact Lay.it_keep (P:=P) (r:=.zd) (h .zd) c (by simp)
 | order=>exact Lay.it_keep (P:=P) (r:=.order) (h .order) c (by simp)
 | zh i =>
  intro hi
  have:=(Lay.it_keep (P:=P) (r:=.zh i) (h (.zh i)) c (by simp)) hi
  have e:yk (jI P d vt vs b).D P.L.zd[i].zh=yk P.D P.L.zd[i].zh:=Va fun k hk=>(hold (hwf.fr i hi k hk)).1
  show yg B 2 w' (P.F i) P.L.zd[i].zh.length (cells2 (yk (jI P d vt vs b).D P.L.zd[i].zh))/\_
  rw[e]
  exact this
 | ze =>
  have:=Lay.it_keep (P:=P) (r:=.ze) (h .ze) c (by simp)
  have e:P.L.ze.map (xG (jI P d vt vs b).D)=P.L.ze.map (xG P.D):=U4 fun k hk=>(hold (hwf.tw k hk)).1
  show xl w' P.bm (P.L.ze.map (xG (jI P d vt vs b).D))/\_
  rw[e]
  exact this
 | body k =>
  intro hk
  have hk':k<P.L.zj.length+1:=by rw[<-hl];exact hk
  by_cases e:k=P.L.zj.length
  ·subst e
   show Bx w' ((jI P d vt vs b).D P.L.zj.length) _ (xx ((jI P d vt vs b).T P.L.zj.length) ((jI P d vt vs b).L.zj[P.L.zj.length]))/\jh ρ w P.L.zj.length d vt vs ((jI P d vt vs b).D P.L.zj.length)=_/\B<=(jI P d vt vs b).D P.L.zj.length
   rw[hnD,hnT,hlast]
   exact⟨hx,hrd,by omega⟩
  ·have Jw:k<P.L.zj.length:=by omega
   have:=(Lay.it_keep (P:=P) (r:=.body k) (h (.body k)) c (by simp)) Jw
   show Bx w' ((jI P d vt vs b).D k) _ (xx ((jI P d vt vs b).T k) ((jI P d vt vs b).L.zj[k]))/\jh ρ w P.L.zj.length d vt vs ((jI P d vt vs b).D k)=_/\B<=(jI P d vt vs b).D k
   rw[(hold Jw).1,(hold Jw).2,hleft hk Jw]
   exact this
 | zg k =>
  intro hk
  have hk':k<P.L.zj.length+1:=by rw[<-hl];exact hk
  by_cases e:k=P.L.zj.length
  ·subst e
   show zk B w' ((jI P d vt vs b).T P.L.zj.length).1 ((jI P d vt vs b).L.zj[P.L.zj.length]).zg/\∀g,((jI P d vt vs b).T P.L.zj.length).1.ownBlock=some g->_
   rw[hnT,hlast]
   exact⟨ht.mono hB,hrt⟩
  ·have Jw:k<P.L.zj.length:=by omega
   have:=(Lay.it_keep (P:=P) (r:=.zg k) (h (.zg k)) c (by simp)) Jw
   show zk B w' ((jI P d vt vs b).T k).1 ((jI P d vt vs b).L.zj[k]).zg/\∀g,((jI P d vt vs b).T k).1.ownBlock=some g->_
   rw[(hold Jw).2,hleft hk Jw]
   exact this
 | zf k =>
  intro hk
  have hk':k<P.L.zj.length+1:=by rw[<-hl];exact hk
  by_cases e:k=P.L.zj.length
  ·subst e
   show zk B w' ((jI P d vt vs b).T P.L.zj.length).2 ((jI P d vt vs b).L.zj[P.L.zj.length]).zf/\∀g,((jI P d vt vs b).T P.L.zj.length).2.ownBlock=some g->_
   rw[hnT,hlast]
   exact⟨hs.mono hB,hrs⟩
  ·have Jw:k<P.L.zj.length:=by omega
   have:=(Lay.it_keep (P:=P) (r:=.zf k) (h (.zf k)) c (by simp)) Jw
   show zk B w' ((jI P d vt vs b).T k).2 ((jI P d vt vs b).L.zj[k]).zf/\∀g,((jI P d vt vs b).T k).2.ownBlock=some g->_
   rw[(hold Jw).2,hleft hk Jw]
   exact this
end Go.Proofs.YtbjgjjkgfnfejaaGreatDoor
