/-
  What draws: rows of numbers, rows of methods, and words for a program that is being drawn.
-/
import Derived.Test.YtjbgpcileapogaaGreatDraw7
namespace Go.Proofs.YtjbgpcileapogaaGreat
open Go.RowKit
theorem Tryz.infoInt':(Tryz.prog.info? 3).map (fun i=>(i.zero,i.size,i.bytes))=some (some (.int .i64 0),1,8):=by kernel_rfl
theorem Tryz.infoMeth:(Tryz.prog.info? 48).map (fun i=>(i.zero,i.size,i.bytes))=some (some (.agg #[.int .i64 0,.int .i64 0,.slice none 0 0]),3,40):=by kernel_rfl
def xi (B:Nat) (w:World) (v:Value) (xs:List Int):Prop:=w.ownsRow B 3 1 v xs.length (xs.map fun x=>Value.int .i64 x)
theorem xi.one (w:World) (x:Int):xi w.heap.size (w.alloc (.cells #[.int .i64 x] 3)) (.slice (some ⟨w.heap.size,0,none⟩) 1 1) [x] :=
 ⟨rfl,.inr ⟨w.heap.size,1,#[.int .i64 x],rfl,Nat.le_refl _,Go.Deep.blk_alloc_new _ _,Nat.le_refl _,by unfold maxLen;omega,rfl,rfl⟩⟩
theorem xi.mono {B B':Nat} {w:World} {v:Value} {xs:List Int} (h:xi B w v xs) (hB:B'<=B):xi B' w v xs:=by
 obtain⟨h1,h2⟩:=h
 refine⟨h1,?_⟩
 rcases h2 with h2 | ⟨g,zp,cur,hv,hg,r⟩
 ·exact .inl h2
 ·exact .inr ⟨g,zp,cur,hv,by omega,r⟩
theorem xi.lt {B:Nat} {w:World} {v:Value} {xs:List Int} (h:xi B w v xs):∀k,v.ownBlock=some k->B<=k/\k<w.heap.size:=World.ownsRow.lt h
theorem xi.kept {B:Nat} {w w':World} {v:Value} {xs:List Int} {row:Option Nat} (h:xi B w v xs) (hg:w.grownBy w' row) (hne:∀g,row=some g->v.ownBlock≠some g):xi B w' v xs :=
 World.ownsRow.kept h hg (by
  cases row with
  | none=>cases hv:v.ownBlock with
   | none=>exact .inl rfl
   | some g=>exact .inr (by simp)
  | some g=>exact .inr (hne g rfl))
theorem xi.shape1 {B:Nat} {w:World} {v:Value} {xs:List Int} (h:xi B w v xs) (hn:1<=xs.length):∃g c,v=.slice (some ⟨g,0,none⟩) xs.length c:=by
 obtain⟨_,h2⟩:=h
 rcases h2 with⟨rfl,hn'⟩ | ⟨g,zp,cur,rfl,_⟩
 ·omega
 ·exact⟨_,_,rfl⟩
theorem xi.cell {B:Nat} {w:World} {g n c:Nat} {xs:List Int} (h:xi B w (.slice (some ⟨g,0,none⟩) n c) xs) (i:Nat) (hi:i<xs.length):w.cell? ⟨g,i,none⟩=some (.int .i64 xs[i]):=by
 have:=World.ownsRow.cells h (g:=g) rfl i (.int .i64 xs[i]) (by simp[hi])
 rwa [Addr.add_lit,Nat.zero_add] at this
theorem Wn {ops:Array Oper} {rest:List Oper} {o:Oper} {act:Act} {Q:Exit->Act->World->Prop} (w:World) (hgd:o.guard=none) (s x:Operand)
 (ho:o.op=.call {callee:=.builtin .append,args:=#[s,x],argTypes:=#[39,39]}) (B:Nat) (v:Value) (L:List Int) (hs:act.eval s=v) (zx:xi B w v L) (k:Int) (c:Nat)
 (hx:act.eval x=.slice (some ⟨w.heap.size,0,none⟩) 1 c) (hL:L.length<=900) (hB:B<=w.heap.size)
 (h:∀g zp w',xi B w' (.slice (some ⟨g,0,none⟩) (L.length+1) zp) (L ++ [k])->(w.alloc (.cells #[.int .i64 k] 3)).grownBy w' v.ownBlock->B<=g->g<w'.heap.size ->
  wpList Tryz.prog ops Q rest (act.put o.dst (.slice (some ⟨g,0,none⟩) (L.length+1) zp)) w') :
 wpList Tryz.prog ops Q (o :: rest) act (w.alloc (.cells #[.int .i64 k] 3)):=by
 obtain⟨i0,hi,hz0,hz1,hz2⟩:=info_parts Tryz.infoInt'
 refine wpList_append_lies _ hgd s x 39 ho B 3 i0 _ 1 8 Tryz.underlying39 hi hz0 hz1 hz2 rfl (by omega) v L.length (L.map fun x=>Value.int .i64 x) hs (World.ownsRow.alloc zx _) ⟨w.heap.size,0,none⟩ 1 c [.int .i64 k] hx rfl
  (World.news_of_block (Go.Deep.blk_alloc_new w _)) (by simp[Value.oneCell']) (by omega) (by unfold maxLen;omega) (by omega) (by simp;omega) _ rfl ?_
 intro g zp w' h1 h2 h3 h4
 refine h g zp w' ?_ h2 ?_ h4
 ·unfold xi
  simp only[List.length_append,List.map_append,List.length_cons,List.length_nil,List.map_cons,List.map_nil,Nat.zero_add]
  exact h1
 ·rcases h3 with h3 | h3
  ·exact(zx.lt g h3).1
  ·simp at h3;omega
def vx (ms:List (Int × Int × Value)):List Value:=ms.flatMap fun m=>[.int .i64 m.1,.int .i64 m.2.1,m.2.2]
theorem YQ (a b:List (Int × Int × Value)):vx (a ++ b)=vx a ++ vx b:=by simp[vx]
theorem YR (a:List (Int × Int × Value)):(vx a).length=a.length * 3:=by
 induction a with
 | nil=>rfl
 | cons x l ih=>simp[vx] at ih ⊢;omega
theorem zbM (a:List (Int × Int × Value)):∀(i:Nat) (h:i<a.length),(vx a)[i * 3]?=some (.int .i64 a[i].1)/\(vx a)[i * 3+1]?=some (.int .i64 a[i].2.1)/\(vx a)[i * 3+2]?=some a[i].2.2:=by
 induction a with
 | nil=>intro i h;exact absurd h zF
 | cons x l ih =>
  intro i h
  cases i with
  | zero=>exact⟨rfl,rfl,rfl⟩
  | succ i =>
   have:=ih i (by simpa using h)
   rw[show(i+1) * 3=i * 3+3 by omega]
   exact this
def XY (v:Value):Prop:=∃a l c,v=.slice a l c
theorem Zj (M:List (Int × Int × Value)) (hM:∀m∈M,XY m.2.2):∀u∈vx M,u.oneCell'=true:=by
 intro u hu
 simp only[vx,List.mem_flatMap] at hu
 obtain⟨x,hx',hx⟩:=hu
 simp at hx
 rcases hx with rfl | rfl | rfl
 ·rfl
 ·rfl
 ·obtain⟨a,l,c,h⟩:=hM x hx'
  rw[h];rfl
def kG (B:Nat) (w:World) (v:Value) (ms:List (Int × Int × Value)):Prop:=w.ownsRow B 48 3 v ms.length (vx ms)
theorem kG.nil (B:Nat) (w:World):kG B w (.slice none 0 0) []:=World.ownsRow_nil _ _ _ _
theorem kG.mono {B B':Nat} {w:World} {v:Value} {ms:List (Int × Int × Value)} (h:kG B w v ms) (hB:B'<=B):kG B' w v ms:=by
 obtain⟨h1,h2⟩:=h
 refine⟨h1,?_⟩
 rcases h2 with h2 | ⟨g,zp,cur,hv,hg,r⟩
 ·exact .inl h2
 ·exact .inr ⟨g,zp,cur,hv,by omega,r⟩
theorem kG.lt {B:Nat} {w:World} {v:Value} {ms:List (Int × Int × Value)} (h:kG B w v ms):∀k,v.ownBlock=some k->B<=k/\k<w.heap.size:=World.ownsRow.lt h
theorem kG.kept {B:Nat} {w w':World} {v:Value} {ms:List (Int × Int × Value)} {row:Option Nat} (h:kG B w v ms) (hg:w.grownBy w' row) (hne:∀g,row=some g->v.ownBlock≠some g):kG B w' v ms :=
 World.ownsRow.kept h hg (by
  cases row with
  | none=>cases hv:v.ownBlock with
   | none=>exact .inl rfl
   | some g=>exact .inr (by simp)
  | some g=>exact .inr (hne g rfl))
theorem kG.shape {B:Nat} {w:World} {v:Value} {ms:List (Int × Int × Value)} (h:kG B w v ms):∃a c,v=.slice a ms.length c:=by
 obtain⟨_,h2⟩:=h
 rcases h2 with⟨rfl,hn⟩ | ⟨g,zp,cur,rfl,_⟩
 ·exact⟨none,0,by rw[hn]⟩
 ·exact⟨_,_,rfl⟩
theorem kG.shape1 {B:Nat} {w:World} {v:Value} {ms:List (Int × Int × Value)} (h:kG B w v ms) (hn:1<=ms.length):∃g c,v=.slice (some ⟨g,0,none⟩) ms.length c:=by
 obtain⟨_,h2⟩:=h
 rcases h2 with⟨rfl,hn'⟩ | ⟨g,zp,cur,rfl,_⟩
 ·omega
 ·exact⟨_,_,rfl⟩
theorem kG.cell {B:Nat} {w:World} {g n c:Nat} {ms:List (Int × Int × Value)} (h:kG B w (.slice (some ⟨g,0,none⟩) n c) ms) (i:Nat) (hi:i<ms.length) :
 w.cell? ⟨g,i * 3,none⟩=some (.int .i64 ms[i].1)/\w.cell? ⟨g,i * 3+1,none⟩=some (.int .i64 ms[i].2.1)/\w.cell? ⟨g,i * 3+2,none⟩=some ms[i].2.2:=by
 have h3:=zbM ms i hi
 have k0:=World.ownsRow.cells h (g:=g) rfl _ _ h3.1
 have k1:=World.ownsRow.cells h (g:=g) rfl _ _ h3.2.1
 have k2:=World.ownsRow.cells h (g:=g) rfl _ _ h3.2.2
 rw[Addr.add_lit,Nat.zero_add] at k0 k1 k2
 exact⟨k0,k1,k2⟩
theorem zc5 {w:World} {B B':Nat} {v v':Value} {ms:List (Int × Int × Value)} {L:zL} (hr:kG B w v ms) (h:yh B' w v' L):∀g,v.ownBlock=some g->v'.ownBlock≠some g:=by
 intro g e e'
 rcases hr.2 with⟨rfl,_⟩ | ⟨g1,zp,cur,rfl,_,hh,_⟩
 ·cases e
 ·rcases h.2 with⟨rfl,_⟩ | ⟨g2,cap',cur',rfl,_,hh',_⟩
  ·cases e'
  ·simp[Value.ownBlock] at e e'
   subst e;subst e'
   rw[hh] at hh'
   simp at hh'
theorem zcs {w:World} {B B':Nat} {v v':Value} {xs:List Int} {ms:List (Int × Int × Value)} (hr:xi B w v xs) (h:kG B' w v' ms):∀g,v.ownBlock=some g->v'.ownBlock≠some g:=by
 intro g e e'
 rcases hr.2 with⟨rfl,_⟩ | ⟨g1,zp,cur,rfl,_,hh,_⟩
 ·cases e
 ·rcases h.2 with⟨rfl,_⟩ | ⟨g2,cap',cur',rfl,_,hh',_⟩
  ·cases e'
  ·simp[Value.ownBlock] at e e'
   subst e;subst e'
   rw[hh] at hh'
   simp at hh'
theorem zcQ {ops:Array Oper} {rest:List Oper} {o:Oper} {act:Act} {Q:Exit->Act->World->Prop} (w:World) (hgd:o.guard=none) (s x:Operand)
 (ho:o.op=.call {callee:=.builtin .append,args:=#[s,x],argTypes:=#[23,23]}) (B:Nat) (v:Value) (L:List (Int × Int × Value)) (hs:act.eval s=v) (zx:kG B w v L) (M:List (Int × Int × Value)) (hM1:∀m∈M,XY m.2.2) (ad:Addr) (c:Nat)
 (hx:act.eval x=.slice (some ad) M.length c) (hnews:∀j u,(vx M)[j]?=some u->w.cell? (ad.add j)=some u) (hM:0<M.length) (hL:L.length+M.length<=1000) (hB:B<=w.heap.size)
 (h:∀g zp w',kG B w' (.slice (some ⟨g,0,none⟩) (L.length+M.length) zp) (L ++ M)->w.grownBy w' v.ownBlock->B<=g->g<w'.heap.size ->
  wpList Tryz.prog ops Q rest (act.put o.dst (.slice (some ⟨g,0,none⟩) (L.length+M.length) zp)) w') :
 wpList Tryz.prog ops Q (o :: rest) act w:=by
 obtain⟨i0,hi,hz0,hz1,hz2⟩:=info_parts Tryz.infoMeth
 refine wpList_append_lies _ hgd s x 23 ho B 48 i0 _ 3 40 Tryz.underlying23 hi hz0 hz1 hz2 rfl (by omega) v L.length (vx L) hs zx ad M.length c (vx M) hx (YR M)
  hnews (Zj M hM1) hM (by unfold maxLen;omega) (by omega) hB w.heap.size rfl ?_
 intro g zp w' h1 h2 h3 h4
 refine h g zp w' ?_ h2 ?_ h4
 ·unfold kG
  rw[YQ,List.length_append]
  exact h1
 ·rcases h3 with h3 | h3
  ·exact(zx.lt g h3).1
  ·omega
theorem zam {ops:Array Oper} {o:Oper} {act:Act} {K:Act->World->Prop} {Q:Exit->Act->World->Prop} {E:Prop} (w:World) (hgd:o.guard=none) (s x:Operand)
 (ho:o.op=.call {callee:=.builtin .append,args:=#[s,x],argTypes:=#[23,23]}) (B:Nat) (v:Value) (L:List (Int × Int × Value)) (hs:act.eval s=v) (zx:kG B w v L) (M:List (Int × Int × Value)) (hM1:∀m∈M,XY m.2.2) (ad:Addr) (c:Nat)
 (hx:act.eval x=.slice (some ad) M.length c) (hnews:∀j u,(vx M)[j]?=some u->w.cell? (ad.add j)=some u) (hM:0<M.length) (hL:L.length+M.length<=1000) (hB:B<=w.heap.size)
 (h:∀g zp w',kG B w' (.slice (some ⟨g,0,none⟩) (L.length+M.length) zp) (L ++ M)->w.grownBy w' v.ownBlock->B<=g->g<w'.heap.size ->
  K (act.put o.dst (.slice (some ⟨g,0,none⟩) (L.length+M.length) zp)) w') :
 if Region.wanted o (yielded ops act.tmps)=true then Oper.wp Tryz.prog o act w K Q else E:=by
 obtain⟨i0,hi,hz0,hz1,hz2⟩:=info_parts Tryz.infoMeth
 refine step_append_lies _ hgd s x 23 ho B 48 i0 _ 3 40 Tryz.underlying23 hi hz0 hz1 hz2 rfl (by omega) v L.length (vx L) hs zx ad M.length c (vx M) hx (YR M)
  hnews (Zj M hM1) hM (by unfold maxLen;omega) (by omega) hB w.heap.size rfl ?_
 intro g zp w' h1 h2 h3 h4
 refine h g zp w' ?_ h2 ?_ h4
 ·unfold kG
  rw[YQ,List.length_append]
  exact h1
 ·rcases h3 with h3 | h3
  ·exact(zx.lt g h3).1
  ·omega
abbrev MM:=Int × Int × Value × zL
def MM.tri (m:MM):Int × Int × Value:=(m.1,m.2.1,m.2.2.1)
structure kR (B:Nat) (w:World) (v:Value) (ms:List MM):Prop where
 row:kG B w v (ms.map MM.tri)
 ops:∀m∈ms,yh B w m.2.2.1 m.2.2.2
 dis:ms.Pairwise fun m n=>∀g,m.2.2.1.ownBlock=some g->n.2.2.1.ownBlock≠some g
theorem kR.nil (B:Nat) (w:World):kR B w (.slice none 0 0) []:=⟨kG.nil _ _,by simp,.nil⟩
theorem kR.shape {B:Nat} {w:World} {v:Value} {ms:List MM} (h:kR B w v ms):∃a c,v=.slice a ms.length c:=by
 obtain⟨a,c,e⟩:=h.row.shape
 exact⟨a,c,by simpa using e⟩
theorem kR.shape1 {B:Nat} {w:World} {v:Value} {ms:List MM} (h:kR B w v ms) (hn:1<=ms.length):∃g c,v=.slice (some ⟨g,0,none⟩) ms.length c:=by
 obtain⟨a,c,e⟩:=h.row.shape1 (by simpa using hn)
 exact⟨a,c,by simpa using e⟩
theorem kR.mono {B B':Nat} {w:World} {v:Value} {ms:List MM} (h:kR B w v ms) (hB:B'<=B):kR B' w v ms:=⟨h.row.mono hB,fun m hm=>(h.ops m hm).mono hB,h.dis⟩
theorem kR.kept {B:Nat} {w w':World} {v:Value} {ms:List MM} {row:Option Nat} (h:kR B w v ms) (hg:w.grownBy w' row) (hne:∀g,row=some g->v.ownBlock≠some g/\∀m∈ms,m.2.2.1.ownBlock≠some g):kR B w' v ms :=
 ⟨h.row.kept hg (fun g e=>(hne g e).1),fun m hm=>(h.ops m hm).kept hg (fun g e=>(hne g e).2 m hm),h.dis⟩
theorem kR.low {B:Nat} {w w':World} {v:Value} {ms:List MM} {b:Nat} (h:kR B w v ms) (hg:w.grownBy w' (some b)) (hb:b<B):kR B w' v ms :=
 h.kept hg fun g e=>by
  cases e
  exact⟨fun k=>by have:=(h.row.lt _ k).1;omega,fun m hm k=>by have:=((h.ops m hm).lt _ k).1;omega⟩
theorem kR.ofMap {ms:List MM} {i:Nat} (hi:i<ms.length):(ms.map MM.tri)[i]'(by simpa using hi)=(ms[i].1,ms[i].2.1,ms[i].2.2.1):=by simp[MM.tri]
theorem yh.at {B:Nat} {w:World} {v:Value} {L:zL} (h:yh B w v L) (hl:L.length<=maxLen):zR w v L:=by
 rcases h.2 with⟨rfl,hn⟩ | ⟨g,zp,cur,rfl,_⟩
 ·have:L=[]:=List.length_eq_zero_iff.1 hn
  subst this
  exact⟨none,0,rfl,Nat.zero_le _,fun i hi=>absurd hi zF⟩
 ·refine⟨some ⟨g,0,none⟩,zp,rfl,hl,fun i hi=>⟨g,0,rfl,?_,?_⟩⟩
  ·have:=World.ownsRow.cells h (g:=g) rfl _ _ (YT L i hi).1
   rwa [Addr.add_lit] at this
  ·have:=World.ownsRow.cells h (g:=g) rfl _ _ (YT L i hi).2
   rw[Addr.add_lit] at this
   simpa using this
def zQ (ms:List MM):zM:=ms.map fun m=>(m.1,m.2.1,m.2.2.2)
theorem kR.meths {B:Nat} {w:World} {v:Value} {ms:List MM} (h:kR B w v ms) (hl:ms.length<=maxLen) (ho:∀m∈ms,m.2.2.2.length<=maxLen):yy w v (zQ ms):=by
 rcases h.row.2 with⟨rfl,hn⟩ | ⟨g,zp,cur,hv,_⟩
 ·have:ms=[]:=by simpa using hn
  subst this
  exact⟨none,0,rfl,Nat.zero_le _,fun i hi=>absurd hi zF⟩
 ·subst hv
  refine⟨some ⟨g,0,none⟩,zp,by simp[zQ],by simpa [zQ] using hl,fun i hi=>?_⟩
  have hi':i<ms.length:=by simpa [zQ] using hi
  have c:=h.row.cell i (by simpa using hi')
  rw[kR.ofMap hi'] at c
  refine⟨g,0,ms[i].2.2.1,rfl,?_,?_,?_,?_⟩
  ·simp only[zQ,List.getElem_map,Nat.zero_add];exact c.1
  ·simp only[zQ,List.getElem_map,Nat.zero_add];exact c.2.1
  ·simp only[Nat.zero_add];exact c.2.2
  ·simp only[zQ,List.getElem_map];exact(h.ops _ (List.getElem_mem hi')).at (ho _ (List.getElem_mem hi'))
theorem wy (w:World) (v:Value):(w.alloc (.cells #[v] 25)).rowIs w.heap.size 25 1 (fun _=>v) :=
 ⟨_,Go.Deep.blk_alloc_new _ _,rfl,fun i hi=>by match i,hi with | 0,_=>rfl⟩
theorem JU {w:World} {g:Nat} {t:TypeId} {n:Nat} {f:Nat->Value} {B:Nat} {v:Value} {L:zL} (hr:w.rowIs g t n f) (h:yh B w v L) (ht:t≠33):v.ownBlock≠some g:=Yz hr h ht
theorem ur {w:World} {g:Nat} {t:TypeId} {n:Nat} {f:Nat->Value} {B:Nat} {v:Value} {L:List (Int × Int × Value)} (hr:w.rowIs g t n f) (h:kG B w v L) (ht:t≠48):v.ownBlock≠some g:=by
 intro e
 obtain⟨c,hc,_⟩:=hr
 rcases h.2 with⟨rfl,_⟩ | ⟨g',zp,cur,rfl,_,hh,_⟩
 ·cases e
 ·simp[Value.ownBlock] at e
  subst e
  rw[hc] at hh
  simp at hh
  exact ht hh.2
theorem Xs {w:World} {g:Nat} {t:TypeId} {n:Nat} {f:Nat->Value} {B:Nat} {v:Value} {L:List Int} (hr:w.rowIs g t n f) (h:xi B w v L) (ht:t≠3):v.ownBlock≠some g:=by
 intro e
 obtain⟨c,hc,_⟩:=hr
 rcases h.2 with⟨rfl,_⟩ | ⟨g',zp,cur,rfl,_,hh,_⟩
 ·cases e
 ·simp[Value.ownBlock] at e
  subst e
  rw[hc] at hh
  simp at hh
  exact ht hh.2
theorem Qt {w0 w w':World} {b:Nat} {a:Option Addr} {len zp p0 p:Nat} {v:Value} {L:List Int} {o:Obj} (h0:Rd w0 b a len zp p0) (hr:Rd w b a len zp p) (hg:w0.grownBy w (some b)) (zx:xi w0.heap.size w v L) {g:Nat} {f:Nat->Value} (hres:w.rowIs g 25 1 f)
 (hg2:(w.alloc o).grownBy w' v.ownBlock):Rd w' b a len zp p/\w0.grownBy w' (some b)/\w'.rowIs g 25 1 f:=by
 have zS:∀g,v.ownBlock=some g->w0.heap.size<=g:=fun g e=>(zx.lt g e).1
 have hA:=World.grownBy_alloc w o v.ownBlock
 have hA2:w.grownBy w' v.ownBlock:=⟨hg2.os.trans hA.os,hg2.tape.trans hA.tape,hg2.output.trans hA.output,Nat.le_trans hA.size hg2.size,fun i hi hn=>(hg2.block i (Nat.lt_of_lt_of_le hi hA.size) hn).trans (hA.block i hi hn)⟩
 exact⟨Rd.kept h0 hr hg.size hA2 zS,ql hg hA2 zS,yq hres hA2 (fun e=>Xs hres zx (by decide) e.symm)⟩
structure PS (w0 w:World) (b:Nat) (a:Option Addr) (len zp p g:Nat) (va:Value) (xs:List Int) (v:Value) (ms:List MM):Prop where
 rd:Rd w b a len zp p
 gr:w0.grownBy w (some b)
 args:xi w0.heap.size w va xs
 box:w.rowIs g 25 1 (fun _=>v)
 own:w0.heap.size<g
 row:kR w0.heap.size w v ms
 res:w.rowIs w0.heap.size 25 1 (fun _=>.slice none 0 0)
 r0:∃p0,Rd w0 b a len zp p0
namespace PS
variable {w0 w w' W:World} {b:Nat} {a:Option Addr} {len zp p q g:Nat} {va:Value} {xs:List Int} {v v':Value} {ms ms':List MM}
theorem blt (h:PS w0 w b a len zp p g va xs v ms):b<w0.heap.size:=by obtain⟨_,h0⟩:=h.r0;exact World.block_lt_of_cell? _ _ h0.s
theorem c0 (h:PS w0 w b a len zp p g va xs v ms):w.cell? ⟨g,0,none⟩=some v:=h.box.cell (by decide)
theorem f0 (h:PS w0 w b a len zp p g va xs v ms):w.frozen? ⟨g,0,none⟩=false:=h.box.frozen 0
theorem pick (h:PS w0 w b a len zp p g va xs v ms) (hrd:Rd w' b a len zp q) (hg:w.grownBy w' (some b)):PS w0 w' b a len zp q g va xs v ms :=
 ⟨hrd,zK h.gr hg,h.args.kept hg (fun k e hk=>by cases e;have:=(h.args.lt _ hk).1;have:=h.blt;omega),yq h.box hg (by have:=h.own;have:=h.blt;simp;omega),h.own,h.row.low hg h.blt,yq h.res hg (by have:=h.blt;simp;omega),h.r0⟩
theorem drew (h:PS w0 w b a len zp p g va xs v ms):PS w0 w.drew b a len zp p g va xs v ms:=⟨Rd.heap h.rd rfl,⟨h.gr.os,h.gr.tape,h.gr.output,h.gr.size,h.gr.block⟩,h.args,h.box,h.own,⟨h.row.row,h.row.ops,h.row.dis⟩,h.res,h.r0⟩
theorem alloc (h:PS w0 w b a len zp p g va xs v ms) (o:Obj):PS w0 (w.alloc o) b a len zp p g va xs v ms:=by
 have hA:=World.grownBy_alloc w o none
 exact⟨h.rd.alloc o,qc h.gr o,World.ownsRow.alloc h.args o,yq h.box hA (by simp),h.own,h.row.kept hA (fun g e=>by cases e),yq h.res hA (by simp),h.r0⟩
theorem appended (h:PS w0 w b a len zp p g va xs v ms) (hg2:w.grownBy w' v.ownBlock):Rd w' b a len zp p/\w0.grownBy w' (some b)/\xi w0.heap.size w' va xs/\w'.rowIs g 25 1 (fun _=>v)/\w'.rowIs w0.heap.size 25 1 (fun _=>.slice none 0 0)/\∀u L,yh w0.heap.size w u L->yh w0.heap.size w' u L:=by
 have zS:∀k,v.ownBlock=some k->w0.heap.size<=k:=fun k e=>(h.row.row.lt k e).1
 obtain⟨p0,h0⟩:=h.r0
 exact⟨Rd.kept h0 h.rd h.gr.size hg2 zS,ql h.gr hg2 zS,h.args.kept hg2 (fun k e hk=>zcs h.args h.row.row k hk e),yq h.box hg2 (fun e=>ur h.box h.row.row (by decide) e.symm),yq h.res hg2 (fun e=>ur h.res h.row.row (by decide) e.symm),
  fun u L hu=>hu.kept hg2 (fun k e hk=>zc5 h.row.row hu k e hk)⟩
theorem stored (h:PS w0 w b a len zp p g va xs v ms) (hg2:w.grownBy w' v.ownBlock) {A T:Int} {vo:Value} {L:zL} (hrow':kG w0.heap.size w' v' (ms.map MM.tri ++ [(A,T,vo)])) (ho:yh w0.heap.size w vo L) (hd:∀m∈ms,∀k,m.2.2.1.ownBlock=some k->vo.ownBlock≠some k) :
 PS w0 (w'.setCell ⟨g,0,none⟩ v') b a len zp p g va xs v' (ms ++ [(A,T,vo,L)]):=by
 obtain⟨h1,h2,h3,h4,h5,h6⟩:=h.appended hg2
 have zx:=h.own
 have k:=yP w' g 0 v'
 have e:∀k,some g=some k->w0.heap.size<=k:=fun k e=>by cases e;omega
 obtain⟨p0,h0⟩:=h.r0
 have hmr:kG w0.heap.size w' v' ((ms ++ [(A,T,vo,L)]).map MM.tri):=by simpa [MM.tri] using hrow'
 have hops:∀m∈ms ++ [((A,T,vo,L):MM)],yh w0.heap.size w' m.2.2.1 m.2.2.2:=by
  intro m hm
  rcases List.mem_append.1 hm with hm | hm
  ·exact h6 _ _ (h.row.ops m hm)
  ·simp at hm;subst hm;exact h6 _ _ ho
 refine⟨Rd.kept h0 h1 h2.size k e,ql h2 k e,h3.kept k (fun q hq hk=>by cases hq;exact Xs h4 h3 (by decide) hk),(h4.set 0 v').congr (fun i hi=>?_),zx,
  ⟨hmr.kept k (fun q hq hk=>by cases hq;exact ur h4 hmr (by decide) hk),fun m hm=>(hops m hm).kept k (fun q hq hk=>by cases hq;exact JU h4 (hops m hm) (by decide) hk),?_⟩,yq h5 k (by simp;omega),h.r0⟩
 ·match i,hi with | 0,_=>simp
 ·exact List.pairwise_append.2 ⟨h.row.dis,by simp,fun m hm n hn=>by simp at hn;subst hn;exact hd m hm⟩
theorem final (h:PS w0 w b a len zp p g va xs v ms):kR w0.heap.size (w.setCell ⟨w0.heap.size,0,none⟩ v) v ms/\Rd (w.setCell ⟨w0.heap.size,0,none⟩ v) b a len zp p/\w0.grownBy (w.setCell ⟨w0.heap.size,0,none⟩ v) (some b)/\(w.setCell ⟨w0.heap.size,0,none⟩ v).cell? ⟨w0.heap.size,0,none⟩=some v:=by
 have k:=yP w w0.heap.size 0 v
 have e:∀k,some w0.heap.size=some k->w0.heap.size<=k:=fun k e=>by cases e;exact Nat.le_refl _
 obtain⟨p0,h0⟩:=h.r0
 refine⟨h.row.kept k (fun q e=>by cases e;exact⟨ur h.res h.row.row (by decide),fun m hm=>JU h.res (h.row.ops m hm) (by decide)⟩),Rd.kept h0 h.rd h.gr.size k e,ql h.gr k e,?_⟩
 exact World.cell?_setCell_same _ _ _ (h.res.cell (i:=0) (by decide))
end PS
def mmOk (m:MM):Prop:=2<=m.2.2.2.length/\m.2.2.2.length<=14
theorem zcy {ms:List MM} {xs:List Int} (hl:ms.length=xs.length) (h1:1<=xs.length) (h4:xs.length<=4) (h0:xs[0]?=some 0) (hw:∀i,(hi:i<ms.length)->yG xs.length (ms[i].1,ms[i].2.1,ms[i].2.2.2)=true/\xs[i]?=some ms[i].1):yt (zQ ms)=true:=by
 have hpl:(zQ ms).length=xs.length:=by simp[zQ,hl]
 have hm0:0<ms.length:=by omega
 have e0:ms[0].1=0:=by
  have:=(hw 0 hm0).2
  rw[h0] at this
  exact(Option.some.inj this).symm
 unfold yt
 rw[hpl]
 simp only[Bool.and_eq_true]
 refine⟨⟨zH.2 ⟨by omega,by omega⟩,?_⟩,Ya fun i hi=>?_⟩
 ·have e:(zQ ms).getD 0 (0,0,[])=(ms[0].1,ms[0].2.1,ms[0].2.2.2):=by simp[zQ,hm0]
  rw[e,beq_iff_eq]
  exact e0
 ·have hi':i<ms.length:=by rw[hpl] at hi;omega
  have e:(zQ ms)[i]=(ms[i].1,ms[i].2.1,ms[i].2.2.2):=by simp[zQ]
  rw[e]
  exact(hw i hi').1
set_option maxRecDepth 100000 in
set_option maxHeartbeats 4000000 in
theorem UB (w:World) (b:Nat) (a:Option Addr) (len zp p:Nat) (hr:Rd w b a len zp p) (hp:p+400<=1000000) :
 Calls Tryz.prog 108 #[.pointer (some ⟨b,0,none⟩)] w fun e w'=>∃(v:Value) (ms:List MM) (p':Nat),e=.returned (.agg #[v])/\kR w.heap.size w' v ms/\2<=ms.length/\ms.length<=4/\(∀m∈ms,mmOk m)/\p<=p'/\p'<=p+400/\Rd w' b a len zp p'/\w.grownBy w' (some b)/\yt (zQ ms)=true:=by
 have hbw:b<w.heap.size:=World.block_lt_of_cell? _ _ hr.s
 have VW:=hr.alloc (.cells #[.slice none 0 0] 25)
 have hgA:=qc (vD w (some b)) (.cells #[.slice none 0 0] 25)
 have resA:=wy w (.slice none 0 0)
 have nB:=xi.one (w.alloc (.cells #[.slice none 0 0] 25)) 0
 have hrB:=VW.alloc (.cells #[.int .i64 0] 3)
 have hgB:=qc hgA (.cells #[.int .i64 0] 3)
 have resB:=resA.alloc (.cells #[.int .i64 0] 3)
 simp only[World.size_alloc] at nB
 replace nB:=nB.mono (Nat.le_succ _)
 clear VW hgA resA
 go_enter Tryz.func108,Tryz.ntmps108
 go_wp2_with fail
 generalize (w.alloc (.cells #[.slice none 0 0] 25)).alloc (.cells #[.int .i64 0] 3)=W0 at *
 have hszB:=hgB.size
 refine(yU _ _ _ _ _ _ _ hrB (by omega) (by omega) (by omega)).mono ?_
 rintro e w1 ⟨x,rfl,hx0,hx1,xe,hg1⟩
 have n1:=nB.kept hg1 (fun k e hk=>by cases e;have:=(nB.lt _ hk).1;omega)
 have res1:=yq resB hg1 (by simp;omega)
 have xK:=zK hgB hg1
 clear hrB hgB hg1 nB resB
 obtain⟨m,rfl⟩:=Int.eq_ofNat_of_zero_le hx0
 go_wp2_with fail
 go_loopg [3,4] (m+1) (fun d va n wr=>∃(xs:List Int) (k q:Nat),d=k/\n=.int .i64 k/\xi w.heap.size wr va xs/\xs.length+k=m+2/\1<=xs.length/\(∀i,(hi:i<xs.length)->0<=xs[i]/\xs[i]<=2)/\p+1<=q/\q<=p+xs.length/\Rd wr b a len zp q/\w.grownBy wr (some b)/\wr.rowIs w.heap.size 25 1 (fun _=>.slice none 0 0)/\Hid (xs[0]?=some 0))
 case atStart=>exact⟨[0],m+1,p+1,rfl,by go_num,n1,by simp;omega,by simp,by simp,by omega,by simp,xe,xK,res1,rfl⟩
 case round =>
  obtain⟨xs,k,q,hgk,rfl,hn,hlen,hl1,hxs,hq,hq',hrd,hgr,hres,H0⟩:=hrel
  replace hgk:=hgk.symm
  subst hgk
  by_cases hk:0<k
  ·have hkz:(0:Int)<(k:Int):=by omega
   have hsz:=hgr.size
   go_wp2_with fail
   refine(yU _ _ _ _ _ _ _ hrd (by omega) (by omega) (by omega)).mono ?_
   rintro e w2 ⟨y,rfl,hy0,hy1,qY,hg2⟩
   have hn2:=hn.kept hg2 (fun k e hk=>by cases e;have:=(hn.lt _ hk).1;omega)
   have hres2:=yq hres hg2 (by simp;omega)
   have qZ:=zK hgr hg2
   have hsz2:=qZ.size
   clear hn hrd hgr hres hg2
   go_wp2_with (at_builtin;refine Wn _ (by rfl) _ _ (by rfl) _ _ xs (by rfl) hn2 _ _ (by rfl) (by omega) (by omega) ?_;intro g3 cp3 w3 hn3 hg3 hB3 hlt3)
   obtain⟨xu,qK,hres3⟩:=Qt hr qY qZ hn2 hres2 hg3
   clear hn2 qY qZ hres2 hg3 hB3 hlt3
   go_wp2
   go_roundg (k - 1)
   case measure=>omega
   case rel=>exact⟨xs ++ [y],k - 1,q+1,rfl,by first | go_num | (simp;omega),by simpa using hn3,by simp;omega,by simp,fun i hi=>by
    rw[List.getElem_append]
    split
    ·exact hxs _ _
    ·simp;omega,by omega,by simp;omega,xu,qK,hres3,by show _=_;rw[List.getElem?_append_left (by omega)];exact H0.out⟩
  ·obtain rfl:k=0:=by omega
   have hsz:=hgr.size
   have hP:PS w (wr.alloc (.cells #[.slice none 0 0] 25)) b a len zp q wr.heap.size u3 xs (.slice none 0 0) []:=by
    refine⟨hrd.alloc _,qc hgr _,World.ownsRow.alloc hn _,wy _ _,?_,kR.nil _ _,hres.alloc _,⟨p,hr⟩⟩
    have:=hres.lt;omega
   obtain⟨ga,ca,hva⟩:=hn.shape1 hl1
   subst hva
   have hxl:Hid (xs.length=m+2):=by show xs.length=m+2;omega
   clear hn hrd hgr hlen n1 xe xK res1 hres
   go_wp2_with fail
   generalize wr.alloc (.cells #[.slice none 0 0] 25)=W1 at *
   generalize wr.heap.size=gB at *
   go_loopg [6] xs.length (fun d i wq=>∃(k q':Nat) (v:Value) (ms:List MM),k<=xs.length/\d=xs.length - k/\i=.int .i64 k/\ms.length=k/\(∀m∈ms,mmOk m)/\q<=q'/\q'<=q+70 * k/\PS w wq b a len zp q' gB (.slice (some ⟨ga,0,none⟩) xs.length ca) xs v ms/\Hid (∀i,(hi:i<ms.length)->yG xs.length (ms[i].1,ms[i].2.1,ms[i].2.2.2)=true/\xs[i]?=some ms[i].1))
   case atStart=>exact⟨0,q,_,[],Nat.zero_le _,rfl,rfl,rfl,by simp,by omega,by omega,hP,fun i hi=>absurd hi zF⟩
   case round =>
    obtain⟨k,q',v,ms,hk,rfl,rfl,HML,hmo,hqq,hqq',Uo,HW⟩:=hrel
    have ZU:Hid (ms.length=k):=HML
    clear HML
    have Ur:ms.length<=4:=by have:=ZU.out;have:=hxl.out;omega
    by_cases hlt:k<xs.length
    ·have hkz:(k:Int)<(xs.length:Int):=by omega
     have c0:=Uo.c0
     have hszr:=Uo.gr.size
     obtain⟨aV,cV,WK⟩:=Uo.row.shape
     subst WK
     have HD:Hid (∀m∈ms,∀k,m.2.2.1.ownBlock=some k->k<wr.heap.size):=fun m hm k e=>((Uo.row.ops m hm).lt k e).2
     have HX:Hid (∀i,(hi:i<xs.length)->wr.cell? ⟨ga,i,none⟩=some (.int .i64 xs[i])/\0<=xs[i]/\xs[i]<=2):=fun i hi=>⟨Uo.args.cell i hi,hxs i hi⟩
     have hgab:ga≠b:=by have:=(Uo.args.lt ga rfl).1;omega
     have hPd:=Uo.drew
     clear hxs Uo
     have hl4:xs.length<=4:=by have:=hxl.out;omega
     go_wp2_with fail
     go_region_law (first
      | (refine zam _ (by rfl) _ _ (by rfl) w.heap.size _ (ms.map MM.tri) (by rfl) (World.ownsRow.alloc hP4.row.row _) [(A,T,vo)] (by simp;exact hsl) ⟨w4.heap.size,0,none⟩ _ (by rfl) (World.news_of_block (Go.Deep.blk_alloc_new w4 _)) (by simp) (by simp;omega) (by have:=hP4.gr.size;simp;omega) ?_;intro g5 cp5 w5 yo hg5 hB5 hlt5;have hap:=(hP4.alloc _).appended hg5;have q0:=hap.2.2.2.1.cell (i:=0) (by decide);have e0:=hap.2.2.2.1.frozen 0)
      | (go_simp;go_at_call 158;refine(Ki _ _ _ _ _ _ ga _ xs k hPd.rd (by omega) HX.out hgab hlt hl4).mono ?_;rintro e w4 ⟨A,T,vo,L,q4,rfl,hrow4,hL2,hL14,hA0,hA2,hT1,hT4,hq4,hq4',qQ,hg4,hAx,hAT,hOps⟩;have HM:Hid (yG xs.length (A,T,L)=true/\xs[k]?=some A):=⟨QI (zH.2 ⟨hA0,hA2⟩) (zH.2 ⟨hAT,hT4⟩) hL14 hOps,by rw[hAx];exact List.getElem?_eq_getElem _⟩;clear hAx hAT hOps;have hP4:=hPd.pick qQ hg4;have k0:=hP4.c0;have k0':=(fun o=>zc (zB _ o) k0);have hsl:XY vo:=by obtain⟨a1,c1,h1⟩:=hrow4.shape;exact⟨_,_,_,h1⟩))
     all_goals
      simp only[List.length_map,List.length_cons,List.length_nil,Nat.zero_add] at yo
      have hPY:=(hP4.alloc _).stored hg5 yo (World.ownsRow.alloc (hrow4.mono (by simpa using hszr)) _) (fun m hm j e e'=>by have:=HD.out m hm j e;have:=(hrow4.lt j e').1;simp at this;omega)
      have hmo':∀m∈ms ++ [((A,T,vo,L):MM)],mmOk m:=fun m hm=>by
       rcases List.mem_append.1 hm with hm | hm
       ·exact hmo m hm
       ·simp at hm;subst hm;exact⟨hL2,hL14⟩
      have HW':Hid (∀i,(hi:i<(ms ++ [((A,T,vo,L):MM)]).length)->yG xs.length ((ms ++ [((A,T,vo,L):MM)])[i].1,(ms ++ [((A,T,vo,L):MM)])[i].2.1,(ms ++ [((A,T,vo,L):MM)])[i].2.2.2)=true/\xs[i]?=some (ms ++ [((A,T,vo,L):MM)])[i].1):=by
       intro i hi
       by_cases e:i<ms.length
       ·rw[List.getElem_append_left e]
        exact HW.out i e
       ·have e2:i=ms.length:=by simp at hi;omega
        subst e2
        rw[List.getElem_append_right zD]
        simp only[Nat.sub_self,List.getElem_cons_zero]
        rw[ZU.out]
        exact HM.out
      clear HW HM
      clear hap q0 e0 hg5 yo hB5 hlt5 k0 k0' hP4 qQ hg4 hPd HX HD hrow4
      go_wp2
      go_roundg (xs.length - (k+1))
      case measure=>omega
      case rel=>exact⟨k+1,q4,_,_,by omega,rfl,by go_num,by have:=ZU.out;simp;omega,hmo',by omega,by omega,hPY,HW'⟩
    ·obtain rfl:k=xs.length:=by omega
     have c0:=Uo.c0
     have r0:=Uo.res.cell (i:=0) (by decide)
     have rf:=Uo.res.frozen 0
     have HPK:Hid (yt (zQ ms)=true):=zcy ZU.out (by omega) (by have:=ZU.out;omega) H0.out HW.out
     have hF:=Uo.final
     obtain⟨aV,cV,WK⟩:=Uo.row.shape
     subst WK
     clear Uo
     go_wp2
     generalize wr.setCell ⟨w.heap.size,0,none⟩ (.slice aV ms.length cV)=W3 at hF ⊢
     obtain⟨h1,h2,h3,d0⟩:=hF
     exact bodyPost_ret (v:=.agg #[.slice aV ms.length cV]) (by simp[results,Tryz.results108,go_sem,d0]) rfl ⟨_,_,_,rfl,h1,by have:=ZU.out;have:=hxl.out;omega,Ur,hmo,by omega,by have:=hxl.out;omega,h2,h3,HPK.out⟩
theorem kG.frozen {B:Nat} {w:World} {g n c:Nat} {ms:List (Int × Int × Value)} (h:kG B w (.slice (some ⟨g,0,none⟩) n c) ms) (j:Nat):w.frozen? ⟨g,j,none⟩=false:=by
 rcases h.2 with⟨e,_⟩ | ⟨g',cap',cur,e,_,hg,_⟩
 ·cases e
 ·cases e
  unfold World.frozen?;rw[hg];simp
theorem yh.frozen {B:Nat} {w:World} {g n c:Nat} {L:zL} (h:yh B w (.slice (some ⟨g,0,none⟩) n c) L) (j:Nat):w.frozen? ⟨g,j,none⟩=false:=by
 rcases h.2 with⟨e,_⟩ | ⟨g',cap',cur,e,_,hg,_⟩
 ·cases e
 ·cases e
  unfold World.frozen?;rw[hg];simp
theorem yh.cell {B:Nat} {w:World} {g n c:Nat} {L:zL} (h:yh B w (.slice (some ⟨g,0,none⟩) n c) L) (i:Nat) (hi:i<L.length) :
 w.cell? ⟨g,i * 2,none⟩=some (.int .i64 L[i].1)/\w.cell? ⟨g,i * 2+1,none⟩=some (.int .i64 L[i].2):=by
 have k0:=World.ownsRow.cells h (g:=g) rfl _ _ (YT L i hi).1
 have k1:=World.ownsRow.cells h (g:=g) rfl _ _ (YT L i hi).2
 rw[Addr.add_lit,Nat.zero_add] at k0 k1
 exact⟨k0,k1⟩
theorem yh.take {B:Nat} {w:World} {g c:Nat} {L:zL} (h:yh B w (.slice (some ⟨g,0,none⟩) L.length c) L) (n:Nat) (hn:n<=L.length):yh B w (.slice (some ⟨g,0,none⟩) n c) (L.take n):=by
 rcases h.2 with⟨e,_⟩ | ⟨g',cap',cur,e,hB,hg,hc,hm,hs,ht⟩
 ·cases e
 ·cases e
  have hl:(L.take n).length=n:=by simp[hn]
  have hf:ue (L.take n)=(ue L).take (n * 2):=by
   have h1:=Zk (L.take n) (L.drop n)
   rw[List.take_append_drop] at h1
   have h2:(ue (L.take n)).length=n * 2:=by rw[uV,hl]
   have h3:=List.take_left' (l₂:=ue (L.drop n)) h2
   rw[<-h1] at h3
   exact h3.symm
  refine⟨by rw[uV],.inr ⟨g,c,cur,by rw[hl],hB,hg,by rw[hl];omega,hm,hs,?_⟩⟩
  rw[hl,hf,<-ht,List.take_take,Nat.min_eq_left (by omega)]
namespace PS
variable {w0 w w' W:World} {b:Nat} {a:Option Addr} {len zp p q g:Nat} {va:Value} {xs:List Int} {v v':Value} {ms ms':List MM}
theorem below (h:PS w0 w b a len zp p g va xs v ms) (hb:Below w.heap.size w w'):PS w0 w' b a len zp p g va xs v ms:=by
 have hN:=qA hb none
 obtain⟨p0,h0⟩:=h.r0
 exact⟨Rd.kept h0 h.rd h.gr.size hN (fun g e=>by cases e),ql h.gr hN (fun g e=>by cases e),h.args.kept hN (fun g e=>by cases e),yq h.box hN (by simp),h.own,h.row.kept hN (fun g e=>by cases e),yq h.res hN (by simp),h.r0⟩
theorem read {gm n c gk ck ln:Nat} (h:PS w0 w b a len zp p g va xs (.slice (some ⟨gm,0,none⟩) n c) ms) (k:Nat) (hk:k<ms.length) (hv:ms[k].2.2.1=.slice (some ⟨gk,0,none⟩) ln ck) (hl:ms[k].2.2.2.length=ln) (i:Nat) (hi:i<ln) :
 w.cell? ⟨g,0,none⟩=some (.slice (some ⟨gm,0,none⟩) n c)/\w.frozen? ⟨g,0,none⟩=false/\(∃x,w.cell? ⟨gm,k * 3,none⟩=some (.int .i64 x))/\(∃x,w.cell? ⟨gm,k * 3+1,none⟩=some (.int .i64 x))/\w.cell? ⟨gm,k * 3+2,none⟩=some (.slice (some ⟨gk,0,none⟩) ln ck) /\
 w.frozen? ⟨gm,k * 3,none⟩=false/\w.frozen? ⟨gm,k * 3+1,none⟩=false/\w.frozen? ⟨gm,k * 3+2,none⟩=false /\
 (∃x,w.cell? ⟨gk,i * 2,none⟩=some (.int .i64 x))/\(∃x,w.cell? ⟨gk,i * 2+1,none⟩=some (.int .i64 x))/\w.frozen? ⟨gk,i * 2,none⟩=false/\w.frozen? ⟨gk,i * 2+1,none⟩=false:=by
 have cs:=h.row.row.cell k (by simpa using hk)
 rw[kR.ofMap hk,hv] at cs
 have hok:=h.row.ops _ (List.getElem_mem hk)
 rw[hv] at hok
 have oc:=hok.cell i (by omega)
 exact⟨h.c0,h.f0,⟨_,cs.1⟩,⟨_,cs.2.1⟩,cs.2.2,h.row.row.frozen _,h.row.row.frozen _,h.row.row.frozen _,⟨_,oc.1⟩,⟨_,oc.2⟩,hok.frozen _,hok.frozen _⟩
end PS
def BytesAt (w:World) (a:Option Addr) (len zp:Nat):Prop :=
 len<=zp/\zp<=maxLen/\∀i,i<len->∃b o x,a=some ⟨b,o,none⟩/\w.cell? ⟨b,o+i,none⟩=some (.int .u8 x)/\0<=x/\x<=255
theorem BytesAt.below {w w':World} {a:Option Addr} {len zp:Nat} (h:BytesAt w a len zp) (hb:Below w.heap.size w w'):BytesAt w' a len zp:=by
 refine⟨h.1,h.2.1,fun i hi=>?_⟩
 obtain⟨b,o,x,ha,hc,hx⟩:=h.2.2 i hi
 exact⟨b,o,x,ha,zc hb hc,hx⟩
theorem zcz {w:World} {a:Option Addr} {len zp n:Nat} (h:BytesAt w a len zp) (hn:n<=len) (hn2:n<=2000):Rd (w.alloc (.cells #[.slice a n zp,.int .i64 0] 155)) w.heap.size a n zp 0:=by
 refine⟨by simp[go_sem],by simp[go_sem],by simp[go_sem],hn2,fun i hi=>?_⟩
 obtain⟨b,o,x,ha,hc,hx⟩:=h.2.2 i (by omega)
 have:=World.block_lt_of_cell? _ _ hc
 exact⟨b,o,x,ha,by simp at this;omega,zc (zB _ _) hc,hx⟩
set_option maxRecDepth 100000 in
theorem WM (w:World) (a:Option Addr) (len zp:Nat) (h:BytesAt w a len zp) :
 Calls Tryz.prog 43 #[.slice a len zp] w fun e w'=>∃n,e=.returned (.pointer (some ⟨w.heap.size,0,none⟩))/\Rd w' w.heap.size a n zp 0/\w'.heap.size=w.heap.size+1/\Below w.heap.size w w':=by
 have hc:=h.1
 have hm:=h.2.1
 unfold maxLen at hm
 by_cases hl:2000<len
 ·have hlz:(2000:Int)<(len:Int):=by omega
  have h20:2000<=zp:=by omega
  obtain⟨b,o,x,ha,_⟩:=h.2.2 0 (by omega)
  subst ha
  have HB:Hid (BytesAt w (some ⟨b,o,none⟩) len zp):=h
  clear h
  go_enter Tryz.func43,Tryz.ntmps43
  go_wp2
  go_ret
  exact⟨2000,rfl,zcz HB.out (by omega) (by omega),by simp,zB _ _⟩
 ·have hlz:(len:Int)<=2000:=by omega
  have HB:Hid (BytesAt w a len zp):=h
  clear h
  go_enter Tryz.func43,Tryz.ntmps43
  go_wp2
  go_ret
  exact⟨len,rfl,zcz HB.out zD (by omega),by simp,zB _ _⟩
structure Kv (B:Nat) (w:World) (v:Value) (ms:List MM):Prop where
 row:kR B w v ms
 few:ms.length<=7
 ops:∀m∈ms,m.2.2.2.length<=14
theorem Kv.kept {B:Nat} {w w':World} {v:Value} {ms:List MM} (h:Kv B w v ms) {b:Nat} (hg:w.grownBy w' (some b)) (hb:b<B):Kv B w' v ms:=⟨h.row.low hg hb,h.few,h.ops⟩
theorem Kv.below {B:Nat} {w w':World} {v:Value} {ms:List MM} (h:Kv B w v ms) (hb:Below w.heap.size w w'):Kv B w' v ms:=⟨h.row.kept (qA hb none) (fun g e=>by cases e),h.few,h.ops⟩
set_option maxRecDepth 100000 in
set_option maxHeartbeats 4000000 in
theorem Vv (w:World) (b:Nat) (a:Option Addr) (len zp p:Nat) (hr:Rd w b a len zp p) (hp:p+100<=1000000) :
 Calls Tryz.prog 63 #[.pointer (some ⟨b,0,none⟩)] w fun e w'=>∃r c:Int,e=.returned (.tuple #[.int .i64 r,.int .i64 c])/\(-1<=r/\r<=6)/\(0<=c/\c<=61)/\Rd w' b a len zp (p+3)/\w.grownBy w' (some b):=by
 have hbl:b<w.heap.size:=World.block_lt_of_cell? _ _ hr.s
 go_enter Tryz.func63,Tryz.ntmps63
 go_wp2_with fail
 refine(yU _ _ _ _ _ _ 20 hr (by omega) (by omega) (by omega)).mono ?_
 rintro e W ⟨x,rfl,hx0,hx1,hrW,hgW⟩
 have hbW:b<W.heap.size:=Nat.lt_of_lt_of_le hbl hgW.size
 have HGW:Hid (w.grownBy W (some b)):=hgW
 have HR:Hid (Rd W b a len zp (p+1)):=hrW
 clear hgW hrW hr
 by_cases hx:x=0
 ·subst hx
  have HA2:Hid (∀i,i<3->∃y:Int,0<=y/\y<=61/\∀V:World,(V.alloc (.cells #[.int .i64 13,.int .i64 61,.int .i64 20] 3)).cell? ⟨V.heap.size,i,none⟩=some (.int .i64 y)/\(V.alloc (.cells #[.int .i64 13,.int .i64 61,.int .i64 20] 3)).drew.cell? ⟨V.heap.size,i,none⟩=some (.int .i64 y)):=fun i hi=>by
   rcases(by omega:i=0\/i=1\/i=2) with rfl | rfl | rfl
   ·exact⟨13,by decide,by decide,fun V=>⟨by simp[go_sem],by simp[go_sem]⟩⟩
   ·exact⟨61,by decide,by decide,fun V=>⟨by simp[go_sem],by simp[go_sem]⟩⟩
   ·exact⟨20,by decide,by decide,fun V=>⟨by simp[go_sem],by simp[go_sem]⟩⟩
  have HRd:Rd W.drew b a len zp (p+1):=Rd.heap HR.out rfl
  have HRa:∀o,Rd (W.alloc o).drew b a len zp (p+1):=fun o=>Rd.heap (HR.out.alloc o) rfl
  have HNE:Hid (∀V:World,W.heap.size<=V.heap.size->some V.heap.size≠some b):=fun V hV e=>by injection e with e;omega
  have HGA1:Hid (∀o,W.grownBy (W.alloc o).drew (some b)):=fun o=>jR (World.grownBy_alloc W o (some b)) 1
  have HGD:Hid (W.grownBy W.drew (some b)):=jR (World.grownBy.refl W (some b)) 1
  go_wp2_with fail
  go_region_law (first
   | (have hh:=qY;clear hh;fail)
   | (go_simp;go_at_call 111;have hh:=xe;clear hh;refine(yU _ _ _ _ _ _ 3 (by first | with_reducible exact xe | with_reducible exact xe.alloc _) (by omega) (by omega) (by omega)).mono ?_;rintro e w2 ⟨x2,rfl,hx20,hx21,qY,hg2⟩;obtain⟨i2,rfl⟩:=Int.eq_ofNat_of_zero_le hx20;obtain⟨y,hy0,hy1,HV⟩:=HA2.out i2 (by omega);have HV1:=fun V=>(HV V).1;have HV2:=fun V=>(HV V).2;have hGA:=fun V:World=>World.grownBy_alloc V (.cells #[.int .i64 13,.int .i64 61,.int .i64 20] 3) (some b);first
    | (with_reducible have q2:=hg2.cell (hg1.cell (HV2 W) (HNE.out W zD)) (HNE.out W zD);with_reducible have HG:=zK (HGA1.out _) (zK hg1 hg2))
    | (with_reducible have q2:=hg2.cell (HV1 w1) (HNE.out w1 (by omega));with_reducible have HG:=zK HGD.out (zK hg1 (zK (hGA w1) hg2)))
    | (with_reducible have HG:=zK HGD.out (zK hg1 hg2);have HV3:=HV1))
   | (go_simp;go_at_call 111;refine(yU _ _ _ _ _ _ 7 (by first | with_reducible exact HRd | with_reducible exact HRa _) (by omega) (by omega) (by omega)).mono ?_;rintro e w1 ⟨x1,rfl,hx10,hx11,xe,hg1⟩;have hz1:W.heap.size<=w1.heap.size:=(by have:=hg1.size;simp at this;omega)))
  all_goals
   have hw:IntKind.i64.wrap (x1 - 1)=x1 - 1:=by rw[IntKind.wrap_i64];omega
   go_wp2
   first
    | exact bodyPost_ret (v:=.tuple #[.int .i64 (IntKind.i64.wrap (x1 - 1)),.int .i64 y]) (by simp[results,Tryz.results63,go_sem]) rfl ⟨_,y,by rw[hw],by omega,by omega,qY,zK HGW.out HG⟩
    | exact bodyPost_ret (v:=.tuple #[.int .i64 (IntKind.i64.wrap (x1 - 1)),.int .i64 y]) (by simp[results,Tryz.results63,go_sem]) rfl ⟨_,y,by rw[hw],by omega,by omega,qY.alloc _,zK HGW.out (zK HG (hGA _))⟩
 ·have hxb:(x == 0)=false:=zG.2 hx
  have HA2:Hid (∀i,i<6->∃y:Int,0<=y/\y<=61/\∀V:World,(V.alloc (.cells #[.int .i64 14,.int .i64 14,.int .i64 20,.int .i64 28,.int .i64 30,.int .i64 60] 3)).cell? ⟨V.heap.size,i,none⟩=some (.int .i64 y)/\(V.alloc (.cells #[.int .i64 14,.int .i64 14,.int .i64 20,.int .i64 28,.int .i64 30,.int .i64 60] 3)).drew.cell? ⟨V.heap.size,i,none⟩=some (.int .i64 y)):=fun i hi=>by
   rcases(by omega:i=0\/i=1\/i=2\/i=3\/i=4\/i=5) with rfl | rfl | rfl | rfl | rfl | rfl
   ·exact⟨14,by decide,by decide,fun V=>⟨by simp[go_sem],by simp[go_sem]⟩⟩
   ·exact⟨14,by decide,by decide,fun V=>⟨by simp[go_sem],by simp[go_sem]⟩⟩
   ·exact⟨20,by decide,by decide,fun V=>⟨by simp[go_sem],by simp[go_sem]⟩⟩
   ·exact⟨28,by decide,by decide,fun V=>⟨by simp[go_sem],by simp[go_sem]⟩⟩
   ·exact⟨30,by decide,by decide,fun V=>⟨by simp[go_sem],by simp[go_sem]⟩⟩
   ·exact⟨60,by decide,by decide,fun V=>⟨by simp[go_sem],by simp[go_sem]⟩⟩
  have HRd:Rd W.drew b a len zp (p+1):=Rd.heap HR.out rfl
  have HRa:∀o,Rd (W.alloc o).drew b a len zp (p+1):=fun o=>Rd.heap (HR.out.alloc o) rfl
  have HNE:Hid (∀V:World,W.heap.size<=V.heap.size->some V.heap.size≠some b):=fun V hV e=>by injection e with e;omega
  have HGA1:Hid (∀o,W.grownBy (W.alloc o).drew (some b)):=fun o=>jR (World.grownBy_alloc W o (some b)) 1
  have HGD:Hid (W.grownBy W.drew (some b)):=jR (World.grownBy.refl W (some b)) 1
  go_wp2_with fail
  go_region_law (first
   | (have hh:=qY;clear hh;fail)
   | (go_simp;go_at_call 111;have hh:=xe;clear hh;refine(yU _ _ _ _ _ _ 6 (by first | with_reducible exact xe | with_reducible exact xe.alloc _) (by omega) (by omega) (by omega)).mono ?_;rintro e w2 ⟨x2,rfl,hx20,hx21,qY,hg2⟩;obtain⟨i2,rfl⟩:=Int.eq_ofNat_of_zero_le hx20;obtain⟨y,hy0,hy1,HV⟩:=HA2.out i2 (by omega);have HV1:=fun V=>(HV V).1;have HV2:=fun V=>(HV V).2;have hGA:=fun V:World=>World.grownBy_alloc V (.cells #[.int .i64 14,.int .i64 14,.int .i64 20,.int .i64 28,.int .i64 30,.int .i64 60] 3) (some b);first
    | (with_reducible have q2:=hg2.cell (hg1.cell (HV2 W) (HNE.out W zD)) (HNE.out W zD);with_reducible have HG:=zK (HGA1.out _) (zK hg1 hg2))
    | (with_reducible have q2:=hg2.cell (HV1 w1) (HNE.out w1 (by omega));with_reducible have HG:=zK HGD.out (zK hg1 (zK (hGA w1) hg2)))
    | (with_reducible have HG:=zK HGD.out (zK hg1 hg2);have HV3:=HV1))
   | (go_simp;go_at_call 111;refine(yU _ _ _ _ _ _ 4 (by first | with_reducible exact HRd | with_reducible exact HRa _) (by omega) (by omega) (by omega)).mono ?_;rintro e w1 ⟨x1,rfl,hx10,hx11,xe,hg1⟩;have hz1:W.heap.size<=w1.heap.size:=(by have:=hg1.size;simp at this;omega)))
  all_goals
   have hw:IntKind.i64.wrap (1+x1)=1+x1:=by rw[IntKind.wrap_i64];omega
   go_wp2
   first
    | exact bodyPost_ret (v:=.tuple #[.int .i64 (IntKind.i64.wrap (1+x1)),.int .i64 y]) (by simp[results,Tryz.results63,go_sem]) rfl ⟨_,y,by rw[hw],by omega,by omega,qY,zK HGW.out HG⟩
    | exact bodyPost_ret (v:=.tuple #[.int .i64 (IntKind.i64.wrap (1+x1)),.int .i64 y]) (by simp[results,Tryz.results63,go_sem]) rfl ⟨_,y,by rw[hw],by omega,by omega,qY.alloc _,zK HGW.out (zK HG (hGA _))⟩
end Go.Proofs.YtjbgpcileapogaaGreat
