/-
  What draws a heap, in memory: the boxes of the program and of the heap, and what stays while they are written.
-/
import Derived.Test.YtjbgpcileapogaaGreatDrawAny
import Derived.Test.YtjbgpcileapogaaGreatRep
import Derived.Test.YtjbgpcileapogaaGreatMOrder
namespace Go.Proofs.YtjbgpcileapogaaGreat
open Go.RowKit
theorem zR.stay {w w':World} {v:Value} {ops:zL} (h:zR w v ops) (hb:∀g,v.ownBlock=some g->w'.heap[g]?=w.heap[g]?):zR w' v ops:=by
 obtain⟨a,zp,rfl,hl,hc⟩:=h
 refine⟨a,zp,rfl,hl,fun i hi=>?_⟩
 obtain⟨b,o,rfl,h0,h1⟩:=hc i hi
 have e:=hb b rfl
 exact⟨b,o,rfl,(World.cell?_of_block (a:=⟨b,_,none⟩) e).trans h0,(World.cell?_of_block (a:=⟨b,_,none⟩) e).trans h1⟩
theorem kR.stay {B C:Nat} {w w':World} {v:Value} {ms:List MM} (h:kR B w v ms) (hl:ms.length<=maxLen) (ho:∀m∈ms,m.2.2.2.length<=maxLen) (hv:∀g,v.ownBlock=some g->g<C) (hm:∀m∈ms,∀g,m.2.2.1.ownBlock=some g->g<C)
 (hb:∀g,B<=g->g<C->w'.heap[g]?=w.heap[g]?):yy w' v (zQ ms):=by
 rcases h.row.2 with⟨rfl,hn⟩ | ⟨g,zp,cur,hv',_⟩
 ·have:ms=[]:=by simpa using hn
  subst this
  exact⟨none,0,rfl,Nat.zero_le _,fun i hi=>absurd hi zF⟩
 ·subst hv'
  refine⟨some ⟨g,0,none⟩,zp,by simp[zQ],by simpa [zQ] using hl,fun i hi=>?_⟩
  have hi':i<ms.length:=by simpa [zQ] using hi
  have c:=h.row.cell i (by simpa using hi')
  rw[kR.ofMap hi'] at c
  have e:=hb g (h.row.lt g rfl).1 (hv g rfl)
  have hmi:=List.getElem_mem hi'
  have key:∀o x,w.cell? ⟨g,o,none⟩=some x->w'.cell? ⟨g,o,none⟩=some x:=fun o x hx=>(World.cell?_of_block (a:=⟨g,o,none⟩) e).trans hx
  refine⟨g,0,ms[i].2.2.1,rfl,?_,?_,?_,?_⟩
  ·simp only[zQ,List.getElem_map,Nat.zero_add];exact key _ _ c.1
  ·simp only[zQ,List.getElem_map,Nat.zero_add];exact key _ _ c.2.1
  ·simp only[Nat.zero_add];exact key _ _ c.2.2
  ·simp only[zQ,List.getElem_map];exact((h.ops _ hmi).at (ho _ hmi)).stay fun q hq=>hb q ((h.ops _ hmi).lt q hq).1 (hm _ hmi q hq)
def ki (B:Nat) (w:World) (P:World->Prop):Prop:=∀w':World,w.heap.size<=w'.heap.size->(∀g,B<=g->g<w.heap.size->w'.heap[g]?=w.heap[g]?)->P w'
theorem ki.here {B:Nat} {w:World} {P:World->Prop} (h:ki B w P):P w:=h w zD fun _ _ _=>rfl
theorem ki.grown {B b:Nat} {w w':World} {P:World->Prop} (h:ki B w P) (hg:w.grownBy w' (some b)) (hb:b<B):ki B w' P:=fun w'' e1 e2=>h w'' (Nat.le_trans hg.size e1) fun g x1 x2=>(e2 g x1 (Nat.lt_of_lt_of_le x2 hg.size)).trans (hg.block g x2 (fun e=>by injection e with e;omega))
theorem ki.below {B:Nat} {w w':World} {P:World->Prop} (h:ki B w P) (hb:Below w.heap.size w w'):ki B w' P:=fun w'' e1 e2=>h w'' (Nat.le_trans hb.size e1) fun g x1 x2=>(e2 g x1 (Nat.lt_of_lt_of_le x2 hb.size)).trans (hb.block g x2)
theorem ki.mono {B B':Nat} {w:World} {P:World->Prop} (h:ki B w P) (hB:B'<=B):ki B' w P:=fun w'' e1 e2=>h w'' e1 fun g x1 x2=>e2 g (Nat.le_trans hB x1) x2
theorem ki.imp {B:Nat} {w:World} {P Q:World->Prop} (h:ki B w P) (hq:∀w',P w'->Q w'):ki B w Q:=fun w'' e1 e2=>hq _ (h w'' e1 e2)
def dtwo (x0 x1:Value):Nat->Value:=fun i=>if i=0 then x0 else x1
theorem zbG (w:World) (t:TypeId) (x0 x1:Value):(w.alloc (.cells #[x0,x1] t)).rowIs w.heap.size t 2 (dtwo x0 x1) :=
 ⟨_,Go.Deep.blk_alloc_new _ _,rfl,fun i hi=>by match i,hi with | 0,_=>rfl | 1,_=>rfl⟩
theorem Wu {w:World} {g:Nat} {t:TypeId} {x0 x1:Value} (h:w.rowIs g t 2 (dtwo x0 x1)):(w.cell? ⟨g,0,none⟩=some x0/\w.cell? ⟨g,1,none⟩=some x1)/\(w.frozen? ⟨g,0,none⟩=false/\w.frozen? ⟨g,1,none⟩=false) :=
 ⟨⟨h.cell (i:=0) (by decide),h.cell (i:=1) (by decide)⟩,h.frozen 0,h.frozen 1⟩
structure ZZ (B:Nat) (w:World) (vc vs:Value) (h:Hp):Prop where
 c:qo w vc h.za
 s:zR w vs h.zl
 r:zj B w vs h.zl
theorem ZZ.at {B:Nat} {w:World} {vc vs:Value} {h:Hp} (k:ZZ B w vc vs h):qa w vc vs h:=⟨k.c,k.s⟩
theorem ZZ.mono {B B':Nat} {w:World} {vc vs:Value} {h:Hp} (k:ZZ B w vc vs h) (hB:B'<=B):ZZ B' w vc vs h:=⟨k.c,k.s,k.r.mono hB⟩
structure DH (w:World) (b:Nat) (a:Option Addr) (len zp q B0 bp bh:Nat) (vp:Value) (ms:List MM) (vc vs:Value) (h:Hp) (wx:World):Prop where
 rd:Rd wx b a len zp q
 gr:w.grownBy wx (some b)
 rp:wx.rowIs w.heap.size 25 1 (fun _=>.slice none 0 0)
 rh:wx.rowIs (w.heap.size+1) 29 5 (jQ (.slice none 0 0) (.int .i64 0) (.int .i64 0) (.slice none 0 0) (.int .i64 0))
 rb:wx.rowIs bp 25 1 (fun _=>vp)
 R:wx.rowIs bh 29 5 (jQ vc (.int .i64 h.now) (.int .i64 h.born) vs (.int .i64 h.code))
 mx:∀w':World,wx.heap.size<=w'.heap.size->(∀g,B0<=g->g<bh->w'.heap[g]?=wx.heap[g]?)->yy w' vp (zQ ms)
 hx:∀w':World,wx.heap.size<=w'.heap.size->(∀g,bh<g->g<wx.heap.size->w'.heap[g]?=wx.heap[g]?)->ZZ bh w' vc vs h
 r0:∃q0,Rd w b a len zp q0
 n0:b<w.heap.size
 n1:w.heap.size+1<B0
 n2:w.heap.size+1<bp
 n3:bp<bh
variable {w wx w':World} {b:Nat} {a:Option Addr} {len zp q B0 bp bh:Nat} {vp vc vs:Value} {ms:List MM} {h:Hp}
theorem DH.drew (k:DH w b a len zp q B0 bp bh vp ms vc vs h wx):DH w b a len zp q B0 bp bh vp ms vc vs h wx.drew :=
 ⟨Rd.heap k.rd rfl,⟨k.gr.os,k.gr.tape,k.gr.output,k.gr.size,k.gr.block⟩,k.rp,k.rh,k.rb,k.R,k.mx,k.hx,k.r0,k.n0,k.n1,k.n2,k.n3⟩
theorem DH.pick {q':Nat} (k:DH w b a len zp q B0 bp bh vp ms vc vs h wx) (hr:Rd w' b a len zp q') (hg:wx.grownBy w' (some b)):DH w b a len zp q' B0 bp bh vp ms vc vs h w':=by
 have h0:=k.n0
 have h1:=k.n1
 have h2:=k.n2
 have h3:=k.n3
 have hbh:=k.R.lt
 refine⟨hr,zK k.gr hg,yq k.rp hg (by intro e;injection e with e;omega),yq k.rh hg (by intro e;injection e with e;omega),yq k.rb hg (by intro e;injection e with e;omega),yq k.R hg (by intro e;injection e with e;omega),fun w'' e1 e2=>k.mx w'' (Nat.le_trans hg.size e1) fun g x1 x2=>(e2 g x1 x2).trans (hg.block g (by omega) (by intro e;injection e with e;omega)),fun w'' e1 e2=>k.hx w'' (Nat.le_trans hg.size e1) fun g x1 x2=>(e2 g x1 (Nat.lt_of_lt_of_le x2 hg.size)).trans (hg.block g x2 (by intro e;injection e with e;omega)),k.r0,h0,h1,h2,h3⟩
theorem DH.alloc (k:DH w b a len zp q B0 bp bh vp ms vc vs h wx) (o:Obj):DH w b a len zp q B0 bp bh vp ms vc vs h (wx.alloc o):=by
 have hb:Below wx.heap.size wx (wx.alloc o):=zB _ _
 have hbh:=k.R.lt
 have h3:=k.n3
 exact⟨k.rd.alloc o,qc k.gr o,zz hb k.rp,zz hb k.rh,zz hb k.rb,zz hb k.R,fun w'' e1 e2=>k.mx w'' (Nat.le_trans hb.size e1) fun g x1 x2=>(e2 g x1 x2).trans (hb.block g (by omega)),fun w'' e1 e2=>k.hx w'' (Nat.le_trans hb.size e1) fun g x1 x2=>(e2 g x1 (Nat.lt_of_lt_of_le x2 hb.size)).trans (hb.block g x2),k.r0,k.n0,k.n1,k.n2,h3⟩
theorem DH.re {vm vs':Value} {h':Hp} (k:DH w b a len zp q B0 bp bh vp ms vc vs h wx) (hb:Below bh wx w') (hR:w'.rowIs bh 29 5 (jQ vm (.int .i64 h'.now) (.int .i64 h'.born) vs' (.int .i64 h'.code)))
 (hx:∀w'':World,w'.heap.size<=w''.heap.size->(∀g,bh<g->g<w'.heap.size->w''.heap[g]?=w'.heap[g]?)->ZZ bh w'' vm vs' h'):DH w b a len zp q B0 bp bh vp ms vm vs' h' w':=by
 have h0:=k.n0
 have h1:=k.n1
 have h2:=k.n2
 have h3:=k.n3
 have hbh:=k.R.lt
 have hz:=k.gr.size
 refine⟨?_,⟨hb.os.trans k.gr.os,hb.tape.trans k.gr.tape,hb.output.trans k.gr.output,Nat.le_trans k.gr.size hb.size,fun g x1 x2=>(hb.block g (by omega)).trans (k.gr.block g x1 x2)⟩,k.rp.of_block (hb.block _ (by omega)),k.rh.of_block (hb.block _ (by omega)),k.rb.of_block (hb.block _ (by omega)),hR,fun w'' e1 e2=>k.mx w'' (Nat.le_trans hb.size e1) fun g x1 x2=>(e2 g x1 x2).trans (hb.block g x2),hx,k.r0,h0,h1,h2,h3⟩
 have r:=k.rd
 exact⟨(World.cell?_of_block (a:=⟨b,0,none⟩) (hb.block b (by omega))).trans r.s,(World.cell?_of_block (a:=⟨b,1,none⟩) (hb.block b (by omega))).trans r.p,(World.frozen?_of_block (a:=⟨b,1,none⟩) (hb.block b (by omega))).trans r.f,r.l,fun i hi=>by
  obtain⟨q0,r0⟩:=k.r0
  obtain⟨b0,o0,x0,e0,_,hc0,_⟩:=r0.c i hi
  have hlt:=World.block_lt_of_cell? _ _ hc0
  obtain⟨b',o,x,e1,hb',hc,hx'⟩:=r.c i hi
  have hbb:b'=b0:=by
   rw[e0] at e1
   injection e1 with e1
   injection e1 with e1 _
   exact e1.symm
  subst hbb
  have hlt':b'<w.heap.size:=hlt
  exact⟨b',o,x,e1,hb',(World.cell?_of_block (a:=⟨b',o+i,none⟩) (hb.block b' (by omega))).trans hc,hx'⟩⟩
theorem DH.num {h':Hp} {i:Nat} {x:Int} (k:DH w b a len zp q B0 bp bh vp ms vc vs h wx) (hc:h'.za=h.za) (hs:h'.zl=h.zl)
 (hR:(wx.setCell ⟨bh,i,none⟩ (.int .i64 x)).rowIs bh 29 5 (jQ vc (.int .i64 h'.now) (.int .i64 h'.born) vs (.int .i64 h'.code))):DH w b a len zp q B0 bp bh vp ms vc vs h' (wx.setCell ⟨bh,i,none⟩ (.int .i64 x)):=by
 have hz:(wx.setCell ⟨bh,i,none⟩ (.int .i64 x)).heap.size=wx.heap.size:=by simp[World.setCell]
 refine k.re (zC.setCell (p:=⟨bh,i,none⟩) zD _) hR fun w'' e1 e2=>?_
 have H:=k.hx w'' (by omega) fun g x1 x2=>(e2 g x1 (by omega)).trans (Below.heap_setCell _ _ _ _ (by intro e;have:g=bh:=e;omega))
 exact⟨by rw[hc];exact H.c,by rw[hs];exact H.s,by rw[hs];exact H.r⟩
theorem DH.fin (k:DH w b a len zp q B0 bp bh vp ms vc vs h wx):∃WF:World,WF=((((((wx.setCell ⟨w.heap.size,0,none⟩ vp).setCell ⟨w.heap.size+1,0,none⟩ vc).setCell ⟨w.heap.size+1,1,none⟩ (.int .i64 h.now)).setCell ⟨w.heap.size+1,2,none⟩ (.int .i64 h.born)).setCell ⟨w.heap.size+1,3,none⟩ vs).setCell ⟨w.heap.size+1,4,none⟩ (.int .i64 h.code)) /\
 WF.cell? ⟨w.heap.size,0,none⟩=some vp/\WF.rowIs (w.heap.size+1) 29 5 (jQ vc (.int .i64 h.now) (.int .i64 h.born) vs (.int .i64 h.code))/\ki w.heap.size WF (fun x=>yy x vp (zQ ms)/\ZZ w.heap.size x vc vs h)/\Rd WF b a len zp q/\w.grownBy WF (some b):=by
 have h0:=k.n0
 have h1:=k.n1
 have h2:=k.n2
 have h3:=k.n3
 have hbh:=k.R.lt
 obtain⟨q0,r0⟩:=k.r0
 have k1:=yP wx w.heap.size 0 vp
 have k2:=zK (zK (zK (zK (yP (wx.setCell ⟨w.heap.size,0,none⟩ vp) (w.heap.size+1) 0 vc) (yP _ (w.heap.size+1) 1 (.int .i64 h.now))) (yP _ (w.heap.size+1) 2 (.int .i64 h.born))) (yP _ (w.heap.size+1) 3 vs)) (yP _ (w.heap.size+1) 4 (.int .i64 h.code))
 have e1:∀g,some w.heap.size=some g->w.heap.size<=g:=fun g e=>by injection e with e;omega
 have e2:∀g,some (w.heap.size+1)=some g->w.heap.size<=g:=fun g e=>by injection e with e;omega
 have g1:=ql k.gr k1 e1
 have hz1:(wx.setCell ⟨w.heap.size,0,none⟩ vp).heap.size=wx.heap.size:=by simp[World.setCell]
 have hbl:∀g,w.heap.size+1<g->g<wx.heap.size->((((((wx.setCell ⟨w.heap.size,0,none⟩ vp).setCell ⟨w.heap.size+1,0,none⟩ vc).setCell ⟨w.heap.size+1,1,none⟩ (.int .i64 h.now)).setCell ⟨w.heap.size+1,2,none⟩ (.int .i64 h.born)).setCell ⟨w.heap.size+1,3,none⟩ vs).setCell ⟨w.heap.size+1,4,none⟩ (.int .i64 h.code)).heap[g]?=wx.heap[g]?:=fun g x1 x2=>(k2.block g (by omega) (fun e=>by injection e with e;omega)).trans (k1.block g x2 (fun e=>by injection e with e;omega))
 refine⟨_,rfl,k2.cell (World.cell?_setCell_same wx ⟨w.heap.size,0,none⟩ vp (k.rp.cell (i:=0) (by decide))) (by intro e;simp at e),j9 (jD (jC (j8 (jj (yq k.rh k1 (by intro e;injection e with e;omega)) vc) (.int .i64 h.now)) (.int .i64 h.born)) vs) (.int .i64 h.code),fun w'' y1 y2=>⟨k.mx _ (Nat.le_trans (Nat.le_trans k1.size k2.size) y1) fun g x1 x2=>(y2 g (by omega) (by have:=k1.size;have:=k2.size;omega)).trans (hbl g (by omega) (by omega)),(k.hx _ (Nat.le_trans (Nat.le_trans k1.size k2.size) y1) fun g x1 x2=>(y2 g (by omega) (by have:=k1.size;have:=k2.size;omega)).trans (hbl g (by omega) x2)).mono (by omega)⟩,Rd.kept r0 (Rd.kept r0 k.rd k.gr.size k1 e1) g1.size k2 e2,ql g1 k2 e2⟩
theorem yJ.put {B:Nat} {w w':World} {vs:Value} {g off n zp:Nat} {h:Hp} {V:Nat->Value × Value} (k:yJ B w (.slice (some ⟨g,off,Option.none⟩) n zp) vs h V) {j:Nat} (hj:j<h.za.length) {c:Cl} {vt vs':Value}
 (p:Put B w w' g off j V c vt vs'):yJ B w' (.slice (some ⟨g,off,Option.none⟩) n zp) vs {h with za:=h.za.set j c} (Qe V j (vt,vs')):=by
 have hV1:∀q,(V j).1.ownBlock=some q->yE (.slice (some ⟨g,off,Option.none⟩) n zp) h.za.length V q:=fun q e=>.inr ⟨j * 2,by omega,by rw[vz];exact e⟩
 have hV2:∀q,(V j).2.ownBlock=some q->yE (.slice (some ⟨g,off,Option.none⟩) n zp) h.za.length V q:=fun q e=>.inr ⟨j * 2+1,by omega,by rw[vg];exact e⟩
 have hout:∀q,q<w.heap.size->¬yE (.slice (some ⟨g,off,Option.none⟩) n zp) h.za.length V q->w'.heap[q]?=w.heap[q]?:=fun q hq hn=>p.bl q hq (fun e=>hn (.inl (by rw[e];rfl))) (fun e=>hn (hV1 q e)) (fun e=>hn (hV2 q e))
 have hnew:∀q,q<w.heap.size->¬yE (.slice (some ⟨g,off,Option.none⟩) n zp) h.za.length V q->¬yE (.slice (some ⟨g,off,Option.none⟩) n zp) (h.za.set j c).length (Qe V j (vt,vs')) q:=fun q hq hn e=>by
  rcases e with e | ⟨i,hi,e⟩
  ·exact hn (.inl e)
  ·rw[List.length_set] at hi
   rw[uZ] at e
   by_cases e1:i / 2=j
   ·rw[if_pos e1] at e
    by_cases e2:i % 2=0
    ·rw[if_pos e2] at e
     rcases p.nt q e with x | x | x
     ·exact hn (hV1 q x)
     ·exact hn (hV2 q x)
     ·omega
    ·rw[if_neg e2] at e
     rcases p.ns q e with x | x | x
     ·exact hn (hV1 q x)
     ·exact hn (hV2 q x)
     ·omega
   ·rw[if_neg e1] at e
    exact hn (.inr ⟨i,hi,e⟩)
 exact⟨k.c.put hj c vt vs' p.sz p.fr p.row p.bl p.c0 p.c1 p.c2 p.c3 p.c4 p.c5 p.ht p.hs p.nt p.ns p.ts,k.s.kept p.sz fun q e=>hout q (k.s.lt q e).2 (k.apart q e),fun q e=>hnew q (k.s.lt q e).2 (k.apart q e)⟩
theorem yJ.stays {B bh:Nat} {w:World} {vc vs:Value} {h:Hp} {V:Nat->Value × Value} (k:yJ B w vc vs h V) (hB:bh<B):∀w':World,w.heap.size<=w'.heap.size->(∀g,bh<g->g<w.heap.size->w'.heap[g]?=w.heap[g]?)->ZZ bh w' vc vs h :=
 fun _ e1 e2=>by
  have o:=k.kept e1 fun g hg=>e2 g (by have:=(k.lt hg).1;omega) (k.lt hg).2
  exact⟨o.at.c,o.at.s,o.s.mono (by omega)⟩
theorem yJ.say {B:Nat} {w w2:World} {vc vs:Value} {h:Hp} {V:Nat->Value × Value} (k:yJ B w vc vs h V) (v':Value) (sd:zL) (hsz:w.heap.size<=w2.heap.size)
 (hbl:∀q,q<w.heap.size->vs.ownBlock≠some q->w2.heap[q]?=w.heap[q]?) (hr:zj B w2 v' sd) (hv:∀q,v'.ownBlock=some q->vs.ownBlock=some q\/w.heap.size<=q):yJ B w2 vc v' {h with zl:=sd} V :=
 ⟨k.c.kept hsz fun q e=>hbl q (k.c.lt e).2 (fun e2=>k.apart q e2 e),hr,fun q e e2=>by
  rcases hv q e with x | x
  ·exact k.apart q x e2
  ·have:=(k.c.lt e2).2;omega⟩
theorem yJ.setLow {B:Nat} {w:World} {vc vs:Value} {h:Hp} {V:Nat->Value × Value} (k:yJ B w vc vs h V) {p:Addr} (hp:p.block<B) (u:Value):yJ B (w.setCell p u) vc vs h V :=
 k.kept (by simp[World.setCell]) fun g hg=>Below.heap_setCell _ _ _ _ (fun e=>by have:=(k.lt hg).1;omega)
theorem zbk {B:Nat} {w w2:World} {g off zp n:Nat} {cs:List Cl} {V:Nat->Value × Value} (h:yu B w (.slice (some ⟨g,off,none⟩) n zp) cs V) {j:Nat} (hj:j<cs.length) (v':Value) (st:zL) (hsz:w.heap.size<=w2.heap.size)
 (hbl:∀k,k<w.heap.size->(V j).1.ownBlock≠some k->w2.heap[k]?=w.heap[k]?) (hr:zj B w2 v' st) (hv:∀q,v'.ownBlock=some q->(V j).1.ownBlock=some q\/w.heap.size<=q) :
 Put B w (w2.setCell ⟨g,off+j * 6+2,none⟩ v') g off j V {cs[j] with zg:=st} v' (V j).2:=by
 have hgl:g<w.heap.size:=(h.lt (g:=g) (.inl rfl)).2
 obtain⟨⟨c0,c1,c2,c3,c4,c5⟩,_⟩:=h.cells hj
 obtain⟨a1,a2⟩:(∀q,(V j).2.ownBlock=some q->q≠g/\(V j).1.ownBlock≠some q)/\(∀q,(V j).1.ownBlock=some q->q≠g):=by
  refine⟨fun q e=>?_,fun q e eg=>?_⟩
  ·obtain⟨x1,x2⟩:=h.apart (j * 2+1) (by omega) q (by rw[vg];exact e)
   have x3:=x2 (j * 2) (by omega) (by omega)
   rw[vz] at x3
   exact⟨fun eg=>x1 (by rw[eg];rfl),x3⟩
  ·exact(h.apart (j * 2) (by omega) q (by rw[vz];exact e)).1 (by rw[eg];rfl)
 have hg2:w2.heap[g]?=w.heap[g]?:=hbl g hgl (fun e=>a2 g e rfl)
 have cg:∀o,w2.cell? ⟨g,o,none⟩=w.cell? ⟨g,o,none⟩:=fun o=>World.cell?_of_block (a:=⟨g,o,none⟩) hg2
 have fg:∀o,w2.frozen? ⟨g,o,none⟩=w.frozen? ⟨g,o,none⟩:=fun o=>World.frozen?_of_block (a:=⟨g,o,none⟩) hg2
 have hoth:∀o,o≠off+j * 6+2->(w2.setCell ⟨g,off+j * 6+2,none⟩ v').cell? ⟨g,o,none⟩=w.cell? ⟨g,o,none⟩:=fun o ho=>by
  rw[World.cell?_setCell_other _ _ _ _ (fun q=>ho (by have:=congrArg Addr.off q;simpa using this.symm)),cg]
 have hvg:v'.ownBlock≠some g:=fun e=>by
  rcases hv g e with x | x
  ·exact a2 g x rfl
  ·omega
 have ht:=(h.lists j hj).2
 refine⟨by simp[World.setCell];exact hsz,fun o=>by rw[World.frozen?_setCell];exact fg o,fun o ho=>hoth o (by omega),fun k hk hkg h1 h2=>?_,?_,?_,?_,?_,?_,?_,hr.set_other _ hvg,?_,fun q e=>?_,fun q e=>.inr (.inl e),fun q e e2=>?_⟩
 ·rw[Below.heap_setCell _ _ _ _ (fun e=>hkg e)]
  exact hbl k hk h1
 ·rw[hoth _ (by omega)];exact c0
 ·rw[hoth _ (by omega)];exact c1
 ·exact World.cell?_setCell_same _ _ _ (by rw[cg];exact c2)
 ·rw[hoth _ (by omega)];exact c3
 ·rw[hoth _ (by omega)];exact c4
 ·rw[hoth _ (by omega)];exact c5
 ·exact(ht.kept hsz fun q e=>hbl q (ht.lt q e).2 (a1 q e).2).set_other _ (fun e=>(a1 _ e).1 rfl)
 ·rcases hv q e with x | x
  ·exact .inl x
  ·exact .inr (.inr x)
 ·rcases hv q e with x | x
  ·exact(a1 q e2).2 x
  ·have:=(ht.lt q e2).2;omega
theorem qo.tail {w:World} {g off n c:Nat} {cs:List Cl} (h:qo w (.slice (some ⟨g,off,none⟩) n c) cs) (h1:1<=cs.length) (c':Nat):qo w (.slice (some ⟨g,off+6,none⟩) (cs.length - 1) c') (cs.drop 1):=by
 obtain⟨a,zp,hv,hl,hc⟩:=h
 refine⟨some ⟨g,off+6,none⟩,c',by simp,by simp;omega,fun i hi=>?_⟩
 have hi':i+1<cs.length:=by simp at hi;omega
 obtain⟨b,o,vt,vs,ha,k⟩:=hc (i+1) hi'
 injection hv with e1 e2 e3
 rw[ha] at e1
 injection e1 with e1
 injection e1 with e1 e2 _
 subst e1 e2
 refine⟨g,off+6,vt,vs,rfl,?_⟩
 rw[List.getElem_drop,show off+6+i * 6=off+(i+1) * 6 by omega]
 simpa [Nat.add_comm] using k
set_option maxRecDepth 100000 in
set_option maxHeartbeats 4000000 in
theorem zcN (B bo:Nat) (F:List Nat) (vp vn vc vs:Value) (h:Hp) (w:World) (hh:qa w vc vs h) (hsh:h.short) (hn:h.za.length<=31) (hO:Qs (fun _=>False) B bo h.za.length F vp vn w) (hps:jc h.za.length F) :
 Calls Tryz.prog 82 #[.pointer (some ⟨bo,0,none⟩),.agg (yn vc vs h)] w fun e w'=>(∃v V,e=.returned v/\yu w.heap.size w' v (F.map fun p=>vr F (h.za.getD p Cl.none)) V)/\Below w.heap.size w w':=by
 unfold yn
 obtain⟨ac,kc,Yq⟩:=hh.c.shape
 obtain⟨aD,kD,hvs⟩:=hh.s.shape
 subst Yq hvs
 obtain⟨ap,cp',hvp,_⟩:=hO.p.slice
 rw[qP] at hvp
 subst hvp
 have hpl:=hps.len
 obtain⟨⟨o0,o1⟩,of0,of1⟩:=kh hO.box
 have hA:Below w.heap.size w (w.alloc (.cells #[.slice ac h.za.length kc,.int .i64 h.now,.int .i64 h.born,.slice aD h.zl.length kD,.int .i64 h.code] 29)):=zB _ _
 have bx:=qG w 29 (.slice ac h.za.length kc) (.int .i64 h.now) (.int .i64 h.born) (.slice aD h.zl.length kD) (.int .i64 h.code)
 have o0A:=zc hA o0
 have o1A:=zc hA o1
 go_enter Tryz.func82,Tryz.ntmps82
 go_wp2
 generalize w.alloc (.cells #[.slice ac h.za.length kc,.int .i64 h.now,.int .i64 h.born,.slice aD h.zl.length kD,.int .i64 h.code] 29)=W1 at *
 have zA:=hA.size
 have yA:=bx.lt
 clear o0A o1A
 go_loopg [5,13] F.length (fun g o i wr2=>∃(k:Nat) (L:List (Cl × Value × Value)),k<=F.length/\g=F.length - k/\i=.int .i64 k/\L.map (·.1)=(F.take k).map (fun p=>vr F (h.za.getD p Cl.none))/\yz w.heap.size wr2 o L /\
  (∀j,(hj:j<L.length)->zj w.heap.size wr2 L[j].2.1 L[j].1.zg/\zj w.heap.size wr2 L[j].2.2 L[j].1.ze)/\uw L o/\Below W1.heap.size W1 wr2 /\
  (∀q,o.ownBlock=some q->W1.heap.size<=q))
 case atStart=>exact⟨0,[],Nat.zero_le _,rfl,rfl,rfl,yz.nil _ _,fun j hj=>absurd hj zF,fun q hq=>absurd hq zF,zC,fun q e=>by simp[Value.ownBlock] at e⟩
 case round =>
  obtain⟨k,L,hk,rfl,rfl,hmap,zS,hls,hap,hL2,hon⟩:=hrel
  have HMAP:Hid (L.map (·.1)=(F.take k).map (fun p=>vr F (h.za.getD p Cl.none))):=hmap
  have HLS:Hid (∀j,(hj:j<L.length)->zj w.heap.size wr L[j].2.1 L[j].1.zg/\zj w.heap.size wr L[j].2.2 L[j].1.ze):=hls
  have YJ:L.length=k:=by have:=congrArg List.length hmap;simp at this;omega
  have HLL:Hid (L.length=k):=YJ
  obtain⟨ao,co,xz,_⟩:=zS.slice
  subst xz
  have HAP:Hid (uw L (.slice ao L.length co)):=hap
  have HON:Hid (∀q,(Value.slice ao L.length co).ownBlock=some q->W1.heap.size<=q):=hon
  clear hmap hls hap YJ hon
  have hb:Below w.heap.size w wr:=hA.trans (hL2.mono zA)
  have hO2:=hO.below hb
  by_cases hltk:k<F.length
  ·have hkz:(k:Int)<(F.length:Int):=by omega
   obtain⟨gp,op,c1',e1,_⟩:=hO2.p.form (by rw[qP];omega)
   obtain rfl:ap=some ⟨gp,op,none⟩:=by injection e1
   clear e1
   have d1:=(hO2.p.cell (i:=k) (by rw[qP];exact hltk)).1
   rw[zaG] at d1
   have hpk:F[k]<h.za.length:=hps.lt _ (List.getElem_mem hltk)
   have HMT:=zcl (f:=fun p=>vr F (h.za.getD p Cl.none)) hltk
   generalize F[k]=p at *
   obtain⟨b,o,vt,vs',hac,hc⟩:=hh.c.cl hpk
   subst hac
   obtain⟨at',XD,xZ⟩:=hc.t.shape
   obtain⟨as',Ue,hvs⟩:=hc.s.shape
   subst xZ hvs
   have q0:=zc hb hc.c0
   have q1:=zc hb hc.c1
   have q2:=zc hb hc.c2
   have q3:=zc hb hc.c3
   have q4:=zc hb hc.c4
   have q5:=zc hb hc.c5
   have hlen:=hsh.2 p hpk
   have hgd:h.za.getD p Cl.none=h.za[p]:=by simp[hpk]
   rw[hgd] at HMT
   have hct:=hc.t.below hb
   have hcs':=hc.s.below hb
   have w0x:=(zJ (zz hL2 bx)).1.1
   have hpz:(p:Int)<(h.za.length:Int):=by omega
   have hLb:L.length<=900000:=by rw[HLL.out];omega
   have hLT:=UD HLS.out
   have HLT:Hid _:=hLT
   generalize hce:h.za[p]=cp at *
   clear hce hc hgd hLT
   go_wp2_with fail
   refine(JS _ B bo _ F _ _ _ _ cp _ hO2 hps (by omega) hct hcs' hlen).mono ?_
   rintro e w8 ⟨vt8,vs8,rfl,ht8,hs8,hap8,hb8⟩
   obtain⟨at8,kt8,hv8,_⟩:=ht8.slice
   obtain⟨as8,ks8,hw8,_⟩:=hs8.slice
   rw[List.length_map] at hv8 hw8
   subst hv8 hw8
   unfold qt
   simp only[vr]
   have hz8:=hb8.size
   have hwz:=hb.size
   have N15:=zB w8 (.cells #[.int .i64 cp.m,.int .i64 cp.pc,.slice at8 cp.zg.length kt8,.slice as8 cp.ze.length ks8,.int .i64 (qg F cp.zf),.bool cp.zv] 37)
   have s15:=jx w8 37 (.int .i64 cp.m) (.int .i64 cp.pc) (.slice at8 cp.zg.length kt8) (.slice as8 cp.ze.length ks8) (.int .i64 (qg F cp.zf)) (.bool cp.zv)
   have B15:=hb8.trans (N15.mono hz8)
   have zb9:=zS.below B15
   have hz15:(w8.alloc (.cells #[.int .i64 cp.m,.int .i64 cp.pc,.slice at8 cp.zg.length kt8,.slice as8 cp.ze.length ks8,.int .i64 (qg F cp.zf),.bool cp.zv] 37)).heap.size=w8.heap.size+1:=by simp
   go_wp2_with (at_builtin;refine V0 _ (by rfl) _ _ (by rfl) w.heap.size _ L (vr F cp,Value.slice at8 cp.zg.length kt8,Value.slice as8 cp.ze.length ks8) (by rfl) w8.heap.size 1 (by rfl) zb9 rfl rfl (Qw s15) hLb (by omega) ?_;intro v16 w16 hrow16 za1 zdn)
   have hz16:=za1.size
   have hbl:∀q,q<wr.heap.size->(Value.slice ao L.length co).ownBlock≠some q->w16.heap[q]?=wr.heap[q]?:=fun q h1 h2=>(za1.block q (by omega) (fun e=>h2 e.symm)).trans (B15.block q h1)
   have XG:∀q,v16.ownBlock=some q->(Value.slice ao L.length co).ownBlock=some q\/w8.heap.size+1<=q:=fun q e=>by
    rcases zdn with h1 | h1
    ·exact .inl (by rw[<-h1];exact e)
    ·exact .inr (by rw[h1] at e;simp at e;omega)
   have L16:Below W1.heap.size W1 w16:=(hL2.trans (B15.mono hL2.size)).grown za1 (by have:=hL2.size;omega) (fun q e=>HON.out q e)
   have hon16:∀q,v16.ownBlock=some q->W1.heap.size<=q:=fun q e=>by
    rcases XG q e with h1 | h1
    ·exact HON.out q h1
    ·have:=hL2.size;omega
   have P16:zj w.heap.size w16 (.slice at8 cp.zg.length kt8) (cp.zg.map (VH F)):=((ht8.below N15).kept hz16 fun q e=>za1.block q (by have:=(ht8.lt q e).2;omega) (fun e2=>by have h1:=(ht8.lt q e).1;have h2:=(zS.lt q e2.symm).2;omega)).mono (by omega)
   have Q16:zj w.heap.size w16 (.slice as8 cp.ze.length ks8) (cp.ze.map (VH F)):=((hs8.below N15).kept hz16 fun q e=>za1.block q (by have:=(hs8.lt q e).2;omega) (fun e2=>by have h1:=(hs8.lt q e).1;have h2:=(zS.lt q e2.symm).2;omega)).mono (by omega)
   have hls16:Hid (∀j,(hj:j<(L ++ [(vr F cp,Value.slice at8 cp.zg.length kt8,Value.slice as8 cp.ze.length ks8)]).length)->zj w.heap.size w16 (L ++ [(vr F cp,Value.slice at8 cp.zg.length kt8,Value.slice as8 cp.ze.length ks8)])[j].2.1 (L ++ [(vr F cp,Value.slice at8 cp.zg.length kt8,Value.slice as8 cp.ze.length ks8)])[j].1.zg/\zj w.heap.size w16 (L ++ [(vr F cp,Value.slice at8 cp.zg.length kt8,Value.slice as8 cp.ze.length ks8)])[j].2.2 (L ++ [(vr F cp,Value.slice at8 cp.zg.length kt8,Value.slice as8 cp.ze.length ks8)])[j].1.ze):=fun j hj=>by
    by_cases e:j<L.length
    ·rw[List.getElem_append_left e]
     obtain⟨p1,p2⟩:=HLS.out j e
     have a0:=HAP.out (j * 2) (by omega)
     have a1:=HAP.out (j * 2+1) (by omega)
     have hget:L.getD j (Cl.none,.slice none 0 0,.slice none 0 0)=L[j]:=by simp[e]
     rw[vz,hget] at a0
     rw[vg,hget] at a1
     exact⟨p1.kept (by omega) fun q h1=>hbl q (p1.lt q h1).2 (a0 q h1).1,p2.kept (by omega) fun q h1=>hbl q (p2.lt q h1).2 (a1 q h1).1⟩
    ·rw[List.getElem_append_right (by omega)]
     simp only[List.getElem_singleton]
     exact⟨P16,Q16⟩
   have hap16:Hid (uw (L ++ [(vr F cp,Value.slice at8 cp.zg.length kt8,Value.slice as8 cp.ze.length ks8)]) v16):=Yb (S:=wr.heap.size) (S':=w8.heap.size+1) HAP.out HLT.out (fun g e=>⟨(ht8.lt g e).1,by have:=(ht8.lt g e).2;omega⟩) (fun g e=>⟨(hs8.lt g e).1,by have:=(hs8.lt g e).2;omega⟩) hap8 (fun g e=>(zS.lt g e).2) XG (by omega)
   have hmap16:Hid ((L ++ [(vr F cp,Value.slice at8 cp.zg.length kt8,Value.slice as8 cp.ze.length ks8)]).map (·.1)=(F.take (k+1)).map (fun p=>vr F (h.za.getD p Cl.none))):=by
    show _=_
    rw[List.map_append,HMAP.out,<-HMT]
    rfl
   clear hbl za1 zdn XG zb9 s15 P16 Q16 HLS HAP HON HMAP HMT HLT ht8 hs8 hb8 B15 N15 zS hO2 hL2 hct hcs' q0 q1 q2 q3 q4 q5 d1 w0x
   go_wp2
   go_roundg (F.length - (k+1))
   case measure=>omega
   case rel=>exact⟨k+1,_,by omega,rfl,by go_num,hmap16.out,hrow16,hls16.out,hap16.out,L16,hon16⟩
  ·obtain rfl:k=F.length:=by omega
   have hv:=zS.own HLS.out HAP.out
   rw[HMAP.out,List.take_length] at hv
   go_wp2
   go_ret
   exact⟨⟨_,_,rfl,hv⟩,hb⟩
theorem yu.mono {B B':Nat} {w:World} {v:Value} {cs:List Cl} {V:Nat->Value × Value} (h:yu B w v cs V) (hB:B'<=B):yu B' w v cs V:=by
 refine⟨?_,fun i hi=>⟨(h.lists i hi).1.mono hB,(h.lists i hi).2.mono hB⟩,h.apart⟩
 rcases h.row with h0 | ⟨g,off,zp,hv,hg,r⟩
 ·exact .inl h0
 ·exact .inr ⟨g,off,zp,hv,by omega,r⟩
set_option maxRecDepth 100000 in
set_option maxHeartbeats 4000000 in
theorem wX (vc vs:Value) (h:Hp) (w:World) (hh:qa w vc vs h) (hsh:h.short) (hn:h.za.length<=31) :
 Calls Tryz.prog 26 #[.agg (yn vc vs h)] w fun e w'=>(∃v V,e=.returned v/\yu w.heap.size w' v (j5 h) V)/\Below w.heap.size w w':=by
 have HH:Hid (qa w vc vs h):=hh
 have hA:Below w.heap.size w (w.alloc (.cells (yn vc vs h) 29)):=zB _ _
 have bx:(w.alloc (.cells (yn vc vs h) 29)).rowIs w.heap.size 29 5 (jQ vc (.int .i64 h.now) (.int .i64 h.born) vs (.int .i64 h.code)):=qG w 29 vc (.int .i64 h.now) (.int .i64 h.born) vs (.int .i64 h.code)
 unfold yn at *
 obtain⟨ac,kc,Yq⟩:=hh.c.shape
 obtain⟨aD,kD,hvs⟩:=hh.s.shape
 subst Yq hvs
 clear hh
 go_enter Tryz.func26,Tryz.ntmps26
 go_upto_region 1 with fail
 generalize w.alloc (.cells #[.slice ac h.za.length kc,.int .i64 h.now,.int .i64 h.born,.slice aD h.zl.length kD,.int .i64 h.code] 29)=W1 at *
 have zA:=hA.size
 obtain⟨⟨x0,x1,x2,x3,x4⟩,xf⟩:=zJ bx
 clear xf
 have HO:=UP _ _ h W1 (HH.out.below hA) hn
 unfold yn at HO
 go_wp2_with fail
 refine HO.mono ?_
 rintro e w2 ⟨⟨vp,vn,rfl,hV,hps⟩,hb2⟩
 obtain⟨ap,kp,hvp,_⟩:=hV.p.slice
 obtain⟨an,kn,XG,_⟩:=hV.n.slice
 rw[qP] at hvp
 rw[ub] at XG
 subst hvp XG
 have N2:=zB w2 (.cells #[.slice ap (found h).length kp,.slice an h.za.length kn] 125)
 have HOrd:Hid (Qs (fun _=>False) W1.heap.size w2.heap.size h.za.length (found h) (.slice ap (found h).length kp) (.slice an h.za.length kn) (w2.alloc (.cells #[.slice ap (found h).length kp,.slice an h.za.length kn] 125))) :=
  ⟨hb2.size,VQ _ _ _ _,hV.p.below N2,hV.n.below N2,fun e=>by have:=(hV.p.lt _ e).2;omega,fun e=>by have:=(hV.n.lt _ e).2;omega,hV.pn,fun g e=>e.elim⟩
 have B3:Below W1.heap.size W1 (w2.alloc (.cells #[.slice ap (found h).length kp,.slice an h.za.length kn] 125)):=hb2.trans (N2.mono hb2.size)
 have HPs:Hid (jc h.za.length (found h)):=hps
 have bx3:=zz B3 bx
 clear x0 x1 x2 x3 x4 HO hV hps hb2 N2
 obtain⟨⟨x0,x1,x2,x3,x4⟩,xf⟩:=zJ bx3
 clear xf bx3 bx
 generalize hF:found h=F at *
 have HF:Hid (found h=F):=hF
 clear hF
 go_upto_region 2 with fail
 generalize w2.alloc (.cells #[.slice ap F.length kp,.slice an h.za.length kn] 125)=w3 at *
 generalize w2.heap.size=bo at *
 have HVw:=zcN W1.heap.size bo F _ _ _ _ h w3 (HH.out.below (hA.trans (B3.mono zA))) hsh hn HOrd.out HPs.out
 unfold yn at HVw
 go_wp2_with fail
 refine HVw.mono ?_
 rintro e w4 ⟨⟨v,V,rfl,hv⟩,hb4⟩
 have hz:=(hA.trans (B3.mono zA)).size
 go_wp2
 go_ret
 refine⟨⟨v,V,rfl,?_⟩,(hA.trans (B3.mono zA)).trans (hb4.mono hz)⟩
 have:j5 h=F.map fun p=>vr F (h.za.getD p Cl.none):=by rw[<-HF.out];rfl
 rw[this]
 exact hv.mono hz
theorem QE (vc vs:Value) (h:Hp) (w:World) (hh:qa w vc vs h) (hsh:h.short) (hn:h.za.length<=30) :
 Calls Tryz.prog 26 #[.agg (yn vc vs h)] w fun e w'=>(∃v V,e=.returned v/\yu w.heap.size w' v (j5 h) V)/\Below w.heap.size w w' :=
 wX vc vs h w hh hsh (by omega)
def wN (xs:List Int) (k:Nat) (i:Int):List Int:=xs.take k ++ xs.drop (k+1) ++ [i]
set_option maxRecDepth 100000 in
set_option maxHeartbeats 4000000 in
theorem zbo {B:Nat} {ρ:Nat->Rl} {w:World} {P:Lay} (h:qf B ρ w P) (hB:B<=w.heap.size) (i:Int) (k:Nat) (hk:k<P.L.order.length) (he:P.L.order[k]=i) (hno:∀j,(hj:j<P.L.order.length)->j<k->P.L.order[j]≠i) (WC:P.L.order.length<=1000) :
 Calls Tryz.prog 51 #[.pointer (some ⟨P.bl,0,none⟩),.int .i64 i] w fun e w'=>e=.returned (.tuple #[])/\∃ρ' vo',qf B ρ' w' {P with vo:=vo',L:={P.L with order:=wN P.L.order k i,now:=i}}/\Ch (fun r=>r≠.other) ρ ρ' w w'/\Below B w w':=by
 have HL:Hid (qf B ρ w P):=h
 obtain⟨hor,hog⟩:=h .order
 have hidx:Kg P.L.order i=(k:Int):=Jv hk he hno
 obtain⟨g,off,zp,xz,hBg,hgl⟩:=hor.form (by omega)
 obtain⟨m,hm⟩:∃m,P.L.order.length=m+1:=⟨P.L.order.length - 1,by omega⟩
 have hbx:=(h .live).1
 have hrl:=(h .live).2.1
 have hBb:=(h .live).2.2
 have hρg:ρ g=.order:=hog g (by rw[xz];rfl)
 have hne:g≠P.bl:=fun e=>by rw[e,hrl] at hρg;cases hρg
 rw[xz] at hbx
 obtain⟨vp,hvp⟩:∃vp,P.vp=vp:=⟨_,rfl⟩
 have hIX:=Zb P.vo P.L.order i w hor.at
 rw[hidx,xz,hm] at hIX
 have hor2:zO B w (.slice (some ⟨g,off,none⟩) P.L.order.length zp) P.L.order:=by rw[<-xz];exact hor
 have hDE:=QR B g off zp k m P.L.order w hm hor2 (by omega)
 have x2:=hbx.cell 2 rfl
 rw[hm] at x2
 obtain⟨bl,hbl⟩:∃bl,P.bl=bl:=⟨_,rfl⟩
 rw[hbl] at x2 hbx hne hBb ⊢
 have hblw:=hbx.lt
 clear h hor hor2 hidx
 go_enter Tryz.func51,Tryz.ntmps51
 go_wp2_with fail
 refine hIX.mono ?_
 rintro e W ⟨rfl,hw⟩
 obtain rfl:=hw.symm
 clear hw hIX
 go_wp2_with fail
 refine hDE.mono ?_
 rintro e w1 ⟨rfl,hr1,hg1⟩
 have hb1:Bx w1 bl 160 [.int .i64 P.L.cells,P.vp,.slice (some ⟨g,off,none⟩) P.L.order.length zp,.int .i64 P.L.now,.map (some P.bm)]:=hbx.grown hg1 fun e=>hne (by injection e)
 obtain⟨YS,hYS⟩:∃YS,P.L.order.take k ++ P.L.order.drop (k+1)=YS:=⟨_,rfl⟩
 have hyl:YS.length=m:=by rw[<-hYS];simp;omega
 rw[hYS] at hr1
 have hyl2:YS.length<=1000:=by omega
 obtain⟨i0,hii,hz0,hz1,hz2⟩:=info_parts Tryz.infoIntO
 have hz1w:=hg1.size
 have HFIN:Hid (∀(g2 Yv cp2:Nat) (w2:World),zO B w2 (.slice (some ⟨g2,Yv,none⟩) (YS.length+1) cp2) (YS ++ [i])->w1.grownBy w2 (some g)->((some g:Option Nat)=some g2\/w1.heap.size<=g2) ->
  ∃ρ' vo',qf B ρ' ((w2.setCell ⟨bl,2,none⟩ (.slice (some ⟨g2,Yv,none⟩) (YS.length+1) cp2)).setCell ⟨bl,3,none⟩ (.int .i64 i)) {P with vo:=vo',L:={P.L with order:=wN P.L.order k i,now:=i}}/\Ch (fun r=>r≠.other) ρ ρ' w ((w2.setCell ⟨bl,2,none⟩ (.slice (some ⟨g2,Yv,none⟩) (YS.length+1) cp2)).setCell ⟨bl,3,none⟩ (.int .i64 i))/\Below B w ((w2.setCell ⟨bl,2,none⟩ (.slice (some ⟨g2,Yv,none⟩) (YS.length+1) cp2)).setCell ⟨bl,3,none⟩ (.int .i64 i))):=by
  intro g2 Yv cp2 w2 zS hgr hor
  have G:w.grownBy w2 (some g):=hg1.trans hgr
  have c:Ch (fun r=>r=.order) ρ (qk ρ w .order) w w2:=Ch.grown G ρ .order fun q e=>by cases e;exact hρg
  have hg2:∀q,(Value.slice (some ⟨g2,Yv,none⟩) (YS.length+1) cp2).ownBlock=some q->qk ρ w .order q=.order:=fun q e=>by
   have e2:g2=q:=by injection e
   subst e2
   rcases hor with e3 | e3
   ·injection e3 with e3
    subst e3
    rw[jV hgl,hρg]
   ·exact wa (by omega)
  have hrow2:zO B w2 (.slice (some ⟨g2,Yv,none⟩) (YS.length+1) cp2) (wN P.L.order k i):=by unfold wN;rw[hYS];exact zS
  have A:=HL.out.setOrder c hrow2 hg2
  have A2:=A.setNow i
  subst hbl
  refine⟨_,_,A2,?_,?_⟩
  ·have r2:qk ρ w .order P.bl=.live:=by rw[jV (by omega)];exact hrl
   exact((c.mono (by intro r e;rw[e];simp)).trans (Ch.set w2 _ P.bl 2 _ (by rw[r2];simp))).trans (Ch.set _ _ P.bl 3 _ (by rw[r2];simp))
  ·exact(((Below.refl B w).grown G hB fun q e=>by cases e;exact hBg).setCell (p:=⟨P.bl,2,none⟩) hBb _).setCell (p:=⟨P.bl,3,none⟩) hBb _
 clear hyl hrl hρg hgl hg1 hYS xz HL hm he hno hk hog
 go_upto_region 2 with(at_builtin;refine Q4 Tryz.underlying39 hii hz0 hz1 hz2 w1 (by rfl) _ _ (by rfl) _ YS (by rfl) hr1 i w1.heap.size _ rfl (by rfl) (by omega) (by omega) ?_;intro g2 Yv cp2 w2 hrow2 hg2 hor2 hlt2;have hb2:=hb1.grown hg2 (fun e=>hne (by injection e));have y2:=hb2.cell 2 rfl;have f2:=hb2.frozen 2)
 have hb3:=hb2.set 2 (.slice (some ⟨g2,Yv,none⟩) (YS.length+1) cp2)
 have y3:=hb3.cell 3 rfl
 have f3:=hb3.frozen 3
 have HE:=HFIN.out g2 Yv cp2 w2 hrow2 hg2 hor2
 clear HFIN hb1 hb2 hb3 y2 f2
 go_wp2
 subst hbl
 exact bodyPost_end (results_none rfl _ _ _) rfl ⟨rfl,HE⟩
end Go.Proofs.YtjbgpcileapogaaGreat
