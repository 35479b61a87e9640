/-
  What draws a heap, in memory: the boxes of the program and of the heap, and what stays while they are written.
-/
import Derived.Test.YtjbgpcileapogaaGreatSMem2
import Derived.Test.YtjbgpcileapogaaGreatDraw9
import Derived.Test.YtjbgpcileapogaaGreatInts
import Derived.Test.YtjbgpcileapogaaGreatCRow
import Derived.Test.YtjbgpcileapogaaGreatHHeapOk
import Derived.Laws.IdiomCopy
import Derived.Deep.RegionLaw
import Derived.Test.YtjbgpcileapogaaGreatPiece
import Derived.Deep.RegionHeld3
import Derived.Test.YtjbgpcileapogaaGreatVApart
import Derived.Test.YtjbgpcileapogaaGreatMOrder
import Derived.Test.YtjbgpcileapogaaGreatVSpec
namespace Go.Proofs.YtjbgpcileapogaaGreat
open Go.RowKit
theorem OpsAt.stay {w w':World} {v:Value} {ops:List (Int × Int)} (h:OpsAt w v ops) (hb:∀g,v.ownBlock=some g→w'.heap[g]?=w.heap[g]?):OpsAt w' v ops:=by
  obtain⟨a,cap,rfl,hl,hc⟩:=h
  refine⟨a,cap,rfl,hl,fun i hi=>?_⟩
  obtain⟨b,o,rfl,h0,h1⟩:=hc i hi
  have e:=hb b rfl
  exact⟨b,o,rfl,(World.cell?_of_block (a:=⟨b,_,none⟩) e).trans h0,(World.cell?_of_block (a:=⟨b,_,none⟩) e).trans h1⟩
theorem PRow.stay {B C:Nat} {w w':World} {v:Value} {ms:List MM} (h:PRow B w v ms) (hl:ms.length≤maxLen) (ho:∀m∈ms,m.2.2.2.length≤maxLen) (hv:∀g,v.ownBlock=some g→g<C) (hm:∀m∈ms,∀g,m.2.2.1.ownBlock=some g→g<C)
    (hb:∀g,B≤g→g<C→w'.heap[g]?=w.heap[g]?):MethsAt w' v (plainOf ms):=by
  rcases h.row.2 with⟨rfl,hn⟩ | ⟨g,cap,cur,hv',_⟩
  · have:ms=[]:=by simpa using hn
    subst this
    exact⟨none,0,rfl,Nat.zero_le _,fun i hi=>absurd hi (Nat.not_lt_zero _)⟩
  · subst hv'
    refine⟨some ⟨g,0,none⟩,cap,by simp[plainOf],by simpa [plainOf] using hl,fun i hi=>?_⟩
    have hi':i<ms.length:=by simpa [plainOf] using hi
    have c:=h.row.cell i (by simpa using hi')
    rw[PRow.ofMap hi'] at c
    have e:=hb g (h.row.lt g rfl).1 (hv g rfl)
    have hmi:=List.getElem_mem hi'
    have key:∀o x,w.cell? ⟨g,o,none⟩=some x→w'.cell? ⟨g,o,none⟩=some x:=fun o x hx=>(World.cell?_of_block (a:=⟨g,o,none⟩) e).trans hx
    refine⟨g,0,ms[i].2.2.1,rfl,?_,?_,?_,?_⟩
    · simp only[plainOf,List.getElem_map,Nat.zero_add];exact key _ _ c.1
    · simp only[plainOf,List.getElem_map,Nat.zero_add];exact key _ _ c.2.1
    · simp only[Nat.zero_add];exact key _ _ c.2.2
    · simp only[plainOf,List.getElem_map];exact((h.ops _ hmi).at (ho _ hmi)).stay fun q hq=>hb q ((h.ops _ hmi).lt q hq).1 (hm _ hmi q hq)
def Stays (B:Nat) (w:World) (P:World→Prop):Prop:=∀w':World,w.heap.size≤w'.heap.size→(∀g,B≤g→g<w.heap.size→w'.heap[g]?=w.heap[g]?)→P w'
theorem Stays.here {B:Nat} {w:World} {P:World→Prop} (h:Stays B w P):P w:=h w (Nat.le_refl _) fun _ _ _=>rfl
theorem Stays.grown {B b:Nat} {w w':World} {P:World→Prop} (h:Stays B w P) (hg:w.grownBy w' (some b)) (hb:b<B):Stays B w' P:=fun w'' e1 e2=>h w'' (Nat.le_trans hg.size e1) fun g x1 x2=>(e2 g x1 (Nat.lt_of_lt_of_le x2 hg.size)).trans (hg.block g x2 (fun e=>by injection e with e;omega))
theorem Stays.below {B:Nat} {w w':World} {P:World→Prop} (h:Stays B w P) (hb:Below w.heap.size w w'):Stays B w' P:=fun w'' e1 e2=>h w'' (Nat.le_trans hb.size e1) fun g x1 x2=>(e2 g x1 (Nat.lt_of_lt_of_le x2 hb.size)).trans (hb.block g x2)
theorem Stays.mono {B B':Nat} {w:World} {P:World→Prop} (h:Stays B w P) (hB:B'≤B):Stays B' w P:=fun w'' e1 e2=>h w'' e1 fun g x1 x2=>e2 g (Nat.le_trans hB x1) x2
theorem Stays.imp {B:Nat} {w:World} {P Q:World→Prop} (h:Stays B w P) (hq:∀w',P w'→Q w'):Stays B w Q:=fun w'' e1 e2=>hq _ (h w'' e1 e2)
def dtwo (x0 x1:Value):Nat→Value:=fun i=>if i=0 then x0 else x1
theorem dtwo_new (w:World) (t:TypeId) (x0 x1:Value):(w.alloc (.cells #[x0,x1] t)).rowIs w.heap.size t 2 (dtwo x0 x1) :=
  ⟨_,Go.Deep.blk_alloc_new _ _,rfl,fun i hi=>by match i,hi with | 0,_=>rfl | 1,_=>rfl⟩
theorem dtwo_cells {w:World} {g:Nat} {t:TypeId} {x0 x1:Value} (h:w.rowIs g t 2 (dtwo x0 x1)):(w.cell? ⟨g,0,none⟩=some x0∧w.cell? ⟨g,1,none⟩=some x1)∧(w.frozen? ⟨g,0,none⟩=false∧w.frozen? ⟨g,1,none⟩=false) :=
  ⟨⟨h.cell (i:=0) (by decide),h.cell (i:=1) (by decide)⟩,h.frozen 0,h.frozen 1⟩
structure HeapS (B:Nat) (w:World) (vc vs:Value) (h:Hp):Prop where
  c:CallsAt w vc h.calls
  s:OpsAt w vs h.said
  r:PairRow B w vs h.said
theorem HeapS.at {B:Nat} {w:World} {vc vs:Value} {h:Hp} (k:HeapS B w vc vs h):HeapAt w vc vs h:=⟨k.c,k.s⟩
theorem HeapS.mono {B B':Nat} {w:World} {vc vs:Value} {h:Hp} (k:HeapS B w vc vs h) (hB:B'≤B):HeapS B' w vc vs h:=⟨k.c,k.s,k.r.mono hB⟩
structure DH (w:World) (b:Nat) (a:Option Addr) (len cap q B0 bp bh:Nat) (vp:Value) (ms:List MM) (vc vs:Value) (h:Hp) (wx:World):Prop where
  rd:Rd wx b a len cap q
  gr:w.grownBy wx (some b)
  rp:wx.rowIs w.heap.size 25 1 (fun _=>.slice none 0 0)
  rh:wx.rowIs (w.heap.size+1) 29 5 (five (.slice none 0 0) (.int .i64 0) (.int .i64 0) (.slice none 0 0) (.int .i64 0))
  rb:wx.rowIs bp 25 1 (fun _=>vp)
  R:wx.rowIs bh 29 5 (five vc (.int .i64 h.now) (.int .i64 h.born) vs (.int .i64 h.code))
  mx:∀w':World,wx.heap.size≤w'.heap.size→(∀g,B0≤g→g<bh→w'.heap[g]?=wx.heap[g]?)→MethsAt w' vp (plainOf ms)
  hx:∀w':World,wx.heap.size≤w'.heap.size→(∀g,bh<g→g<wx.heap.size→w'.heap[g]?=wx.heap[g]?)→HeapS bh w' vc vs h
  r0:∃q0,Rd w b a len cap q0
  n0:b<w.heap.size
  n1:w.heap.size+1<B0
  n2:w.heap.size+1<bp
  n3:bp<bh
variable {w wx w':World} {b:Nat} {a:Option Addr} {len cap q B0 bp bh:Nat} {vp vc vs:Value} {ms:List MM} {h:Hp}
theorem DH.drew (k:DH w b a len cap q B0 bp bh vp ms vc vs h wx):DH w b a len cap q B0 bp bh vp ms vc vs h wx.drew :=
  ⟨Rd.heap k.rd rfl,⟨k.gr.os,k.gr.tape,k.gr.output,k.gr.size,k.gr.block⟩,k.rp,k.rh,k.rb,k.R,k.mx,k.hx,k.r0,k.n0,k.n1,k.n2,k.n3⟩
theorem DH.pick {q':Nat} (k:DH w b a len cap q B0 bp bh vp ms vc vs h wx) (hr:Rd w' b a len cap q') (hg:wx.grownBy w' (some b)):DH w b a len cap q' B0 bp bh vp ms vc vs h w':=by
  have h0:=k.n0
  have h1:=k.n1
  have h2:=k.n2
  have h3:=k.n3
  have hbh:=k.R.lt
  refine⟨hr,grown_trans k.gr hg,row_kept k.rp hg (by intro e;injection e with e;omega),row_kept k.rh hg (by intro e;injection e with e;omega),row_kept k.rb hg (by intro e;injection e with e;omega),row_kept k.R hg (by intro e;injection e with e;omega),fun w'' e1 e2=>k.mx w'' (Nat.le_trans hg.size e1) fun g x1 x2=>(e2 g x1 x2).trans (hg.block g (by omega) (by intro e;injection e with e;omega)),fun w'' e1 e2=>k.hx w'' (Nat.le_trans hg.size e1) fun g x1 x2=>(e2 g x1 (Nat.lt_of_lt_of_le x2 hg.size)).trans (hg.block g x2 (by intro e;injection e with e;omega)),k.r0,h0,h1,h2,h3⟩
theorem DH.alloc (k:DH w b a len cap q B0 bp bh vp ms vc vs h wx) (o:Obj):DH w b a len cap q B0 bp bh vp ms vc vs h (wx.alloc o):=by
  have hb:Below wx.heap.size wx (wx.alloc o):=(Below.refl _ _).alloc (Nat.le_refl _) _
  have hbh:=k.R.lt
  have h3:=k.n3
  exact⟨k.rd.alloc o,grown_alloc k.gr o,row_below hb k.rp,row_below hb k.rh,row_below hb k.rb,row_below hb k.R,fun w'' e1 e2=>k.mx w'' (Nat.le_trans hb.size e1) fun g x1 x2=>(e2 g x1 x2).trans (hb.block g (by omega)),fun w'' e1 e2=>k.hx w'' (Nat.le_trans hb.size e1) fun g x1 x2=>(e2 g x1 (Nat.lt_of_lt_of_le x2 hb.size)).trans (hb.block g x2),k.r0,k.n0,k.n1,k.n2,h3⟩
theorem DH.re {vc' vs':Value} {h':Hp} (k:DH w b a len cap q B0 bp bh vp ms vc vs h wx) (hb:Below bh wx w') (hR:w'.rowIs bh 29 5 (five vc' (.int .i64 h'.now) (.int .i64 h'.born) vs' (.int .i64 h'.code)))
    (hx:∀w'':World,w'.heap.size≤w''.heap.size→(∀g,bh<g→g<w'.heap.size→w''.heap[g]?=w'.heap[g]?)→HeapS bh w'' vc' vs' h'):DH w b a len cap q B0 bp bh vp ms vc' vs' h' w':=by
  have h0:=k.n0
  have h1:=k.n1
  have h2:=k.n2
  have h3:=k.n3
  have hbh:=k.R.lt
  have hz:=k.gr.size
  refine⟨?_,⟨hb.os.trans k.gr.os,hb.tape.trans k.gr.tape,hb.output.trans k.gr.output,Nat.le_trans k.gr.size hb.size,fun g x1 x2=>(hb.block g (by omega)).trans (k.gr.block g x1 x2)⟩,k.rp.of_block (hb.block _ (by omega)),k.rh.of_block (hb.block _ (by omega)),k.rb.of_block (hb.block _ (by omega)),hR,fun w'' e1 e2=>k.mx w'' (Nat.le_trans hb.size e1) fun g x1 x2=>(e2 g x1 x2).trans (hb.block g x2),hx,k.r0,h0,h1,h2,h3⟩
  have r:=k.rd
  exact⟨(World.cell?_of_block (a:=⟨b,0,none⟩) (hb.block b (by omega))).trans r.s,(World.cell?_of_block (a:=⟨b,1,none⟩) (hb.block b (by omega))).trans r.p,(World.frozen?_of_block (a:=⟨b,1,none⟩) (hb.block b (by omega))).trans r.f,r.l,fun i hi=>by
    obtain⟨q0,r0⟩:=k.r0
    obtain⟨b0,o0,x0,e0,_,hc0,_⟩:=r0.c i hi
    have hlt:=World.block_lt_of_cell? _ _ hc0
    obtain⟨b',o,x,e1,hb',hc,hx'⟩:=r.c i hi
    have hbb:b'=b0:=by
      rw[e0] at e1
      injection e1 with e1
      injection e1 with e1 _
      exact e1.symm
    subst hbb
    have hlt':b'<w.heap.size:=hlt
    exact⟨b',o,x,e1,hb',(World.cell?_of_block (a:=⟨b',o+i,none⟩) (hb.block b' (by omega))).trans hc,hx'⟩⟩
theorem DH.num {h':Hp} {i:Nat} {x:Int} (k:DH w b a len cap q B0 bp bh vp ms vc vs h wx) (hc:h'.calls=h.calls) (hs:h'.said=h.said)
    (hR:(wx.setCell ⟨bh,i,none⟩ (.int .i64 x)).rowIs bh 29 5 (five vc (.int .i64 h'.now) (.int .i64 h'.born) vs (.int .i64 h'.code))):DH w b a len cap q B0 bp bh vp ms vc vs h' (wx.setCell ⟨bh,i,none⟩ (.int .i64 x)):=by
  have hz:(wx.setCell ⟨bh,i,none⟩ (.int .i64 x)).heap.size=wx.heap.size:=by simp[World.setCell]
  refine k.re ((Below.refl _ _).setCell (p:=⟨bh,i,none⟩) (Nat.le_refl _) _) hR fun w'' e1 e2=>?_
  have H:=k.hx w'' (by omega) fun g x1 x2=>(e2 g x1 (by omega)).trans (Below.heap_setCell _ _ _ _ (by intro e;have:g=bh:=e;omega))
  exact⟨by rw[hc];exact H.c,by rw[hs];exact H.s,by rw[hs];exact H.r⟩
theorem DH.fin (k:DH w b a len cap q B0 bp bh vp ms vc vs h wx):∃WF:World,WF=((((((wx.setCell ⟨w.heap.size,0,none⟩ vp).setCell ⟨w.heap.size+1,0,none⟩ vc).setCell ⟨w.heap.size+1,1,none⟩ (.int .i64 h.now)).setCell ⟨w.heap.size+1,2,none⟩ (.int .i64 h.born)).setCell ⟨w.heap.size+1,3,none⟩ vs).setCell ⟨w.heap.size+1,4,none⟩ (.int .i64 h.code)) ∧
    WF.cell? ⟨w.heap.size,0,none⟩=some vp∧WF.rowIs (w.heap.size+1) 29 5 (five vc (.int .i64 h.now) (.int .i64 h.born) vs (.int .i64 h.code))∧Stays w.heap.size WF (fun x=>MethsAt x vp (plainOf ms)∧HeapS w.heap.size x vc vs h)∧Rd WF b a len cap q∧w.grownBy WF (some b):=by
  have h0:=k.n0
  have h1:=k.n1
  have h2:=k.n2
  have h3:=k.n3
  have hbh:=k.R.lt
  obtain⟨q0,r0⟩:=k.r0
  have k1:=grown_set wx w.heap.size 0 vp
  have k2:=grown_trans (grown_trans (grown_trans (grown_trans (grown_set (wx.setCell ⟨w.heap.size,0,none⟩ vp) (w.heap.size+1) 0 vc) (grown_set _ (w.heap.size+1) 1 (.int .i64 h.now))) (grown_set _ (w.heap.size+1) 2 (.int .i64 h.born))) (grown_set _ (w.heap.size+1) 3 vs)) (grown_set _ (w.heap.size+1) 4 (.int .i64 h.code))
  have e1:∀g,some w.heap.size=some g→w.heap.size≤g:=fun g e=>by injection e with e;omega
  have e2:∀g,some (w.heap.size+1)=some g→w.heap.size≤g:=fun g e=>by injection e with e;omega
  have g1:=grown_own k.gr k1 e1
  have hz1:(wx.setCell ⟨w.heap.size,0,none⟩ vp).heap.size=wx.heap.size:=by simp[World.setCell]
  have hbl:∀g,w.heap.size+1<g→g<wx.heap.size→((((((wx.setCell ⟨w.heap.size,0,none⟩ vp).setCell ⟨w.heap.size+1,0,none⟩ vc).setCell ⟨w.heap.size+1,1,none⟩ (.int .i64 h.now)).setCell ⟨w.heap.size+1,2,none⟩ (.int .i64 h.born)).setCell ⟨w.heap.size+1,3,none⟩ vs).setCell ⟨w.heap.size+1,4,none⟩ (.int .i64 h.code)).heap[g]?=wx.heap[g]?:=fun g x1 x2=>(k2.block g (by omega) (fun e=>by injection e with e;omega)).trans (k1.block g x2 (fun e=>by injection e with e;omega))
  refine⟨_,rfl,k2.cell (World.cell?_setCell_same wx ⟨w.heap.size,0,none⟩ vp (k.rp.cell (i:=0) (by decide))) (by intro e;simp at e),five_set4 (five_set3 (five_set2 (five_set1 (five_set0 (row_kept k.rh k1 (by intro e;injection e with e;omega)) vc) (.int .i64 h.now)) (.int .i64 h.born)) vs) (.int .i64 h.code),fun w'' y1 y2=>⟨k.mx _ (Nat.le_trans (Nat.le_trans k1.size k2.size) y1) fun g x1 x2=>(y2 g (by omega) (by have:=k1.size;have:=k2.size;omega)).trans (hbl g (by omega) (by omega)),(k.hx _ (Nat.le_trans (Nat.le_trans k1.size k2.size) y1) fun g x1 x2=>(y2 g (by omega) (by have:=k1.size;have:=k2.size;omega)).trans (hbl g (by omega) x2)).mono (by omega)⟩,Rd.kept r0 (Rd.kept r0 k.rd k.gr.size k1 e1) g1.size k2 e2,grown_own g1 k2 e2⟩
theorem OwnHeap.put {B:Nat} {w w':World} {vs:Value} {g off n cap:Nat} {h:Hp} {V:Nat→Value × Value} (k:OwnHeap B w (.slice (some ⟨g,off,Option.none⟩) n cap) vs h V) {j:Nat} (hj:j<h.calls.length) {c:Cl} {vt vs':Value}
    (p:Put B w w' g off j V c vt vs'):OwnHeap B w' (.slice (some ⟨g,off,Option.none⟩) n cap) vs {h with calls:=h.calls.set j c} (putV V j (vt,vs')):=by
  have hV1:∀q,(V j).1.ownBlock=some q→CallBlocks (.slice (some ⟨g,off,Option.none⟩) n cap) h.calls.length V q:=fun q e=>.inr ⟨j * 2,by omega,by rw[lst_0];exact e⟩
  have hV2:∀q,(V j).2.ownBlock=some q→CallBlocks (.slice (some ⟨g,off,Option.none⟩) n cap) h.calls.length V q:=fun q e=>.inr ⟨j * 2+1,by omega,by rw[lst_1];exact e⟩
  have hout:∀q,q<w.heap.size→¬CallBlocks (.slice (some ⟨g,off,Option.none⟩) n cap) h.calls.length V q→w'.heap[q]?=w.heap[q]?:=fun q hq hn=>p.bl q hq (fun e=>hn (.inl (by rw[e];rfl))) (fun e=>hn (hV1 q e)) (fun e=>hn (hV2 q e))
  have hnew:∀q,q<w.heap.size→¬CallBlocks (.slice (some ⟨g,off,Option.none⟩) n cap) h.calls.length V q→¬CallBlocks (.slice (some ⟨g,off,Option.none⟩) n cap) (h.calls.set j c).length (putV V j (vt,vs')) q:=fun q hq hn e=>by
    rcases e with e | ⟨i,hi,e⟩
    · exact hn (.inl e)
    · rw[List.length_set] at hi
      rw[lst_put] at e
      by_cases e1:i / 2=j
      · rw[if_pos e1] at e
        by_cases e2:i % 2=0
        · rw[if_pos e2] at e
          rcases p.nt q e with x | x | x
          · exact hn (hV1 q x)
          · exact hn (hV2 q x)
          · omega
        · rw[if_neg e2] at e
          rcases p.ns q e with x | x | x
          · exact hn (hV1 q x)
          · exact hn (hV2 q x)
          · omega
      · rw[if_neg e1] at e
        exact hn (.inr ⟨i,hi,e⟩)
  exact⟨k.c.put hj c vt vs' p.sz p.fr p.row p.bl p.c0 p.c1 p.c2 p.c3 p.c4 p.c5 p.ht p.hs p.nt p.ns p.ts,k.s.kept p.sz fun q e=>hout q (k.s.lt q e).2 (k.apart q e),fun q e=>hnew q (k.s.lt q e).2 (k.apart q e)⟩
theorem OwnHeap.stays {B bh:Nat} {w:World} {vc vs:Value} {h:Hp} {V:Nat→Value × Value} (k:OwnHeap B w vc vs h V) (hB:bh<B):∀w':World,w.heap.size≤w'.heap.size→(∀g,bh<g→g<w.heap.size→w'.heap[g]?=w.heap[g]?)→HeapS bh w' vc vs h :=
  fun _ e1 e2=>by
    have o:=k.kept e1 fun g hg=>e2 g (by have:=(k.lt hg).1;omega) (k.lt hg).2
    exact⟨o.at.c,o.at.s,o.s.mono (by omega)⟩
theorem OwnHeap.say {B:Nat} {w w2:World} {vc vs:Value} {h:Hp} {V:Nat→Value × Value} (k:OwnHeap B w vc vs h V) (v':Value) (sd:List (Int × Int)) (hsz:w.heap.size≤w2.heap.size)
    (hbl:∀q,q<w.heap.size→vs.ownBlock≠some q→w2.heap[q]?=w.heap[q]?) (hr:PairRow B w2 v' sd) (hv:∀q,v'.ownBlock=some q→vs.ownBlock=some q∨w.heap.size≤q):OwnHeap B w2 vc v' {h with said:=sd} V :=
  ⟨k.c.kept hsz fun q e=>hbl q (k.c.lt e).2 (fun e2=>k.apart q e2 e),hr,fun q e e2=>by
    rcases hv q e with x | x
    · exact k.apart q x e2
    · have:=(k.c.lt e2).2;omega⟩
theorem OwnHeap.setLow {B:Nat} {w:World} {vc vs:Value} {h:Hp} {V:Nat→Value × Value} (k:OwnHeap B w vc vs h V) {p:Addr} (hp:p.block<B) (u:Value):OwnHeap B (w.setCell p u) vc vs h V :=
  k.kept (by simp[World.setCell]) fun g hg=>Below.heap_setCell _ _ _ _ (fun e=>by have:=(k.lt hg).1;omega)
theorem put_temps {B:Nat} {w w2:World} {g off cap n:Nat} {cs:List Cl} {V:Nat→Value × Value} (h:OwnCalls B w (.slice (some ⟨g,off,none⟩) n cap) cs V) {j:Nat} (hj:j<cs.length) (v':Value) (st:List (Int × Int)) (hsz:w.heap.size≤w2.heap.size)
    (hbl:∀k,k<w.heap.size→(V j).1.ownBlock≠some k→w2.heap[k]?=w.heap[k]?) (hr:PairRow B w2 v' st) (hv:∀q,v'.ownBlock=some q→(V j).1.ownBlock=some q∨w.heap.size≤q) :
    Put B w (w2.setCell ⟨g,off+j * 6+2,none⟩ v') g off j V {cs[j] with temps:=st} v' (V j).2:=by
  have hgl:g<w.heap.size:=(h.lt (g:=g) (.inl rfl)).2
  obtain⟨⟨c0,c1,c2,c3,c4,c5⟩,_⟩:=h.cells hj
  obtain⟨a1,a2⟩:(∀q,(V j).2.ownBlock=some q→q≠g∧(V j).1.ownBlock≠some q)∧(∀q,(V j).1.ownBlock=some q→q≠g):=by
    refine⟨fun q e=>?_,fun q e eg=>?_⟩
    · obtain⟨x1,x2⟩:=h.apart (j * 2+1) (by omega) q (by rw[lst_1];exact e)
      have x3:=x2 (j * 2) (by omega) (by omega)
      rw[lst_0] at x3
      exact⟨fun eg=>x1 (by rw[eg];rfl),x3⟩
    · exact(h.apart (j * 2) (by omega) q (by rw[lst_0];exact e)).1 (by rw[eg];rfl)
  have hg2:w2.heap[g]?=w.heap[g]?:=hbl g hgl (fun e=>a2 g e rfl)
  have cg:∀o,w2.cell? ⟨g,o,none⟩=w.cell? ⟨g,o,none⟩:=fun o=>World.cell?_of_block (a:=⟨g,o,none⟩) hg2
  have fg:∀o,w2.frozen? ⟨g,o,none⟩=w.frozen? ⟨g,o,none⟩:=fun o=>World.frozen?_of_block (a:=⟨g,o,none⟩) hg2
  have hoth:∀o,o≠off+j * 6+2→(w2.setCell ⟨g,off+j * 6+2,none⟩ v').cell? ⟨g,o,none⟩=w.cell? ⟨g,o,none⟩:=fun o ho=>by
    rw[World.cell?_setCell_other _ _ _ _ (fun q=>ho (by have:=congrArg Addr.off q;simpa using this.symm)),cg]
  have hvg:v'.ownBlock≠some g:=fun e=>by
    rcases hv g e with x | x
    · exact a2 g x rfl
    · omega
  have ht:=(h.lists j hj).2
  refine⟨by simp[World.setCell];exact hsz,fun o=>by rw[World.frozen?_setCell];exact fg o,fun o ho=>hoth o (by omega),fun k hk hkg h1 h2=>?_,?_,?_,?_,?_,?_,?_,hr.set_other _ hvg,?_,fun q e=>?_,fun q e=>.inr (.inl e),fun q e e2=>?_⟩
  · rw[Below.heap_setCell _ _ _ _ (fun e=>hkg e)]
    exact hbl k hk h1
  · rw[hoth _ (by omega)];exact c0
  · rw[hoth _ (by omega)];exact c1
  · exact World.cell?_setCell_same _ _ _ (by rw[cg];exact c2)
  · rw[hoth _ (by omega)];exact c3
  · rw[hoth _ (by omega)];exact c4
  · rw[hoth _ (by omega)];exact c5
  · exact(ht.kept hsz fun q e=>hbl q (ht.lt q e).2 (a1 q e).2).set_other _ (fun e=>(a1 _ e).1 rfl)
  · rcases hv q e with x | x
    · exact .inl x
    · exact .inr (.inr x)
  · rcases hv q e with x | x
    · exact(a1 q e2).2 x
    · have:=(ht.lt q e2).2;omega
theorem CallsAt.tail {w:World} {g off n c:Nat} {cs:List Cl} (h:CallsAt w (.slice (some ⟨g,off,none⟩) n c) cs) (h1:1≤cs.length) (c':Nat):CallsAt w (.slice (some ⟨g,off+6,none⟩) (cs.length - 1) c') (cs.drop 1):=by
  obtain⟨a,cap,hv,hl,hc⟩:=h
  refine⟨some ⟨g,off+6,none⟩,c',by simp,by simp;omega,fun i hi=>?_⟩
  have hi':i+1<cs.length:=by simp at hi;omega
  obtain⟨b,o,vt,vs,ha,k⟩:=hc (i+1) hi'
  injection hv with e1 e2 e3
  rw[ha] at e1
  injection e1 with e1
  injection e1 with e1 e2 _
  subst e1 e2
  refine⟨g,off+6,vt,vs,rfl,?_⟩
  rw[List.getElem_drop,show off+6+i * 6=off+(i+1) * 6 by omega]
  simpa [Nat.add_comm] using k
theorem OwnCalls.mono {B B':Nat} {w:World} {v:Value} {cs:List Cl} {V:Nat→Value × Value} (h:OwnCalls B w v cs V) (hB:B'≤B):OwnCalls B' w v cs V:=by
  refine⟨?_,fun i hi=>⟨(h.lists i hi).1.mono hB,(h.lists i hi).2.mono hB⟩,h.apart⟩
  rcases h.row with h0 | ⟨g,off,cap,hv,hg,r⟩
  · exact .inl h0
  · exact .inr ⟨g,off,cap,hv,by omega,r⟩
def useOrd (xs:List Int) (k:Nat) (i:Int):List Int:=xs.take k ++ xs.drop (k+1) ++ [i]
set_option maxRecDepth 100000 in
set_option maxHeartbeats 4000000 in
theorem runOn_any {B:Nat} {ρ:Nat→Rl} {w:World} {P:Lay} (h:LvAt B ρ w P) (hB:B≤w.heap.size) (i:Int) (k:Nat) (hk:k<P.L.order.length) (he:P.L.order[k]=i) (hno:∀j,(hj:j<P.L.order.length)→j<k→P.L.order[j]≠i) (hfew:P.L.order.length≤1000) :
    Calls Tryz.prog 51 #[.pointer (some ⟨P.bl,0,none⟩),.int .i64 i] w fun e w'=>e=.returned (.tuple #[])∧∃ρ' vo',LvAt B ρ' w' {P with vo:=vo',L:={P.L with order:=useOrd P.L.order k i,now:=i}}∧Ch (fun r=>r≠.other) ρ ρ' w w'∧Below B w w':=by
  have HL:Hid (LvAt B ρ w P):=h
  obtain⟨hor,hog⟩:=h .order
  have hidx:idxI P.L.order i=(k:Int):=idxI_found hk he hno
  obtain⟨g,off,cap,hvo,hBg,hgl⟩:=hor.form (by omega)
  obtain⟨m,hm⟩:∃m,P.L.order.length=m+1:=⟨P.L.order.length - 1,by omega⟩
  have hbx:=(h .live).1
  have hrl:=(h .live).2.1
  have hBb:=(h .live).2.2
  have hρg:ρ g=.order:=hog g (by rw[hvo];rfl)
  have hne:g≠P.bl:=fun e=>by rw[e,hrl] at hρg;cases hρg
  rw[hvo] at hbx
  obtain⟨vp,hvp⟩:∃vp,P.vp=vp:=⟨_,rfl⟩
  have hIX:=slicesIndex_any P.vo P.L.order i w hor.at
  rw[hidx,hvo,hm] at hIX
  have hor2:IntRow B w (.slice (some ⟨g,off,none⟩) P.L.order.length cap) P.L.order:=by rw[←hvo];exact hor
  have hDE:=slicesDelete_any B g off cap k m P.L.order w hm hor2 (by omega)
  have x2:=hbx.cell 2 rfl
  rw[hm] at x2
  obtain⟨bl,hbl⟩:∃bl,P.bl=bl:=⟨_,rfl⟩
  rw[hbl] at x2 hbx hne hBb ⊢
  have hblw:=hbx.lt
  clear h hor hor2 hidx
  go_enter Tryz.func51,Tryz.ntmps51
  go_wp2_with fail
  refine hIX.mono ?_
  rintro e W ⟨rfl,hw⟩
  obtain rfl:=hw.symm
  clear hw hIX
  go_wp2_with fail
  refine hDE.mono ?_
  rintro e w1 ⟨rfl,hr1,hg1⟩
  have hb1:Bx w1 bl 160 [.int .i64 P.L.cells,P.vp,.slice (some ⟨g,off,none⟩) P.L.order.length cap,.int .i64 P.L.now,.map (some P.bm)]:=hbx.grown hg1 fun e=>hne (by injection e)
  obtain⟨YS,hYS⟩:∃YS,P.L.order.take k ++ P.L.order.drop (k+1)=YS:=⟨_,rfl⟩
  have hyl:YS.length=m:=by rw[←hYS];simp;omega
  rw[hYS] at hr1
  have hyl2:YS.length≤1000:=by omega
  obtain⟨i0,hii,hz0,hz1,hz2⟩:=info_parts Tryz.infoIntO
  have hz1w:=hg1.size
  have HFIN:Hid (∀(g2 off2 cp2:Nat) (w2:World),IntRow B w2 (.slice (some ⟨g2,off2,none⟩) (YS.length+1) cp2) (YS ++ [i])→w1.grownBy w2 (some g)→((some g:Option Nat)=some g2∨w1.heap.size≤g2) →
      ∃ρ' vo',LvAt B ρ' ((w2.setCell ⟨bl,2,none⟩ (.slice (some ⟨g2,off2,none⟩) (YS.length+1) cp2)).setCell ⟨bl,3,none⟩ (.int .i64 i)) {P with vo:=vo',L:={P.L with order:=useOrd P.L.order k i,now:=i}}∧Ch (fun r=>r≠.other) ρ ρ' w ((w2.setCell ⟨bl,2,none⟩ (.slice (some ⟨g2,off2,none⟩) (YS.length+1) cp2)).setCell ⟨bl,3,none⟩ (.int .i64 i))∧Below B w ((w2.setCell ⟨bl,2,none⟩ (.slice (some ⟨g2,off2,none⟩) (YS.length+1) cp2)).setCell ⟨bl,3,none⟩ (.int .i64 i))):=by
    intro g2 off2 cp2 w2 hrow hgr hor
    have G:w.grownBy w2 (some g):=hg1.trans hgr
    have c:Ch (fun r=>r=.order) ρ (newRole ρ w .order) w w2:=Ch.grown G ρ .order fun q e=>by cases e;exact hρg
    have hg2:∀q,(Value.slice (some ⟨g2,off2,none⟩) (YS.length+1) cp2).ownBlock=some q→newRole ρ w .order q=.order:=fun q e=>by
      have e2:g2=q:=by injection e
      subst e2
      rcases hor with e3 | e3
      · injection e3 with e3
        subst e3
        rw[newRole_old hgl,hρg]
      · exact newRole_new (by omega)
    have hrow2:IntRow B w2 (.slice (some ⟨g2,off2,none⟩) (YS.length+1) cp2) (useOrd P.L.order k i):=by unfold useOrd;rw[hYS];exact hrow
    have A:=HL.out.setOrder c hrow2 hg2
    have A2:=A.setNow i
    subst hbl
    refine⟨_,_,A2,?_,?_⟩
    · have r2:newRole ρ w .order P.bl=.live:=by rw[newRole_old (by omega)];exact hrl
      exact((c.mono (by intro r e;rw[e];simp)).trans (Ch.set w2 _ P.bl 2 _ (by rw[r2];simp))).trans (Ch.set _ _ P.bl 3 _ (by rw[r2];simp))
    · exact(((Below.refl B w).grown G hB fun q e=>by cases e;exact hBg).setCell (p:=⟨P.bl,2,none⟩) hBb _).setCell (p:=⟨P.bl,3,none⟩) hBb _
  clear hyl hrl hρg hgl hg1 hYS hvo HL hm he hno hk hog
  go_upto_region 2 with(at_builtin;refine append_intM Tryz.underlying39 hii hz0 hz1 hz2 w1 (by rfl) _ _ (by rfl) _ YS (by rfl) hr1 i w1.heap.size _ rfl (by rfl) (by omega) (by omega) ?_;intro g2 off2 cp2 w2 hrow2 hg2 hor2 hlt2;have hb2:=hb1.grown hg2 (fun e=>hne (by injection e));have y2:=hb2.cell 2 rfl;have f2:=hb2.frozen 2)
  have hb3:=hb2.set 2 (.slice (some ⟨g2,off2,none⟩) (YS.length+1) cp2)
  have y3:=hb3.cell 3 rfl
  have f3:=hb3.frozen 3
  have HE:=HFIN.out g2 off2 cp2 w2 hrow2 hg2 hor2
  clear HFIN hb1 hb2 hb3 y2 f2
  go_wp2
  subst hbl
  exact bodyPost_end (results_none rfl _ _ _) rfl ⟨rfl,HE⟩
end Go.Proofs.YtjbgpcileapogaaGreat
