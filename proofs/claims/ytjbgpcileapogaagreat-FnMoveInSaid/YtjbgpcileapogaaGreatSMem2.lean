/-
  A heap at work, in memory of its own: what is written to it. Nothing of the translation is used here but the number of its type.
-/
import Derived.Test.YtjbgpcileapogaaGreatVApart
namespace Go.Proofs.YtjbgpcileapogaaGreat
open Go.RowKit
def Qe (V:Nat->Value × Value) (j:Nat) (x:Value × Value):Nat->Value × Value:=fun i=>if i=j then x else V i
theorem KS (V:Nat->Value × Value) (j:Nat) (x:Value × Value):Qe V j x j=x:=if_pos rfl
theorem JP (V:Nat->Value × Value) {j i:Nat} (x:Value × Value) (h:i≠j):Qe V j x i=V i:=if_neg h
theorem uZ (V:Nat->Value × Value) (j:Nat) (x:Value × Value) (q:Nat):Zv (Qe V j x) q=if q / 2=j then(if q % 2=0 then x.1 else x.2) else Zv V q:=by
 unfold Zv Qe
 by_cases e:q / 2=j
 ·simp[e]
 ·simp[e]
theorem yu.put {B:Nat} {w w':World} {g off zp n:Nat} {cs:List Cl} {V:Nat->Value × Value} (h:yu B w (.slice (some ⟨g,off,none⟩) n zp) cs V) {j:Nat} (hj:j<cs.length) (c:Cl) (vt vs:Value)
 (hsz:w.heap.size<=w'.heap.size) (hfr:∀o,w'.frozen? ⟨g,o,none⟩=w.frozen? ⟨g,o,none⟩)
 (zS:∀o,(o<off+j * 6\/off+j * 6+6<=o)->w'.cell? ⟨g,o,none⟩=w.cell? ⟨g,o,none⟩)
 (hbl:∀k,k<w.heap.size->k≠g->(V j).1.ownBlock≠some k->(V j).2.ownBlock≠some k->w'.heap[k]?=w.heap[k]?)
 (c0:w'.cell? ⟨g,off+j * 6,none⟩=some (.int .i64 c.m)) (c1:w'.cell? ⟨g,off+j * 6+1,none⟩=some (.int .i64 c.pc)) (c2:w'.cell? ⟨g,off+j * 6+2,none⟩=some vt)
 (c3:w'.cell? ⟨g,off+j * 6+3,none⟩=some vs) (c4:w'.cell? ⟨g,off+j * 6+4,none⟩=some (.int .i64 c.zf)) (c5:w'.cell? ⟨g,off+j * 6+5,none⟩=some (.bool c.zv))
 (ht:zj B w' vt c.zg) (hs:zj B w' vs c.ze)
 (nt:∀q,vt.ownBlock=some q->(V j).1.ownBlock=some q\/(V j).2.ownBlock=some q\/w.heap.size<=q) (ns:∀q,vs.ownBlock=some q->(V j).1.ownBlock=some q\/(V j).2.ownBlock=some q\/w.heap.size<=q)
 (ts:∀q,vt.ownBlock=some q->vs.ownBlock≠some q):yu B w' (.slice (some ⟨g,off,none⟩) n zp) (cs.set j c) (Qe V j (vt,vs)):=by
 have hgl:g<w.heap.size:=(h.lt (g:=g) (.inl rfl)).2
 have key:∀q,q<cs.length * 2->q / 2≠j->∀k,(Zv V q).ownBlock=some k->k<w.heap.size/\k≠g/\(V j).1.ownBlock≠some k/\(V j).2.ownBlock≠some k:=fun q hq hqj k hk=>by
  obtain⟨a1,a2⟩:=h.apart q hq k hk
  have b1:=a2 (j * 2) (by omega) (by omega)
  have b2:=a2 (j * 2+1) (by omega) (by omega)
  rw[vz] at b1
  rw[vg] at b2
  exact⟨(h.lt (g:=k) (.inr ⟨q,hq,hk⟩)).2,fun e=>a1 (by rw[e];rfl),b1,b2⟩
 have own:∀q,(V j).1.ownBlock=some q\/(V j).2.ownBlock=some q\/w.heap.size<=q->q≠g:=fun q hq=>by
  rcases hq with e | e | e
  ·intro eg
   exact(h.apart (j * 2) (by omega) q (by rw[vz];exact e)).1 (by rw[eg];rfl)
  ·intro eg
   exact(h.apart (j * 2+1) (by omega) q (by rw[vg];exact e)).1 (by rw[eg];rfl)
  ·omega
 have newb:∀q,q / 2=j->∀k,(Zv (Qe V j (vt,vs)) q).ownBlock=some k->(V j).1.ownBlock=some k\/(V j).2.ownBlock=some k\/w.heap.size<=k:=fun q hq k hk=>by
  rw[uZ,if_pos hq] at hk
  by_cases e:q % 2=0
  ·rw[if_pos e] at hk;exact nt k hk
  ·rw[if_neg e] at hk;exact ns k hk
 refine⟨?_,fun i hi=>?_,fun q hq k hk=>?_⟩
 ·rcases h.row with⟨h0,_⟩ | ⟨g',off',cap',hv,hB,hg,hl,hc,hsp,hx⟩
  ·cases h0
  ·cases hv
   refine .inr ⟨g,off,zp,by simp,hB,by omega,by simpa using hl,hc,fun i hi=>?_,fun i hi=>?_⟩
   ·rw[hfr]
    refine⟨?_,(hsp i hi).2⟩
    by_cases e:i<j * 6\/j * 6+6<=i
    ·rw[zS (off+i) (by omega)];exact(hsp i hi).1
    ·have h6:off+i=off+j * 6\/off+i=off+j * 6+1\/off+i=off+j * 6+2\/off+i=off+j * 6+3\/off+i=off+j * 6+4\/off+i=off+j * 6+5:=by omega
     rcases h6 with e | e | e | e | e | e <;> rw[e]
     ·rw[c0];rfl
     ·rw[c1];rfl
     ·rw[c2];rfl
     ·rw[c3];rfl
     ·rw[c4];rfl
     ·rw[c5];rfl
   ·rw[List.length_set] at hi
    by_cases e:i=j
    ·subst e
     rw[List.getElem_set_self,KS]
     exact⟨c0,c1,c2,c3,c4,c5⟩
    ·rw[List.getElem_set_ne (Ne.symm e),JP _ _ e,zS _ (by omega),zS _ (by omega),zS _ (by omega),zS _ (by omega),zS _ (by omega),zS _ (by omega)]
     exact hx i hi
 ·rw[List.length_set] at hi
  by_cases e:i=j
  ·subst e
   rw[List.getElem_set_self,KS]
   exact⟨ht,hs⟩
  ·rw[List.getElem_set_ne (Ne.symm e),JP _ _ e]
   obtain⟨p1,p2⟩:=h.lists i hi
   refine⟨p1.kept hsz fun k hk=>?_,p2.kept hsz fun k hk=>?_⟩
   ·obtain⟨a1,a2,a3,a4⟩:=key (i * 2) (by omega) (by omega) k (by rw[vz];exact hk)
    exact hbl k a1 a2 a3 a4
   ·obtain⟨a1,a2,a3,a4⟩:=key (i * 2+1) (by omega) (by omega) k (by rw[vg];exact hk)
    exact hbl k a1 a2 a3 a4
 ·rw[List.length_set] at hq
  by_cases e:q / 2=j
  ·have hn:=newb q e k hk
   refine⟨fun e2=>own k hn (by have e3:g=k:=Option.some.inj e2;exact e3.symm),fun q' hq' hne hk'=>?_⟩
   rw[List.length_set] at hq'
   by_cases e':q' / 2=j
   ·rw[uZ,if_pos e] at hk
    rw[uZ,if_pos e'] at hk'
    rcases Nat.mod_two_eq_zero_or_one q with m | m <;> rcases Nat.mod_two_eq_zero_or_one q' with m' | m'
    ·omega
    ·rw[if_pos m] at hk;rw[if_neg (by omega)] at hk';exact ts k hk hk'
    ·rw[if_neg (by omega)] at hk;rw[if_pos m'] at hk';exact ts k hk' hk
    ·omega
   ·rw[uZ,if_neg e'] at hk'
    obtain⟨a1,a2,a3,a4⟩:=key q' hq' e' k hk'
    rcases hn with x | x | x
    ·exact a3 x
    ·exact a4 x
    ·omega
  ·rw[uZ,if_neg e] at hk
   obtain⟨a1,a2,a3,a4⟩:=key q hq e k hk
   refine⟨(h.apart q hq k hk).1,fun q' hq' hne hk'=>?_⟩
   rw[List.length_set] at hq'
   by_cases e':q' / 2=j
   ·rcases newb q' e' k hk' with x | x | x
    ·exact a3 x
    ·exact a4 x
    ·omega
   ·rw[uZ,if_neg e'] at hk'
    exact(h.apart q hq k hk).2 q' hq' hne hk'
theorem yu.cells {B:Nat} {w:World} {g off zp n:Nat} {cs:List Cl} {V:Nat->Value × Value} (h:yu B w (.slice (some ⟨g,off,none⟩) n zp) cs V) {j:Nat} (hj:j<cs.length) :
 (w.cell? ⟨g,off+j * 6,none⟩=some (.int .i64 cs[j].m)/\w.cell? ⟨g,off+j * 6+1,none⟩=some (.int .i64 cs[j].pc)/\w.cell? ⟨g,off+j * 6+2,none⟩=some (V j).1/\w.cell? ⟨g,off+j * 6+3,none⟩=some (V j).2/\w.cell? ⟨g,off+j * 6+4,none⟩=some (.int .i64 cs[j].zf)/\w.cell? ⟨g,off+j * 6+5,none⟩=some (.bool cs[j].zv)) /\
 ∀f,f<6->w.frozen? ⟨g,off+j * 6+f,none⟩=false:=by
 rcases h.row with⟨h0,_⟩ | ⟨g',off',cap',hv,hB,hg,hl,hc,hsp,hx⟩
 ·cases h0
 ·cases hv
  refine⟨hx j hj,fun f hf=>?_⟩
  have:=(hsp (j * 6+f) (by omega)).2
  rwa [show off+(j * 6+f)=off+j * 6+f by omega] at this
structure Cm (A:Nat->Prop) (B:Nat) (w w':World):Prop where
 b:Below B w w'
 a:∀q,A q->w'.heap[q]?=w.heap[q]?
theorem Cm.trans {A:Nat->Prop} {B:Nat} {x y z:World} (h:Cm A B x y) (k:Cm A B y z):Cm A B x z:=⟨h.b.trans k.b,fun q hq=>(k.a q hq).trans (h.a q hq)⟩
theorem Cm.less {A A':Nat->Prop} {B:Nat} {x y:World} (h:Cm A B x y) (hA:∀q,A' q->A q):Cm A' B x y:=⟨h.b,fun q hq=>h.a q (hA q hq)⟩
theorem Cm.row {A:Nat->Prop} {B:Nat} {x y:World} (h:Cm A B x y) {g:Nat} {t:TypeId} {n:Nat} {f:Nat->Value} (hr:x.rowIs g t n f) (hg:A g):y.rowIs g t n f:=hr.of_block (h.a g hg)
structure SM (A:Nat->Prop) (B:Nat) (w:World) (bo:Nat) (vp vc vs:Value) (ms:zM) (h:Hp) (V:Nat->Value × Value):Prop where
 box:w.rowIs bo 216 6 (Qi vp vc (.int .i64 h.now) (.int .i64 h.born) vs (.int .i64 h.code))
 le:B<=bo
 own:yJ B w vc vs h V
 nb:¬kC vc vs h.za.length V bo
 av:∀q,A q->q≠bo/\q<w.heap.size/\¬kC vc vs h.za.length V q
 pr:∃w0:World,yy w0 vp ms/\w0.heap.size<=B/\Below w0.heap.size w0 w
theorem SM.prog {A:Nat->Prop} {B:Nat} {w:World} {bo:Nat} {vp vc vs:Value} {ms:zM} {h:Hp} {V:Nat->Value × Value} (k:SM A B w bo vp vc vs ms h V):yy w vp ms:=by
 obtain⟨w0,h1,_,h3⟩:=k.pr
 exact h1.below h3
theorem SM.below {A:Nat->Prop} {B:Nat} {w w':World} {bo:Nat} {vp vc vs:Value} {ms:zM} {h:Hp} {V:Nat->Value × Value} (k:SM A B w bo vp vc vs ms h V) (hb:Below w.heap.size w w'):SM A B w' bo vp vc vs ms h V:=by
 obtain⟨w0,h1,h2,h3⟩:=k.pr
 exact⟨zz hb k.box,k.le,k.own.below hb,k.nb,fun q hq=>⟨(k.av q hq).1,by have:=(k.av q hq).2.1;have:=hb.size;omega,(k.av q hq).2.2⟩,w0,h1,h2,h3.trans (hb.mono h3.size)⟩
theorem SM.cm {A:Nat->Prop} {B:Nat} {w w':World} {bo:Nat} {vp vc vs:Value} {ms:zM} {h:Hp} {V:Nat->Value × Value} (k:SM A B w bo vp vc vs ms h V) (hb:Below w.heap.size w w') (hB:B<=w.heap.size):Cm A B w w':=⟨hb.mono hB,fun q hq=>hb.block q (k.av q hq).2.1⟩
theorem SM.re {A A':Nat->Prop} {B:Nat} {w:World} {bo:Nat} {vp vc vs:Value} {ms:zM} {h:Hp} {V:Nat->Value × Value} (k:SM A B w bo vp vc vs ms h V) (hA:∀q,A' q->q≠bo/\q<w.heap.size/\¬kC vc vs h.za.length V q):SM A' B w bo vp vc vs ms h V:=⟨k.box,k.le,k.own,k.nb,hA,k.pr⟩
theorem SM.made {A:Nat->Prop} {B:Nat} {w w':World} {bo:Nat} {vp vc vs:Value} {ms:zM} {h:Hp} {V:Nat->Value × Value} (k:SM A B w bo vp vc vs ms h V) (hb:Below w.heap.size w w') (hw:w.heap.size<w'.heap.size):SM (fun q=>A q\/q=w.heap.size) B w' bo vp vc vs ms h V:=by
 refine(k.below hb).re fun q hq=>?_
 rcases hq with hq | rfl
 ·exact(k.below hb).av q hq
 ·exact⟨by have:=k.box.lt;omega,hw,fun e=>by have:=(k.own.lt e).2;omega⟩
theorem SM.less {A A':Nat->Prop} {B:Nat} {w:World} {bo:Nat} {vp vc vs:Value} {ms:zM} {h:Hp} {V:Nat->Value × Value} (k:SM A B w bo vp vc vs ms h V) (hA:∀q,A' q->A q):SM A' B w bo vp vc vs ms h V:=k.re fun q hq=>k.av q (hA q hq)
theorem wH {B:Nat} {w w':World} {vp:Value} {ms:zM} (h:∃w0:World,yy w0 vp ms/\w0.heap.size<=B/\Below w0.heap.size w0 w) (hb:Below B w w'):∃w0:World,yy w0 vp ms/\w0.heap.size<=B/\Below w0.heap.size w0 w':=by
 obtain⟨w0,h1,h2,h3⟩:=h
 exact⟨w0,h1,h2,h3.trans (hb.mono h2)⟩
structure Put (B:Nat) (w w':World) (g off j:Nat) (V:Nat->Value × Value) (c:Cl) (vt vs:Value):Prop where
 sz:w.heap.size<=w'.heap.size
 fr:∀o,w'.frozen? ⟨g,o,none⟩=w.frozen? ⟨g,o,none⟩
 row:∀o,(o<off+j * 6\/off+j * 6+6<=o)->w'.cell? ⟨g,o,none⟩=w.cell? ⟨g,o,none⟩
 bl:∀k,k<w.heap.size->k≠g->(V j).1.ownBlock≠some k->(V j).2.ownBlock≠some k->w'.heap[k]?=w.heap[k]?
 c0:w'.cell? ⟨g,off+j * 6,none⟩=some (.int .i64 c.m)
 c1:w'.cell? ⟨g,off+j * 6+1,none⟩=some (.int .i64 c.pc)
 c2:w'.cell? ⟨g,off+j * 6+2,none⟩=some vt
 c3:w'.cell? ⟨g,off+j * 6+3,none⟩=some vs
 c4:w'.cell? ⟨g,off+j * 6+4,none⟩=some (.int .i64 c.zf)
 c5:w'.cell? ⟨g,off+j * 6+5,none⟩=some (.bool c.zv)
 ht:zj B w' vt c.zg
 hs:zj B w' vs c.ze
 nt:∀q,vt.ownBlock=some q->(V j).1.ownBlock=some q\/(V j).2.ownBlock=some q\/w.heap.size<=q
 ns:∀q,vs.ownBlock=some q->(V j).1.ownBlock=some q\/(V j).2.ownBlock=some q\/w.heap.size<=q
 ts:∀q,vt.ownBlock=some q->vs.ownBlock≠some q
theorem SM.put {A:Nat->Prop} {B:Nat} {w w':World} {bo:Nat} {vp vs:Value} {g off n zp:Nat} {ms:zM} {h:Hp} {V:Nat->Value × Value} (k:SM A B w bo vp (.slice (some ⟨g,off,none⟩) n zp) vs ms h V) {j:Nat} (hj:j<h.za.length) {c:Cl} {vt vs':Value}
 (p:Put B w w' g off j V c vt vs') (hb:Below B w w'):SM A B w' bo vp (.slice (some ⟨g,off,none⟩) n zp) vs ms {h with za:=h.za.set j c} (Qe V j (vt,vs'))/\Cm A B w w':=by
 have hV1:∀q,(V j).1.ownBlock=some q->yE (.slice (some ⟨g,off,none⟩) n zp) h.za.length V q:=fun q e=>.inr ⟨j * 2,by omega,by rw[vz];exact e⟩
 have hV2:∀q,(V j).2.ownBlock=some q->yE (.slice (some ⟨g,off,none⟩) n zp) h.za.length V q:=fun q e=>.inr ⟨j * 2+1,by omega,by rw[vg];exact e⟩
 have hout:∀q,q<w.heap.size->¬yE (.slice (some ⟨g,off,none⟩) n zp) h.za.length V q->w'.heap[q]?=w.heap[q]?:=fun q hq hn=>p.bl q hq (fun e=>hn (.inl (by rw[e];rfl))) (fun e=>hn (hV1 q e)) (fun e=>hn (hV2 q e))
 have hnew:∀q,q<w.heap.size->¬yE (.slice (some ⟨g,off,none⟩) n zp) h.za.length V q->¬yE (.slice (some ⟨g,off,none⟩) n zp) (h.za.set j c).length (Qe V j (vt,vs')) q:=fun q hq hn e=>by
  rcases e with e | ⟨i,hi,e⟩
  ·exact hn (.inl e)
  ·rw[List.length_set] at hi
   rw[uZ] at e
   by_cases e1:i / 2=j
   ·rw[if_pos e1] at e
    by_cases e2:i % 2=0
    ·rw[if_pos e2] at e
     rcases p.nt q e with x | x | x
     ·exact hn (hV1 q x)
     ·exact hn (hV2 q x)
     ·omega
    ·rw[if_neg e2] at e
     rcases p.ns q e with x | x | x
     ·exact hn (hV1 q x)
     ·exact hn (hV2 q x)
     ·omega
   ·rw[if_neg e1] at e
    exact hn (.inr ⟨i,hi,e⟩)
 have Z2:bo<w.heap.size:=k.box.lt
 have hbn:¬yE (.slice (some ⟨g,off,none⟩) n zp) h.za.length V bo:=fun e=>k.nb (.inr e)
 refine⟨⟨k.box.of_block (hout bo Z2 hbn),k.le,⟨k.own.c.put hj c vt vs' p.sz p.fr p.row p.bl p.c0 p.c1 p.c2 p.c3 p.c4 p.c5 p.ht p.hs p.nt p.ns p.ts,k.own.s.kept p.sz fun q e=>hout q (k.own.s.lt q e).2 (k.own.apart q e),fun q e=>hnew q (k.own.s.lt q e).2 (k.own.apart q e)⟩,fun e=>?_,fun q hq=>⟨(k.av q hq).1,by have:=(k.av q hq).2.1;have:=p.sz;omega,fun e=>?_⟩,wH k.pr hb⟩,hb,fun q hq=>hout q (k.av q hq).2.1 (fun e=>(k.av q hq).2.2 (.inr e))⟩
 ·rcases e with e | e
  ·exact k.nb (.inl e)
  ·exact hnew bo Z2 hbn e
 ·rcases e with e | e
  ·exact(k.av q hq).2.2 (.inl e)
  ·exact hnew q (k.av q hq).2.1 (fun e=>(k.av q hq).2.2 (.inr e)) e
theorem zdf {w:World} {g:Nat} {t:TypeId} {f:Nat->Value} (h:w.rowIs g t 6 f) (i:Nat) (v:Value) {f':Nat->Value} (hf:∀k,k<6->f' k=if k=i then v else f k):(w.setCell ⟨g,i,none⟩ v).rowIs g t 6 f' :=
 (h.set i v).congr fun k hk=>by rw[hf k hk]
theorem SM.num {A:Nat->Prop} {B:Nat} {w:World} {bo:Nat} {vp vc vs:Value} {ms:zM} {h h':Hp} {V:Nat->Value × Value} (k:SM A B w bo vp vc vs ms h V) (i:Nat) (x:Int) (hc:h'.za=h.za) (hs:h'.zl=h.zl)
 (hf:∀q,q<6->Qi vp vc (.int .i64 h'.now) (.int .i64 h'.born) vs (.int .i64 h'.code) q=if q=i then .int .i64 x else Qi vp vc (.int .i64 h.now) (.int .i64 h.born) vs (.int .i64 h.code) q):SM A B (w.setCell ⟨bo,i,none⟩ (.int .i64 x)) bo vp vc vs ms h' V/\Cm A B w (w.setCell ⟨bo,i,none⟩ (.int .i64 x)):=by
 have hbl:∀q,kC vc vs h.za.length V q->(w.setCell ⟨bo,i,none⟩ (.int .i64 x)).heap[q]?=w.heap[q]?:=fun q e=>Below.heap_setCell _ _ _ _ (fun e2=>k.nb (by have e3:q=bo:=e2;rw[<-e3];exact e))
 have o:=k.own.kept (w':=w.setCell ⟨bo,i,none⟩ (.int .i64 x)) (by simp[World.setCell]) hbl
 have b1:=(Below.refl B w).setCell (p:=⟨bo,i,none⟩) k.le (.int .i64 x)
 exact⟨⟨zdf k.box i _ hf,k.le,⟨by rw[hc];exact o.c,by rw[hs];exact o.s,by rw[hc];exact o.apart⟩,by rw[hc];exact k.nb,fun q hq=>⟨(k.av q hq).1,by simp[World.setCell];exact(k.av q hq).2.1,by rw[hc];exact(k.av q hq).2.2⟩,wH k.pr b1⟩,b1,fun q hq=>Below.heap_setCell _ _ _ _ (fun e=>(k.av q hq).1 e)⟩
theorem QM {B:Nat} {w w2:World} {g off zp n:Nat} {cs:List Cl} {V:Nat->Value × Value} (h:yu B w (.slice (some ⟨g,off,none⟩) n zp) cs V) {j:Nat} (hj:j<cs.length) (v':Value) (st:zL) (hsz:w.heap.size<=w2.heap.size)
 (hbl:∀k,k<w.heap.size->(V j).2.ownBlock≠some k->w2.heap[k]?=w.heap[k]?) (hr:zj B w2 v' st) (hv:∀q,v'.ownBlock=some q->(V j).2.ownBlock=some q\/w.heap.size<=q) :
 Put B w (w2.setCell ⟨g,off+j * 6+3,none⟩ v') g off j V {cs[j] with ze:=st} (V j).1 v':=by
 have hgl:g<w.heap.size:=(h.lt (g:=g) (.inl rfl)).2
 obtain⟨⟨c0,c1,c2,c3,c4,c5⟩,_⟩:=h.cells hj
 obtain⟨a1,a2⟩:(∀q,(V j).1.ownBlock=some q->q≠g/\(V j).2.ownBlock≠some q)/\(∀q,(V j).2.ownBlock=some q->q≠g):=by
  refine⟨fun q e=>?_,fun q e eg=>?_⟩
  ·obtain⟨x1,x2⟩:=h.apart (j * 2) (by omega) q (by rw[vz];exact e)
   have x3:=x2 (j * 2+1) (by omega) (by omega)
   rw[vg] at x3
   exact⟨fun eg=>x1 (by rw[eg];rfl),x3⟩
  ·exact(h.apart (j * 2+1) (by omega) q (by rw[vg];exact e)).1 (by rw[eg];rfl)
 have hg2:w2.heap[g]?=w.heap[g]?:=hbl g hgl (fun e=>a2 g e rfl)
 have cg:∀o,w2.cell? ⟨g,o,none⟩=w.cell? ⟨g,o,none⟩:=fun o=>World.cell?_of_block (a:=⟨g,o,none⟩) hg2
 have fg:∀o,w2.frozen? ⟨g,o,none⟩=w.frozen? ⟨g,o,none⟩:=fun o=>World.frozen?_of_block (a:=⟨g,o,none⟩) hg2
 have hoth:∀o,o≠off+j * 6+3->(w2.setCell ⟨g,off+j * 6+3,none⟩ v').cell? ⟨g,o,none⟩=w.cell? ⟨g,o,none⟩:=fun o ho=>by
  rw[World.cell?_setCell_other _ _ _ _ (fun q=>ho (by have:=congrArg Addr.off q;simpa using this.symm)),cg]
 have hvg:v'.ownBlock≠some g:=fun e=>by
  rcases hv g e with x | x
  ·exact a2 g x rfl
  ·omega
 have ht:=(h.lists j hj).1
 refine⟨by simp[World.setCell];exact hsz,fun o=>by rw[World.frozen?_setCell];exact fg o,fun o ho=>hoth o (by omega),fun k hk hkg h1 h2=>?_,?_,?_,?_,?_,?_,?_,?_,hr.set_other _ hvg,fun q e=>.inl e,fun q e=>?_,fun q e e2=>?_⟩
 ·rw[Below.heap_setCell _ _ _ _ (fun e=>hkg e)]
  exact hbl k hk h2
 ·rw[hoth _ (by omega)];exact c0
 ·rw[hoth _ (by omega)];exact c1
 ·rw[hoth _ (by omega)];exact c2
 ·exact World.cell?_setCell_same _ _ _ (by rw[cg];exact c3)
 ·rw[hoth _ (by omega)];exact c4
 ·rw[hoth _ (by omega)];exact c5
 ·exact(ht.kept hsz fun q e=>hbl q (ht.lt q e).2 (a1 q e).2).set_other _ (fun e=>(a1 _ e).1 rfl)
 ·rcases hv q e with x | x
  ·exact .inr (.inl x)
  ·exact .inr (.inr x)
 ·rcases hv q e2 with x | x
  ·exact(a1 q e).2 x
  ·have:=(ht.lt q e).2;omega
theorem uL {B:Nat} {w:World} {g off zp n:Nat} {cs:List Cl} {V:Nat->Value × Value} (h:yu B w (.slice (some ⟨g,off,none⟩) n zp) cs V) {j:Nat} (hj:j<cs.length) (f:Nat) (x:Value) (c:Cl) (hf:f=1\/f=4\/f=5) (ht:c.zg=cs[j].zg) (hs:c.ze=cs[j].ze)
 (e0:c.m=cs[j].m) (e1:(.int .i64 c.pc:Value)=if f=1 then x else .int .i64 cs[j].pc) (e4:(.int .i64 c.zf:Value)=if f=4 then x else .int .i64 cs[j].zf) (e5:(.bool c.zv:Value)=if f=5 then x else .bool cs[j].zv) :
 Put B w (w.setCell ⟨g,off+j * 6+f,none⟩ x) g off j V c (V j).1 (V j).2:=by
 obtain⟨⟨c0,c1,c2,c3,c4,c5⟩,_⟩:=h.cells hj
 obtain⟨a1,a2⟩:(∀q,(V j).1.ownBlock=some q->q≠g/\(V j).2.ownBlock≠some q)/\(∀q,(V j).2.ownBlock=some q->q≠g):=by
  refine⟨fun q e=>?_,fun q e eg=>?_⟩
  ·obtain⟨x1,x2⟩:=h.apart (j * 2) (by omega) q (by rw[vz];exact e)
   have x3:=x2 (j * 2+1) (by omega) (by omega)
   rw[vg] at x3
   exact⟨fun eg=>x1 (by rw[eg];rfl),x3⟩
  ·exact(h.apart (j * 2+1) (by omega) q (by rw[vg];exact e)).1 (by rw[eg];rfl)
 have hoth:∀o,o≠off+j * 6+f->(w.setCell ⟨g,off+j * 6+f,none⟩ x).cell? ⟨g,o,none⟩=w.cell? ⟨g,o,none⟩:=fun o ho =>
  World.cell?_setCell_other _ _ _ _ (fun q=>ho (by have:=congrArg Addr.off q;simpa using this.symm))
 have hsame:∀{u:Value},w.cell? ⟨g,off+j * 6+f,none⟩=some u->(w.setCell ⟨g,off+j * 6+f,none⟩ x).cell? ⟨g,off+j * 6+f,none⟩=some x:=fun hu=>World.cell?_setCell_same _ _ _ hu
 refine⟨by simp[World.setCell],fun o=>World.frozen?_setCell _ _ _ _,fun o ho=>hoth o (by omega),fun k hk hkg h1 h2=>Below.heap_setCell _ _ _ _ (fun e=>hkg e),?_,?_,?_,?_,?_,?_,?_,?_,fun q e=>.inl e,fun q e=>.inr (.inl e),fun q e=>(a1 q e).2⟩
 ·rw[hoth _ (by omega),e0];exact c0
 ·rw[e1]
  by_cases q:f=1
  ·subst q;rw[if_pos rfl];exact hsame c1
  ·rw[if_neg q,hoth _ (by omega)];exact c1
 ·rw[hoth _ (by omega)];exact c2
 ·rw[hoth _ (by omega)];exact c3
 ·rw[e4]
  by_cases q:f=4
  ·subst q;rw[if_pos rfl];exact hsame c4
  ·rw[if_neg q,hoth _ (by omega)];exact c4
 ·rw[e5]
  by_cases q:f=5
  ·subst q;rw[if_pos rfl];exact hsame c5
  ·rw[if_neg q,hoth _ (by omega)];exact c5
 ·rw[ht];exact(h.lists j hj).1.set_other _ (fun e=>(a1 _ e).1 rfl)
 ·rw[hs];exact(h.lists j hj).2.set_other _ (fun e=>a2 _ e rfl)
theorem UU {B:Nat} {w:World} {g off zp n:Nat} {cs:List Cl} {V:Nat->Value × Value} (h:yu B w (.slice (some ⟨g,off,none⟩) n zp) cs V) {j:Nat} (hj:j<cs.length) {gt ot mt ct:Nat} (hV:(V j).1=.slice (some ⟨gt,ot,none⟩) mt ct) (i:Nat) (hi:i<cs[j].zg.length) (x y:Int) :
 Put B w ((w.setCell ⟨gt,ot+i * 2,none⟩ (.int .i64 x)).setCell ⟨gt,ot+i * 2+1,none⟩ (.int .i64 y)) g off j V {cs[j] with zg:=cs[j].zg.set i (x,y)} (V j).1 (V j).2:=by
 obtain⟨⟨c0,c1,c2,c3,c4,c5⟩,_⟩:=h.cells hj
 have zx:(V j).1.ownBlock=some gt:=by rw[hV];rfl
 obtain⟨x1,x2⟩:=h.apart (j * 2) (by omega) gt (by rw[vz];exact zx)
 have x3:=x2 (j * 2+1) (by omega) (by omega)
 rw[vg] at x3
 have hgg:gt≠g:=fun eg=>x1 (by rw[eg];rfl)
 have hbl:∀k,k≠gt->((w.setCell ⟨gt,ot+i * 2,none⟩ (.int .i64 x)).setCell ⟨gt,ot+i * 2+1,none⟩ (.int .i64 y)).heap[k]?=w.heap[k]?:=fun k hk=>by
  rw[Below.heap_setCell _ _ _ _ (fun e=>hk e),Below.heap_setCell _ _ _ _ (fun e=>hk e)]
 have cg:∀o,((w.setCell ⟨gt,ot+i * 2,none⟩ (.int .i64 x)).setCell ⟨gt,ot+i * 2+1,none⟩ (.int .i64 y)).cell? ⟨g,o,none⟩=w.cell? ⟨g,o,none⟩:=fun o=>World.cell?_of_block (a:=⟨g,o,none⟩) (hbl g (Ne.symm hgg))
 have ht:=(h.lists j hj).1
 rw[hV] at ht
 refine⟨by simp[World.setCell],fun o=>by rw[World.frozen?_setCell,World.frozen?_setCell],fun o _=>cg o,fun k hk hkg h1 h2=>hbl k (fun e=>h1 (by rw[e];exact zx)),by rw[cg];exact c0,by rw[cg];exact c1,by rw[cg];exact c2,by rw[cg];exact c3,by rw[cg];exact c4,by rw[cg];exact c5,?_,?_,fun q e=>.inl e,fun q e=>.inr (.inl e),fun q e=>?_⟩
 ·rw[hV];exact ht.set i hi x y
 ·exact(h.lists j hj).2.kept (by simp[World.setCell]) fun q e=>hbl q (fun eq=>x3 (by rw[<-eq];exact e))
 ·rw[zx] at e
  cases e
  exact x3
theorem SM.say {A:Nat->Prop} {B:Nat} {w w2:World} {bo:Nat} {vp vc vs:Value} {ms:zM} {h:Hp} {V:Nat->Value × Value} (k:SM A B w bo vp vc vs ms h V) (v':Value) (sd:zL) (hsz:w.heap.size<=w2.heap.size)
 (hbl:∀q,q<w.heap.size->vs.ownBlock≠some q->w2.heap[q]?=w.heap[q]?) (hr:zj B w2 v' sd) (hv:∀q,v'.ownBlock=some q->vs.ownBlock=some q\/w.heap.size<=q) (hb:Below B w w2) :
 SM A B (w2.setCell ⟨bo,4,none⟩ v') bo vp vc v' ms {h with zl:=sd} V/\Cm A B w (w2.setCell ⟨bo,4,none⟩ v'):=by
 have Z2:bo<w.heap.size:=k.box.lt
 have hbs:vs.ownBlock≠some bo:=fun e=>k.nb (.inl e)
 have hvb:v'.ownBlock≠some bo:=fun e=>by
  rcases hv bo e with x | x
  ·exact hbs x
  ·omega
 have hcb:∀q,yE vc h.za.length V q->(w2.setCell ⟨bo,4,none⟩ v').heap[q]?=w.heap[q]?:=fun q e=>by
  rw[Below.heap_setCell _ _ _ _ (fun e2=>k.nb (.inr (by have e3:q=bo:=e2;rw[<-e3];exact e)))]
  exact hbl q (k.own.c.lt e).2 (fun e2=>k.own.apart q e2 e)
 have box2:w2.rowIs bo 216 6 (Qi vp vc (.int .i64 h.now) (.int .i64 h.born) vs (.int .i64 h.code)):=k.box.of_block (hbl bo Z2 hbs)
 have b1:=hb.setCell (p:=⟨bo,4,none⟩) k.le v'
 refine⟨⟨ZD box2 v',k.le,⟨k.own.c.kept (by simp[World.setCell];exact hsz) hcb,hr.set_other _ hvb,fun q e e2=>?_⟩,fun e=>?_,fun q hq=>⟨(k.av q hq).1,by simp[World.setCell];have:=(k.av q hq).2.1;omega,fun e=>?_⟩,wH k.pr b1⟩,b1,fun q hq=>(Below.heap_setCell _ _ _ _ (fun e=>(k.av q hq).1 e)).trans (hbl q (k.av q hq).2.1 (fun e=>(k.av q hq).2.2 (.inl e)))⟩
 ·rcases hv q e with x | x
  ·exact k.own.apart q x e2
  ·have:=(k.own.c.lt e2).2;omega
 ·rcases e with e | e
  ·exact hvb e
  ·exact k.nb (.inr e)
 ·rcases e with e | e
  ·rcases hv q e with x | x
   ·exact(k.av q hq).2.2 (.inl x)
   ·have:=(k.av q hq).2.1;omega
  ·exact(k.av q hq).2.2 (.inr e)
def xO (cs:List Cl) (V:Nat->Value × Value):List (Cl × Value × Value):=(List.range cs.length).map fun i=>(cs.getD i Cl.none,V i)
theorem vF (cs:List Cl) (V:Nat->Value × Value):(xO cs V).length=cs.length:=by simp[xO]
theorem Qf {cs:List Cl} {V:Nat->Value × Value} {i:Nat} (hi:i<cs.length):(xO cs V)[i]'(by rw[vF];exact hi)=(cs[i],V i):=by
 unfold xO
 simp[hi]
theorem Yy {cs:List Cl} {V:Nat->Value × Value} {i:Nat} (hi:i<cs.length):(xO cs V).getD i (Cl.none,.slice none 0 0,.slice none 0 0)=(cs[i],V i):=by
 rw[<-Qf (V:=V) hi]
 simp[vF,hi]
theorem zbm (cs:List Cl) (V:Nat->Value × Value):(xO cs V).map (·.1)=cs:=by
 refine List.ext_getElem (by simp[xO]) fun i h1 h2=>?_
 rw[List.getElem_map,Qf h2]
theorem yu.toRow {B:Nat} {w:World} {v:Value} {cs:List Cl} {V:Nat->Value × Value} (h:yu B w v cs V):yz B w v (xO cs V):=by
 have hl:=vF cs V
 refine⟨wd _,?_⟩
 rcases h.row with⟨rfl,rfl⟩ | ⟨g,off,zp,rfl,hB,hg,hlc,hc,hsp,hx⟩
 ·exact .inl ⟨rfl,rfl⟩
 ·refine .inr ⟨g,off,zp,by rw[hl],hB,hg,by rw[hl];exact hlc,hc,hsp,fun i hi=>?_⟩
  rw[wd,hl] at hi
  have hi6:i / 6<cs.length:=by omega
  obtain⟨r0,r1,r2,r3,r4,r5⟩:=VI (xO cs V) (i / 6) (by rw[hl];exact hi6)
  rw[Qf hi6] at r0 r1 r2 r3 r4 r5
  obtain⟨c0,c1,c2,c3,c4,c5⟩:=hx (i / 6) hi6
  have hlt:i<(uq (xO cs V)).length:=by rw[wd,hl];exact hi
  have key:∀(f:Nat) (u:Value),i=i / 6 * 6+f->(uq (xO cs V))[i / 6 * 6+f]?=some u->w.cell? ⟨g,off+i / 6 * 6+f,none⟩=some u->w.cell? ⟨g,off+i,none⟩=some (uq (xO cs V))[i]:=fun f u e1 e2 e3=>by
   rw[<-e1,List.getElem?_eq_getElem hlt] at e2
   rw[show off+i / 6 * 6+f=off+i by omega] at e3
   rw[e3,e2]
  have h6:i=i / 6 * 6+0\/i=i / 6 * 6+1\/i=i / 6 * 6+2\/i=i / 6 * 6+3\/i=i / 6 * 6+4\/i=i / 6 * 6+5:=by omega
  rcases h6 with e | e | e | e | e | e
  ·exact key 0 _ e r0 c0
  ·exact key 1 _ e r1 c1
  ·exact key 2 _ e r2 c2
  ·exact key 3 _ e r3 c3
  ·exact key 4 _ e r4 c4
  ·exact key 5 _ e r5 c5
theorem yu.apartL {B:Nat} {w:World} {v:Value} {cs:List Cl} {V:Nat->Value × Value} (h:yu B w v cs V):uw (xO cs V) v:=by
 have key:∀q,q<cs.length * 2->Zv (fun i=>((xO cs V).getD i (Cl.none,.slice none 0 0,.slice none 0 0)).2) q=Zv V q:=fun q hq=>by
  have h2:q / 2<cs.length:=by omega
  unfold Zv
  simp only[Yy h2]
 intro q hq g hg
 rw[vF] at hq
 rw[key q hq] at hg
 obtain⟨a1,a2⟩:=h.apart q hq g hg
 refine⟨a1,fun q' hq' hne=>?_⟩
 rw[vF] at hq'
 rw[key q' hq']
 exact a2 q' hq' hne
theorem SM.born {A:Nat->Prop} {B:Nat} {w w3 w4:World} {bo:Nat} {vp vc vs:Value} {ms:zM} {h:Hp} {V:Nat->Value × Value} (k:SM A B w bo vp vc vs ms h V) (c:Cl) (vt vs3 v':Value) (hB:B<=w.heap.size) (h3:Below w.heap.size w w3)
 (ht:zj w.heap.size w3 vt c.zg) (hs:zj w.heap.size w3 vs3 c.ze) (hap:∀q,vt.ownBlock=some q->vs3.ownBlock≠some q) (zS:yz B w4 v' (xO h.za V ++ [(c,vt,vs3)])) (hg:w3.grownBy w4 vc.ownBlock) (hv:v'.ownBlock=vc.ownBlock\/v'.ownBlock=some w3.heap.size) :
 (∃V',SM A B (w4.setCell ⟨bo,1,none⟩ v') bo vp v' vs ms {h with za:=h.za ++ [c]} V')/\Cm A B w (w4.setCell ⟨bo,1,none⟩ v'):=by
 have hz3:=h3.size
 have hz4:=hg.size
 have Z2:bo<w.heap.size:=k.box.lt
 have hbc:¬yE vc h.za.length V bo:=fun e=>k.nb (.inr e)
 have Yq:∀q,vc.ownBlock=some q->B<=q/\q<w.heap.size:=fun q e=>k.own.c.lt (.inl e)
 have XG:∀q,v'.ownBlock=some q->vc.ownBlock=some q\/w3.heap.size<=q:=fun q e=>by
  rcases hv with x | x
  ·exact .inl (by rw[<-x];exact e)
  ·rw[x] at e;cases e;exact .inr zD
 have hbl:∀q,q<w.heap.size->vc.ownBlock≠some q->w4.heap[q]?=w.heap[q]?:=fun q hq hn=>(hg.block q (by omega) (fun e=>hn e.symm)).trans (h3.block q hq)
 have hnw:∀q,w.heap.size<=q->q<w3.heap.size->w4.heap[q]?=w3.heap[q]?:=fun q h1 h2=>hg.block q h2 (fun e=>by have:=(Yq q e.symm).2;omega)
 have hl:=vF h.za V
 have b4:Below B w w4:=⟨hg.os.trans h3.os,hg.tape.trans h3.tape,hg.output.trans h3.output,by omega,fun q hq=>hbl q (by omega) (fun e=>by have:=(Yq q e).1;omega)⟩
 have hlists:∀j,(hj:j<(xO h.za V ++ [(c,vt,vs3)]).length)->zj B w4 (xO h.za V ++ [(c,vt,vs3)])[j].2.1 (xO h.za V ++ [(c,vt,vs3)])[j].1.zg/\zj B w4 (xO h.za V ++ [(c,vt,vs3)])[j].2.2 (xO h.za V ++ [(c,vt,vs3)])[j].1.ze:=fun j hj=>by
  by_cases e:j<h.za.length
  ·rw[List.getElem_append_left (by rw[hl];exact e),Qf e]
   obtain⟨p1,p2⟩:=k.own.c.lists j e
   refine⟨p1.kept (by omega) fun q hq=>hbl q (p1.lt q hq).2 ?_,p2.kept (by omega) fun q hq=>hbl q (p2.lt q hq).2 ?_⟩
   ·exact(k.own.c.apart (j * 2) (by omega) q (by rw[vz];exact hq)).1
   ·exact(k.own.c.apart (j * 2+1) (by omega) q (by rw[vg];exact hq)).1
  ·rw[List.getElem_append_right (by rw[hl];omega)]
   simp only[List.getElem_singleton]
   exact⟨(ht.kept (by omega) fun q hq=>hnw q (ht.lt q hq).1 (ht.lt q hq).2).mono hB,(hs.kept (by omega) fun q hq=>hnw q (hs.lt q hq).1 (hs.lt q hq).2).mono hB⟩
 have hapL:uw (xO h.za V ++ [(c,vt,vs3)]) v':=Yb (S:=w.heap.size) (S':=w3.heap.size) k.own.c.apartL (fun q hq g hg'=>by
  rw[hl] at hq
  have hq2:q / 2<h.za.length:=by omega
  have:Zv (fun i=>((xO h.za V).getD i (Cl.none,.slice none 0 0,.slice none 0 0)).2) q=Zv V q:=by
   unfold Zv
   simp only[Yy hq2]
  rw[this] at hg'
  exact(k.own.c.lt (.inr ⟨q,hq,hg'⟩)).2) (fun q e=>ht.lt q e) (fun q e=>hs.lt q e) hap (fun q e=>(Yq q e).2) XG hz3
 have ho:=zS.own hlists hapL
 rw[List.map_append,zbm] at ho
 have hblk:∀q,yE v' (h.za ++ [c]).length (fun i=>((xO h.za V ++ [(c,vt,vs3)]).getD i (Cl.none,.slice none 0 0,.slice none 0 0)).2) q->yE vc h.za.length V q\/w.heap.size<=q:=fun q e=>by
  rcases e with e | ⟨i,hi,e⟩
  ·rcases XG q e with x | x
   ·exact .inl (.inl x)
   ·exact .inr (by omega)
  ·have hi':i<(h.za.length+1) * 2:=by simpa using hi
   by_cases e1:i<h.za.length * 2
   ·have hq2:i / 2<h.za.length:=by omega
    rw[Z6 (by rw[hl];exact e1)] at e
    have:Zv (fun i=>((xO h.za V).getD i (Cl.none,.slice none 0 0,.slice none 0 0)).2) i=Zv V i:=by
     unfold Zv
     simp only[Yy hq2]
    rw[this] at e
    exact .inl (.inr ⟨i,e1,e⟩)
   ·have h2:i=(xO h.za V).length * 2\/i=(xO h.za V).length * 2+1:=by rw[hl];omega
    rcases h2 with e2 | e2
    ·rw[e2,JD] at e;exact .inr (ht.lt q e).1
    ·rw[e2,JE] at e;exact .inr (hs.lt q e).1
 have hnb:¬yE v' (h.za ++ [c]).length (fun i=>((xO h.za V ++ [(c,vt,vs3)]).getD i (Cl.none,.slice none 0 0,.slice none 0 0)).2) bo:=fun e=>by
  rcases hblk bo e with x | x
  ·exact hbc x
  ·omega
 have hsb:vs.ownBlock≠some bo:=fun e=>k.nb (.inl e)
 have box4:w4.rowIs bo 216 6 (Qi vp vc (.int .i64 h.now) (.int .i64 h.born) vs (.int .i64 h.code)):=k.box.of_block (hbl bo Z2 (fun e=>hbc (.inl e)))
 have s4:zj B w4 vs h.zl:=k.own.s.kept (by omega) fun q e=>hbl q (k.own.s.lt q e).2 (fun e2=>k.own.apart q e (.inl e2))
 have b5:=b4.setCell (p:=⟨bo,1,none⟩) k.le v'
 refine⟨⟨_,⟨Qj box4 v',k.le,⟨ho.kept (by simp[World.setCell]) (fun q e=>Below.heap_setCell _ _ _ _ (fun e2=>hnb (by have e3:q=bo:=e2;rw[<-e3];exact e))),s4.set_other _ hsb,fun q e e2=>?_⟩,fun e=>?_,fun q hq=>⟨(k.av q hq).1,by simp[World.setCell];have:=(k.av q hq).2.1;omega,fun e=>?_⟩,wH k.pr b5⟩⟩,b5,fun q hq=>(Below.heap_setCell _ _ _ _ (fun e=>(k.av q hq).1 e)).trans (hbl q (k.av q hq).2.1 (fun e=>(k.av q hq).2.2 (.inr (.inl e))))⟩
 ·rcases hblk q e2 with x | x
  ·exact k.own.apart q e x
  ·have:=(k.own.s.lt q e).2;omega
 ·rcases e with e | e
  ·exact hsb e
  ·exact hnb e
 ·rcases e with e | e
  ·exact(k.av q hq).2.2 (.inl e)
  ·rcases hblk q e with x | x
   ·exact(k.av q hq).2.2 (.inr x)
   ·have:=(k.av q hq).2.1;omega
end Go.Proofs.YtjbgpcileapogaaGreat
