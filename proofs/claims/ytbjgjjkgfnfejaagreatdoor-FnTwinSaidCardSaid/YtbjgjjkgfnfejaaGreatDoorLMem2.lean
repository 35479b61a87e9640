/-
  A heap while the program's operations are done: each call a block of its own, its body another, who called a pointer; the lists of each in rows of their own. No two share a block.
-/
import Derived.Test.YtbjgjjkgfnfejaaGreatDoorMOk2
namespace Go.Proofs.YtbjgjjkgfnfejaaGreatDoor
set_option maxHeartbeats 4000000
set_option maxRecDepth 100000
open Go.RowKit
def Vy (x0 x1 x2:Value):Nat->Value:=fun i=>if i=0 then x0 else if i=1 then x1 else x2
theorem zaw (w:World) (t:TypeId) (x0 x1 x2:Value):(w.alloc (.cells #[x0,x1,x2] t)).rowIs w.heap.size t 3 (Vy x0 x1 x2) :=
 ⟨_,Go.Deep.blk_alloc_new _ _,rfl,fun i hi=>by match i,hi with | 0,_=>rfl | 1,_=>rfl | 2,_=>rfl⟩
theorem xu {w:World} {g:Nat} {t:TypeId} {x0 x1 x2:Value} (h:w.rowIs g t 3 (Vy x0 x1 x2)):(w.cell? (zH g 0)=some x0/\w.cell? (zH g 1)=some x1/\w.cell? (zH g 2)=some x2)/\(w.frozen? (zH g 0)=false/\w.frozen? (zH g 1)=false/\w.frozen? (zH g 2)=false) :=
 ⟨⟨h.cell (i:=0) (by decide),h.cell (i:=1) (by decide),h.cell (i:=2) (by decide)⟩,h.frozen 0,h.frozen 1,h.frozen 2⟩
theorem Uc {w:World} {g:Nat} {t:TypeId} {x0 x1 x2:Value} (h:w.rowIs g t 3 (Vy x0 x1 x2)) (v:Value):(w.setCell (zH g 2) v).rowIs g t 3 (Vy x0 x1 v) :=
 (h.set 2 v).congr fun i hi=>by match i,hi with | 0,_=>rfl | 1,_=>rfl | 2,_=>rfl
def jd (C:Nat->Nat) (a:Int):Value:=if a<0 then .pointer none else zJ (C a.toNat) 0
theorem vr {C:Nat->Nat} {a:Int} (h:a<0):jd C a=.pointer none:=if_pos h
theorem u9 (C:Nat->Nat) (i:Nat):jd C (i:Int)=zJ (C i) 0:=by
 unfold jd
 rw[if_neg (by omega),Int.toNat_natCast]
inductive jw where
 | heap | run | row | zm
 | call (i:Nat) | body (i:Nat) | zg (i:Nat) | zf (i:Nat)
def jw.ok (n:Nat):jw->Prop
 | .call i | .body i | .zg i | .zf i=>i<n
 | _=>True
def jw.at (bl br:Nat) (vcs vsd:Value) (C D:Nat->Nat) (T:Nat->Value × Value):jw->Option Nat
 | .heap=>some bl
 | .run=>some br
 | .row=>vcs.ownBlock
 | .zm=>vsd.ownBlock
 | .call i=>some (C i)
 | .body i=>some (D i)
 | .zg i=>(T i).1.ownBlock
 | .zf i=>(T i).2.ownBlock
def wY (C:Nat->Nat) (n:Nat):List Value:=(List.range n).map fun i=>zJ (C i) 0
structure LV (B:Nat) (w:World) (bl br:Nat) (vp vcs vsd:Value) (C D:Nat->Nat) (T:Nat->Value × Value) (h:Hp):Prop where
 hp:w.rowIs bl 105 2 (Jn vcs (jd C h.now))
 rn:w.rowIs br 90 5 (kq vp (.iface 98 (zJ bl 0)) (zI h.born) vsd (zI h.code))
 row:yg B 1 w vcs h.za.length (wY C h.za.length)
 cl:∀i,(hi:i<h.za.length)->w.rowIs (C i) 159 3 (Vy (zJ (D i) 0) (zI i) (jd C h.za[i].zi))
 bd:∀i,(hi:i<h.za.length)->w.rowIs (D i) 186 5 (kq (zI h.za[i].m) (zI h.za[i].pc) (T i).1 (T i).2 (.bool h.za[i].zv))
 ts:∀i,(hi:i<h.za.length)->zk B w (T i).1 h.za[i].zg/\zk B w (T i).2 h.za[i].zf
 sd:zk B w vsd h.zm
 lo:∀x:jw,x.ok h.za.length->∀g,x.at bl br vcs vsd C D T=some g->B<=g/\g<w.heap.size
 ap:∀x y:jw,x.ok h.za.length->y.ok h.za.length->∀g,x.at bl br vcs vsd C D T=some g->y.at bl br vcs vsd C D T=some g->x=y
variable {B:Nat} {w w':World} {bl br:Nat} {vp vcs vsd:Value} {C D:Nat->Nat} {T:Nat->Value × Value} {h h':Hp}
theorem LV.kept (k:LV B w bl br vp vcs vsd C D T h) (vJ:w.heap.size<=w'.heap.size) (hb:∀x:jw,x.ok h.za.length->∀g,x.at bl br vcs vsd C D T=some g->w'.heap[g]?=w.heap[g]?):LV B w' bl br vp vcs vsd C D T h :=
 ⟨k.hp.of_block (hb .heap trivial _ rfl),k.rn.of_block (hb .run trivial _ rfl),k.row.kept vJ (hb .row trivial),fun i hi=>(k.cl i hi).of_block (hb (.call i) hi _ rfl),fun i hi=>(k.bd i hi).of_block (hb (.body i) hi _ rfl),fun i hi=>⟨(k.ts i hi).1.kept vJ (hb (.zg i) hi),(k.ts i hi).2.kept vJ (hb (.zf i) hi)⟩,k.sd.kept vJ (hb .zm trivial),fun x hx g hg=>⟨(k.lo x hx g hg).1,Nat.lt_of_lt_of_le (k.lo x hx g hg).2 vJ⟩,k.ap⟩
theorem LV.below (k:LV B w bl br vp vcs vsd C D T h) (hb:zO w w'):LV B w' bl br vp vcs vsd C D T h :=
 k.kept hb.size fun x hx g hg=>hb.block g (k.lo x hx g hg).2
theorem LV.other (k:LV B w bl br vp vcs vsd C D T h) {x y:jw} (hx:x.ok h.za.length) (hy:y.ok h.za.length) (qF:x≠y) {g g':Nat} (e:x.at bl br vcs vsd C D T=some g) (e':y.at bl br vcs vsd C D T=some g'):g≠g':=fun q=>qF (k.ap x y hx hy g e (by rw[q];exact e'))
theorem LV.num (k:LV B w bl br vp vcs vsd C D T h) {i:Nat} {x:Int} (hc:h'.za=h.za) (hs:h'.zm=h.zm) (hn:h'.now=h.now)
 (hR:(w.setCell (zH br i) (zI x)).rowIs br 90 5 (kq vp (.iface 98 (zJ bl 0)) (zI h'.born) vsd (zI h'.code))):LV B (w.setCell (zH br i) (zI x)) bl br vp vcs vsd C D T h':=by
 obtain⟨cs,now,born,zm,code⟩:=h
 obtain⟨cs',now',born',said',code'⟩:=h'
 simp only at hc hs hn
 subst hc hs hn
 have hz:w.heap.size<=(w.setCell (zH br i) (zI x)).heap.size:=by simp[World.setCell]
 have hbl:∀y:jw,y.ok cs'.length->y≠.run->∀g,y.at bl br vcs vsd C D T=some g->(w.setCell (zH br i) (zI x)).heap[g]?=w.heap[g]?:=fun y hy qF g hg=>Below.heap_setCell _ _ _ _ (fun q=>k.other (x:=y) (y:=.run) hy trivial qF hg rfl q)
 exact⟨k.hp.of_block (hbl .heap trivial (by simp) _ rfl),hR,k.row.kept hz (hbl .row trivial (by simp)),fun i hi=>(k.cl i hi).of_block (hbl (.call i) hi (by simp) _ rfl),fun i hi=>(k.bd i hi).of_block (hbl (.body i) hi (by simp) _ rfl),fun i hi=>⟨(k.ts i hi).1.kept hz (hbl (.zg i) hi (by simp)),(k.ts i hi).2.kept hz (hbl (.zf i) hi (by simp))⟩,k.sd.kept hz (hbl .zm trivial (by simp)),fun y hy g hg=>⟨(k.lo y hy g hg).1,Nat.lt_of_lt_of_le (k.lo y hy g hg).2 hz⟩,k.ap⟩
theorem LV.turn (k:LV B w bl br vp vcs vsd C D T h) {j:Nat} (hj:j<h.za.length) {c:Cl} {vt vs:Value} (hc:c.zi=h.za[j].zi) (vJ:w.heap.size<=w'.heap.size)
 (hbl:∀g,g<w.heap.size->g≠D j->(T j).1.ownBlock≠some g->(T j).2.ownBlock≠some g->w'.heap[g]?=w.heap[g]?)
 (hbd:w'.rowIs (D j) 186 5 (kq (zI c.m) (zI c.pc) vt vs (.bool c.zv))) (ht:zk B w' vt c.zg) (hs:zk B w' vs c.zf)
 (nt:∀q,vt.ownBlock=some q->(T j).1.ownBlock=some q\/(T j).2.ownBlock=some q\/w.heap.size<=q) (ns:∀q,vs.ownBlock=some q->(T j).1.ownBlock=some q\/(T j).2.ownBlock=some q\/w.heap.size<=q)
 (nn:∀q,vt.ownBlock=some q->vs.ownBlock≠some q):LV B w' bl br vp vcs vsd C D (xT T j (vt,vs)) {h with za:=h.za.set j c}:=by
 have hl:(h.za.set j c).length=h.za.length:=List.length_set
 have hsame:∀y:jw,y≠.zg j->y≠.zf j->y.at bl br vcs vsd C D (xT T j (vt,vs))=y.at bl br vcs vsd C D T:=fun y h1 h2=>by
  cases y with
  | zg i=>simp only[jw.at];rw[qJ _ _ (fun e=>h1 (by rw[e]))]
  | zf i=>simp only[jw.at];rw[qJ _ _ (fun e=>h2 (by rw[e]))]
  | _=>rfl
 have hT1:(jw.zg j).at bl br vcs vsd C D (xT T j (vt,vs))=vt.ownBlock:=by simp only[jw.at,xk]
 have hT2:(jw.zf j).at bl br vcs vsd C D (xT T j (vt,vs))=vs.ownBlock:=by simp only[jw.at,xk]
 have hold:∀y:jw,y.ok h.za.length->y≠.zg j->y≠.zf j->∀g,y.at bl br vcs vsd C D T=some g->(T j).1.ownBlock≠some g/\(T j).2.ownBlock≠some g/\g<w.heap.size:=fun y hy h1 h2 g hg =>
  ⟨fun e=>h1 (k.ap y (.zg j) hy hj g hg e),fun e=>h2 (k.ap y (.zf j) hy hj g hg e),(k.lo y hy g hg).2⟩
 have hkeep:∀y:jw,y.ok h.za.length->y≠.zg j->y≠.zf j->y≠.body j->∀g,y.at bl br vcs vsd C D T=some g->w'.heap[g]?=w.heap[g]?:=fun y hy h1 h2 h3 g hg=>by
  obtain⟨a1,a2,a3⟩:=hold y hy h1 h2 g hg
  exact hbl g a3 (fun e=>h3 (k.ap y (.body j) hy hj g hg (by rw[e];rfl))) a1 a2
 have hnew:∀g,vt.ownBlock=some g\/vs.ownBlock=some g->∀y:jw,y.ok h.za.length->y≠.zg j->y≠.zf j->y.at bl br vcs vsd C D T≠some g:=fun g hg y hy h1 h2 e=>by
  obtain⟨a1,a2,a3⟩:=hold y hy h1 h2 g e
  rcases hg with hg | hg
  ·rcases nt g hg with x | x | x
   ·exact a1 x
   ·exact a2 x
   ·omega
  ·rcases ns g hg with x | x | x
   ·exact a1 x
   ·exact a2 x
   ·omega
 have hlo:∀y:jw,y.ok h.za.length->∀g,y.at bl br vcs vsd C D (xT T j (vt,vs))=some g->B<=g/\g<w'.heap.size:=fun y hy g hg=>by
  by_cases e1:y=.zg j
  ·subst e1;rw[hT1] at hg;exact ht.lt g hg
  by_cases e2:y=.zf j
  ·subst e2;rw[hT2] at hg;exact hs.lt g hg
  rw[hsame y e1 e2] at hg
  have:=k.lo y hy g hg
  omega
 have hap:∀x y:jw,x.ok h.za.length->y.ok h.za.length->∀g,x.at bl br vcs vsd C D (xT T j (vt,vs))=some g->y.at bl br vcs vsd C D (xT T j (vt,vs))=some g->x=y:=fun x y hx hy g hgx xD=>by
  by_cases x1:x=.zg j
  ·subst x1
   rw[hT1] at hgx
   by_cases y1:y=.zg j
   ·exact y1.symm
   by_cases y2:y=.zf j
   ·subst y2;rw[hT2] at xD;exact absurd xD (nn g hgx)
   rw[hsame y y1 y2] at xD
   exact absurd xD (hnew g (.inl hgx) y hy y1 y2)
  by_cases x2:x=.zf j
  ·subst x2
   rw[hT2] at hgx
   by_cases y1:y=.zg j
   ·subst y1;rw[hT1] at xD;exact absurd hgx (nn g xD)
   by_cases y2:y=.zf j
   ·exact y2.symm
   rw[hsame y y1 y2] at xD
   exact absurd xD (hnew g (.inr hgx) y hy y1 y2)
  rw[hsame x x1 x2] at hgx
  by_cases y1:y=.zg j
  ·subst y1;rw[hT1] at xD;exact absurd hgx (hnew g (.inl xD) x hx x1 x2)
  by_cases y2:y=.zf j
  ·subst y2;rw[hT2] at xD;exact absurd hgx (hnew g (.inr xD) x hx x1 x2)
  rw[hsame y y1 y2] at xD
  exact k.ap x y hx hy g hgx xD
 refine⟨k.hp.of_block (hkeep .heap trivial (by simp) (by simp) (by simp) _ rfl),k.rn.of_block (hkeep .run trivial (by simp) (by simp) (by simp) _ rfl),?_,fun i hi=>?_,fun i hi=>?_,fun i hi=>?_,k.sd.kept vJ (hkeep .zm trivial (by simp) (by simp) (by simp)),?_,?_⟩
 ·simp only[hl]
  exact k.row.kept vJ (hkeep .row trivial (by simp) (by simp) (by simp))
 ·simp only[hl] at hi
  have h0:=(k.cl i hi).of_block (hkeep (.call i) hi (by simp) (by simp) (by simp) _ rfl)
  by_cases e:j=i
  ·subst e;simp only[List.getElem_set_self];rw[hc];exact h0
  ·simp only[List.getElem_set_ne e];exact h0
 ·simp only[hl] at hi
  by_cases e:j=i
  ·subst e;simp only[List.getElem_set_self,xk];exact hbd
  ·simp only[List.getElem_set_ne e,qJ T (vt,vs) (Ne.symm e)]
   exact(k.bd i hi).of_block (hkeep (.body i) hi (by simp) (by simp) (fun q=>e (by injection q with q;exact q.symm)) _ rfl)
 ·simp only[hl] at hi
  by_cases e:j=i
  ·subst e;simp only[List.getElem_set_self,xk];exact⟨ht,hs⟩
  ·simp only[List.getElem_set_ne e,qJ T (vt,vs) (Ne.symm e)]
   exact⟨(k.ts i hi).1.kept vJ (hkeep (.zg i) hi (fun q=>e (by injection q with q;exact q.symm)) (by simp) (by simp)),(k.ts i hi).2.kept vJ (hkeep (.zf i) hi (by simp) (fun q=>e (by injection q with q;exact q.symm)) (by simp))⟩
 ·simp only[hl];exact hlo
 ·simp only[hl];exact hap
theorem LV.say (k:LV B w bl br vp vcs vsd C D T h) (v':Value) (sd':yH) (vJ:w.heap.size<=w'.heap.size) (hbl:∀g,g<w.heap.size->vsd.ownBlock≠some g->w'.heap[g]?=w.heap[g]?) (hr:zk B w' v' sd') (hv:∀q,v'.ownBlock=some q->vsd.ownBlock=some q\/w.heap.size<=q) :
 LV B (w'.setCell (zH br 3) v') bl br vp vcs v' C D T {h with zm:=sd'}:=by
 have hz:w.heap.size<=(w'.setCell (zH br 3) v').heap.size:=by simp[World.setCell];exact vJ
 have hsame:∀y:jw,y≠.zm->y.at bl br vcs v' C D T=y.at bl br vcs vsd C D T:=fun y h1=>by cases y <;> first | rfl | exact absurd rfl h1
 have zdR:∀y:jw,y.ok h.za.length->y≠.zm->∀g,y.at bl br vcs vsd C D T=some g->w'.heap[g]?=w.heap[g]?:=fun y hy h1 g hg=>hbl g (k.lo y hy g hg).2 (fun e=>h1 (k.ap y .zm hy trivial g hg e))
 have hkeep:∀y:jw,y.ok h.za.length->y≠.zm->y≠.run->∀g,y.at bl br vcs vsd C D T=some g->(w'.setCell (zH br 3) v').heap[g]?=w.heap[g]?:=fun y hy h1 h2 g hg=>(Below.heap_setCell _ _ _ _ (fun q=>k.other (x:=y) (y:=.run) hy trivial h2 hg rfl q)).trans (zdR y hy h1 g hg)
 have hnew:∀g,v'.ownBlock=some g->∀y:jw,y.ok h.za.length->y≠.zm->y.at bl br vcs vsd C D T≠some g:=fun g hg y hy h1 e=>by
  rcases hv g hg with x | x
  ·exact h1 (k.ap y .zm hy trivial g e x)
  ·have:=(k.lo y hy g e).2;omega
 have hvr:v'.ownBlock≠some br:=fun e=>hnew br e .run trivial (by simp) rfl
 refine⟨k.hp.of_block (hkeep .heap trivial (by simp) (by simp) _ rfl),kP (k.rn.of_block (zdR .run trivial (by simp) _ rfl)) v',k.row.kept hz (hkeep .row trivial (by simp) (by simp)),fun i hi=>(k.cl i hi).of_block (hkeep (.call i) hi (by simp) (by simp) _ rfl),fun i hi=>(k.bd i hi).of_block (hkeep (.body i) hi (by simp) (by simp) _ rfl),fun i hi=>⟨(k.ts i hi).1.kept hz (hkeep (.zg i) hi (by simp) (by simp)),(k.ts i hi).2.kept hz (hkeep (.zf i) hi (by simp) (by simp))⟩,hr.set_other _ hvr,fun x hx g hg=>?_,fun x y hx hy g hgx xD=>?_⟩
 ·by_cases e1:x=.zm
  ·subst e1
   have:=hr.lt g hg
   exact⟨this.1,by simp[World.setCell];exact this.2⟩
  ·rw[hsame x e1] at hg
   have:=k.lo x hx g hg
   exact⟨this.1,by omega⟩
 ·by_cases x1:x=.zm
  ·subst x1
   by_cases y1:y=.zm
   ·exact y1.symm
   ·rw[hsame y y1] at xD
    exact absurd xD (hnew g hgx y hy y1)
  ·rw[hsame x x1] at hgx
   by_cases y1:y=.zm
   ·subst y1
    exact absurd hgx (hnew g xD x hx x1)
   ·rw[hsame y y1] at xD
    exact k.ap x y hx hy g hgx xD
theorem LV.now (k:LV B w bl br vp vcs vsd C D T h) (a:Int) (v:Value) (hv:v=jd C a):LV B (w.setCell (zH bl 1) v) bl br vp vcs vsd C D T {h with now:=a}:=by
 subst hv
 have hz:w.heap.size<=(w.setCell (zH bl 1) (jd C a)).heap.size:=by simp[World.setCell]
 have hbl:∀y:jw,y.ok h.za.length->y≠.heap->∀g,y.at bl br vcs vsd C D T=some g->(w.setCell (zH bl 1) (jd C a)).heap[g]?=w.heap[g]?:=fun y hy qF g hg=>Below.heap_setCell _ _ _ _ (fun q=>k.other (x:=y) (y:=.heap) hy trivial qF hg rfl q)
 exact⟨(k.hp.set 1 (jd C a)).congr fun i hi=>by match i,hi with | 0,_=>rfl | 1,_=>rfl,k.rn.of_block (hbl .run trivial (by simp) _ rfl),k.row.kept hz (hbl .row trivial (by simp)),fun i hi=>(k.cl i hi).of_block (hbl (.call i) hi (by simp) _ rfl),fun i hi=>(k.bd i hi).of_block (hbl (.body i) hi (by simp) _ rfl),fun i hi=>⟨(k.ts i hi).1.kept hz (hbl (.zg i) hi (by simp)),(k.ts i hi).2.kept hz (hbl (.zf i) hi (by simp))⟩,k.sd.kept hz (hbl .zm trivial (by simp)),fun y hy g hg=>⟨(k.lo y hy g hg).1,Nat.lt_of_lt_of_le (k.lo y hy g hg).2 hz⟩,k.ap⟩
theorem LV.snd (k:LV B w bl br vp vcs vsd C D T h) {j:Nat} (hj:j<h.za.length) (a:Int) (v:Value) (hv:v=jd C a):LV B (w.setCell (zH (C j) 2) v) bl br vp vcs vsd C D T {h with za:=h.za.set j {h.za[j] with zi:=a}}:=by
 subst hv
 have hl:(h.za.set j {h.za[j] with zi:=a}).length=h.za.length:=List.length_set
 have hz:w.heap.size<=(w.setCell (zH (C j) 2) (jd C a)).heap.size:=by simp[World.setCell]
 have hbl:∀y:jw,y.ok h.za.length->y≠.call j->∀g,y.at bl br vcs vsd C D T=some g->(w.setCell (zH (C j) 2) (jd C a)).heap[g]?=w.heap[g]?:=fun y hy qF g hg=>Below.heap_setCell _ _ _ _ (fun q=>k.other (x:=y) (y:=.call j) hy hj qF hg rfl q)
 have hgt:∀i,(hi:i<h.za.length)->((h.za.set j {h.za[j] with zi:=a})[i]'(by rw[hl];exact hi)).m=h.za[i].m/\((h.za.set j {h.za[j] with zi:=a})[i]'(by rw[hl];exact hi)).pc=h.za[i].pc/\((h.za.set j {h.za[j] with zi:=a})[i]'(by rw[hl];exact hi)).zg=h.za[i].zg/\((h.za.set j {h.za[j] with zi:=a})[i]'(by rw[hl];exact hi)).zf=h.za[i].zf/\((h.za.set j {h.za[j] with zi:=a})[i]'(by rw[hl];exact hi)).zv=h.za[i].zv:=fun i hi=>by
  by_cases e:j=i
  ·subst e;simp
  ·simp[List.getElem_set_ne e]
 refine⟨k.hp.of_block (hbl .heap trivial (by simp) _ rfl),k.rn.of_block (hbl .run trivial (by simp) _ rfl),?_,fun i hi=>?_,fun i hi=>?_,fun i hi=>?_,k.sd.kept hz (hbl .zm trivial (by simp)),?_,?_⟩
 ·simp only[hl];exact k.row.kept hz (hbl .row trivial (by simp))
 ·simp only[hl] at hi
  by_cases e:j=i
  ·subst e;simp only[List.getElem_set_self];exact Uc (k.cl j hi) (jd C a)
  ·simp only[List.getElem_set_ne e]
   exact(k.cl i hi).of_block (hbl (.call i) hi (fun q=>e (by injection q with q;exact q.symm)) _ rfl)
 ·simp only[hl] at hi
  obtain⟨g1,g2,g3,g4,g5⟩:=hgt i hi
  rw[g1,g2,g5]
  exact(k.bd i hi).of_block (hbl (.body i) hi (by simp) _ rfl)
 ·simp only[hl] at hi
  obtain⟨g1,g2,g3,g4,g5⟩:=hgt i hi
  rw[g3,g4]
  exact⟨(k.ts i hi).1.kept hz (hbl (.zg i) hi (by simp)),(k.ts i hi).2.kept hz (hbl (.zf i) hi (by simp))⟩
 ·simp only[hl];exact fun y hy g hg=>⟨(k.lo y hy g hg).1,Nat.lt_of_lt_of_le (k.lo y hy g hg).2 hz⟩
 ·simp only[hl];exact k.ap
def jf (C:Nat->Nat) (n c:Nat):Nat->Nat:=fun i=>if i=n then c else C i
theorem xK (C:Nat->Nat) (n c:Nat):jf C n c n=c:=if_pos rfl
theorem xh (C:Nat->Nat) {n c i:Nat} (h:i≠n):jf C n c i=C i:=if_neg h
theorem V6 (C:Nat->Nat) (n c:Nat):wY (jf C n c) (n+1)=wY C n ++ [zJ c 0]:=by
 unfold wY
 rw[List.range_succ,List.map_append,List.map_singleton,xK]
 congr 1
 exact List.map_congr_left fun i hi=>by rw[xh _ (by simp at hi;omega)]
theorem V5 {C:Nat->Nat} {n c:Nat} {a:Int} (h:a<(n:Int)):jd (jf C n c) a=jd C a:=by
 unfold jd
 by_cases e:a<0
 ·rw[if_pos e,if_pos e]
 ·rw[if_neg e,if_neg e,xh _ (by omega)]
theorem LV.enter (k:LV B w bl br vp vcs vsd C D T h) {c d:Nat} {vt xt:Value} {cl:Cl} (hst:cl.zf=[]) (hsn:cl.zi=h.now) (uZ:h.now<(h.za.length:Int)) (hsd:∀i,(hi:i<h.za.length)->h.za[i].zi<(h.za.length:Int))
 (hB:B<=w.heap.size) (hc:w.heap.size<=c) (hd:w.heap.size<=d) (hcd:c≠d) (vJ:w.heap.size<=w'.heap.size) (hbl:∀g,g<w.heap.size->g≠bl->vcs.ownBlock≠some g->w'.heap[g]?=w.heap[g]?)
 (hhp:w'.rowIs bl 105 2 (Jn xt (zJ c 0))) (zT:yg B 1 w' xt (h.za.length+1) (wY C h.za.length ++ [zJ c 0]))
 (hcl:w'.rowIs c 159 3 (Vy (zJ d 0) (zI h.za.length) (jd C h.now)))
 (hbd:w'.rowIs d 186 5 (kq (zI cl.m) (zI cl.pc) vt (zQ) (.bool cl.zv))) (ht:zk B w' vt cl.zg)
 (nv:∀q,xt.ownBlock=some q->vcs.ownBlock=some q\/(w.heap.size<=q/\q≠c/\q≠d)) (nt:∀q,vt.ownBlock=some q->w.heap.size<=q/\q≠c/\q≠d/\xt.ownBlock≠some q) :
 LV B w' bl br vp xt vsd (jf C h.za.length c) (jf D h.za.length d) (xT T h.za.length (vt,zQ)) {h with za:=h.za ++ [cl],now:=(h.za.length:Int)}:=by
 obtain⟨cs,now,born,zm,code⟩:=h
 simp only at *
 have hl:(cs ++ [cl]).length=cs.length+1:=by simp
 have hold:∀y:jw,y.ok cs.length->y≠.row->y.at bl br xt vsd (jf C cs.length c) (jf D cs.length d) (xT T cs.length (vt,zQ))=y.at bl br vcs vsd C D T:=fun y hy h1=>by
  cases y with
  | row=>exact absurd rfl h1
  | call i=>simp only[jw.at];rw[xh _ (by have:i<cs.length:=hy;omega)]
  | body i=>simp only[jw.at];rw[xh _ (by have:i<cs.length:=hy;omega)]
  | zg i=>simp only[jw.at];rw[qJ _ _ (by have:i<cs.length:=hy;omega)]
  | zf i=>simp only[jw.at];rw[qJ _ _ (by have:i<cs.length:=hy;omega)]
  | _=>rfl
 have UC:∀y:jw,y.ok (cs.length+1)->¬y.ok cs.length->y=.call cs.length\/y=.body cs.length\/y=.zg cs.length\/y=.zf cs.length:=fun y h1 h2=>by
  cases y with
  | call i=>left;have q1:i<cs.length+1:=h1;have q2:¬i<cs.length:=h2;congr 1;omega
  | body i=>right;left;have q1:i<cs.length+1:=h1;have q2:¬i<cs.length:=h2;congr 1;omega
  | zg i=>right;right;left;have q1:i<cs.length+1:=h1;have q2:¬i<cs.length:=h2;congr 1;omega
  | zf i=>right;right;right;have q1:i<cs.length+1:=h1;have q2:¬i<cs.length:=h2;congr 1;omega
  | _=>exact absurd trivial h2
 have aC:(jw.call cs.length).at bl br xt vsd (jf C cs.length c) (jf D cs.length d) (xT T cs.length (vt,zQ))=some c:=by simp only[jw.at,xK]
 have aD:(jw.body cs.length).at bl br xt vsd (jf C cs.length c) (jf D cs.length d) (xT T cs.length (vt,zQ))=some d:=by simp only[jw.at,xK]
 have aT:(jw.zg cs.length).at bl br xt vsd (jf C cs.length c) (jf D cs.length d) (xT T cs.length (vt,zQ))=vt.ownBlock:=by simp only[jw.at,xk]
 have aS:(jw.zf cs.length).at bl br xt vsd (jf C cs.length c) (jf D cs.length d) (xT T cs.length (vt,zQ))=none:=by simp only[jw.at,xk];rfl
 have hkeep:∀y:jw,y.ok cs.length->y≠.row->y≠.heap->∀g,y.at bl br vcs vsd C D T=some g->w'.heap[g]?=w.heap[g]?:=fun y hy h1 h2 g hg =>
  hbl g (k.lo y hy g hg).2 (fun e=>h2 (k.ap y .heap hy trivial g hg (by rw[e];rfl))) (fun e=>h1 (k.ap y .row hy trivial g hg e))
 -- where the row lies
 have hrw:∀y:jw,y.ok cs.length->y≠.row->∀g,y.at bl br vcs vsd C D T=some g->xt.ownBlock≠some g:=fun y hy h1 g hg e=>by
  rcases nv g e with x | x
  ·exact h1 (k.ap y .row hy trivial g hg x)
  ·have:=(k.lo y hy g hg).2;omega
 have hlow:∀y:jw,y.ok cs.length->y≠.row->∀g,y.at bl br vcs vsd C D T=some g->g≠c/\g≠d/\vt.ownBlock≠some g:=fun y hy h1 g hg=>by
  have h2:=(k.lo y hy g hg).2
  exact⟨by omega,by omega,fun e=>by have:=(nt g e).1;omega⟩
 have hrn:xt.ownBlock≠some c/\xt.ownBlock≠some d:=by
  refine⟨fun e=>?_,fun e=>?_⟩
  ·rcases nv c e with x | x
   ·have:=(k.lo .row trivial c x).2;omega
   ·exact x.2.1 rfl
  ·rcases nv d e with x | x
   ·have:=(k.lo .row trivial d x).2;omega
   ·exact x.2.2 rfl
 have zdI:∀x y:jw,x.ok cs.length->y.ok (cs.length+1)->¬y.ok cs.length->∀g,x.at bl br xt vsd (jf C cs.length c) (jf D cs.length d) (xT T cs.length (vt,zQ))=some g->y.at bl br xt vsd (jf C cs.length c) (jf D cs.length d) (xT T cs.length (vt,zQ))=some g->False:=fun x y hx hy hny g hgx xD=>by
  have YR:g≠c/\g≠d/\vt.ownBlock≠some g:=by
   by_cases x1:x=.row
   ·subst x1
    have e:xt.ownBlock=some g:=hgx
    exact⟨fun q=>hrn.1 (by rw[<-q];exact e),fun q=>hrn.2 (by rw[<-q];exact e),fun q=>(nt g q).2.2.2 e⟩
   ·rw[hold x hx x1] at hgx
    exact hlow x hx x1 g hgx
  rcases UC y hy hny with rfl | rfl | rfl | rfl
  ·rw[aC] at xD;injection xD with q;exact YR.1 q.symm
  ·rw[aD] at xD;injection xD with q;exact YR.2.1 q.symm
  ·rw[aT] at xD;exact YR.2.2 xD
  ·rw[aS] at xD;cases xD
 have hap:∀x y:jw,x.ok (cs.length+1)->y.ok (cs.length+1)->∀g,x.at bl br xt vsd (jf C cs.length c) (jf D cs.length d) (xT T cs.length (vt,zQ))=some g->y.at bl br xt vsd (jf C cs.length c) (jf D cs.length d) (xT T cs.length (vt,zQ))=some g->x=y:=fun x y hx hy g hgx xD=>by
  by_cases x1:x.ok cs.length
  ·by_cases y1:y.ok cs.length
   ·by_cases x2:x=.row
    ·subst x2
     by_cases y2:y=.row
     ·exact y2.symm
     ·rw[hold y y1 y2] at xD;exact absurd hgx (hrw y y1 y2 g xD)
    ·rw[hold x x1 x2] at hgx
     by_cases y2:y=.row
     ·subst y2;exact absurd xD (hrw x x1 x2 g hgx)
     ·rw[hold y y1 y2] at xD;exact k.ap x y x1 y1 g hgx xD
   ·exact(zdI x y x1 hy y1 g hgx xD).elim
  ·by_cases y1:y.ok cs.length
   ·exact(zdI y x y1 hx x1 g xD hgx).elim
   ·rcases UC x hx x1 with rfl | rfl | rfl | rfl <;> rcases UC y hy y1 with rfl | rfl | rfl | rfl
    ·rfl
    ·rw[aC] at hgx;rw[aD] at xD;injection hgx with q;injection xD with q';omega
    ·rw[aC] at hgx;rw[aT] at xD;injection hgx with q;exact absurd q.symm (nt g xD).2.1
    ·rw[aS] at xD;cases xD
    ·rw[aD] at hgx;rw[aC] at xD;injection hgx with q;injection xD with q';omega
    ·rfl
    ·rw[aD] at hgx;rw[aT] at xD;injection hgx with q;exact absurd q.symm (nt g xD).2.2.1
    ·rw[aS] at xD;cases xD
    ·rw[aC] at xD;rw[aT] at hgx;injection xD with q;exact absurd q.symm (nt g hgx).2.1
    ·rw[aD] at xD;rw[aT] at hgx;injection xD with q;exact absurd q.symm (nt g hgx).2.2.1
    ·rfl
    ·rw[aS] at xD;cases xD
    ·rw[aS] at hgx;cases hgx
    ·rw[aS] at hgx;cases hgx
    ·rw[aS] at hgx;cases hgx
    ·rfl
 refine⟨?_,k.rn.of_block (hkeep .run trivial (by simp) (by simp) _ rfl),?_,fun i hi=>?_,fun i hi=>?_,fun i hi=>?_,k.sd.kept vJ (hkeep .zm trivial (by simp) (by simp)),?_,?_⟩
 ·rw[u9,xK];exact hhp
 ·simp only[hl];rw[V6];exact zT
 ·simp only[hl] at hi
  by_cases e:i<cs.length
  ·have e':i<cs.length:=by omega
   simp only[List.getElem_append_left e']
   rw[xh _ (by omega),xh _ (by omega),V5 (hsd i e')]
   exact(k.cl i e').of_block (hkeep (.call i) e (by simp) (by simp) _ rfl)
  ·have e2:i=cs.length:=by omega
   subst e2
   have e3:(cs ++ [cl])[cs.length]'(by rw[hl];omega)=cl:=by rw[List.getElem_append_right (by omega)];simp
   simp only[e3]
   rw[xK,xK,hsn,V5 uZ]
   exact hcl
 ·simp only[hl] at hi
  by_cases e:i<cs.length
  ·have e':i<cs.length:=by omega
   simp only[List.getElem_append_left e']
   rw[xh _ (by omega),qJ _ _ (by omega)]
   exact(k.bd i e').of_block (hkeep (.body i) e (by simp) (by simp) _ rfl)
  ·have e2:i=cs.length:=by omega
   subst e2
   have e3:(cs ++ [cl])[cs.length]'(by rw[hl];omega)=cl:=by rw[List.getElem_append_right (by omega)];simp
   simp only[e3]
   rw[xK,xk]
   exact hbd
 ·simp only[hl] at hi
  by_cases e:i<cs.length
  ·have e':i<cs.length:=by omega
   simp only[List.getElem_append_left e']
   rw[qJ _ _ (by omega)]
   exact⟨(k.ts i e').1.kept vJ (hkeep (.zg i) e (by simp) (by simp)),(k.ts i e').2.kept vJ (hkeep (.zf i) e (by simp) (by simp))⟩
  ·have e2:i=cs.length:=by omega
   subst e2
   have e3:(cs ++ [cl])[cs.length]'(by rw[hl];omega)=cl:=by rw[List.getElem_append_right (by omega)];simp
   simp only[e3]
   rw[xk,hst]
   exact⟨ht,zk.nil _ _⟩
 ·simp only[hl]
  intro x hx g hg
  by_cases x1:x.ok cs.length
  ·by_cases x2:x=.row
   ·subst x2
    exact zT.lt g hg
   ·rw[hold x x1 x2] at hg
    have:=k.lo x x1 g hg
    omega
  ·rcases UC x hx x1 with rfl | rfl | rfl | rfl
   ·rw[aC] at hg;injection hg with q;subst q;exact⟨by omega,hcl.lt⟩
   ·rw[aD] at hg;injection hg with q;subst q;exact⟨by omega,hbd.lt⟩
   ·rw[aT] at hg;exact ht.lt g hg
   ·rw[aS] at hg;cases hg
 ·simp only[hl];exact hap
def yu (bl br:Nat) (vcs vsd:Value) (C D:Nat->Nat) (T:Nat->Value × Value) (n:Nat) (g:Nat):Prop:=∃x:jw,x.ok n/\x.at bl br vcs vsd C D T=some g
structure vV (B:Nat) (P P':Nat->Prop) (w w':World):Prop where
 b:Below B w w'
 keep:∀g,g<w.heap.size->¬P g->w'.heap[g]?=w.heap[g]?
 own:∀g,P' g->P g\/w.heap.size<=g
theorem vV.refl (B:Nat) (P:Nat->Prop) (w:World):vV B P P w w:=⟨zS,fun _ _ _=>rfl,fun _ h=>.inl h⟩
theorem vV.trans {B:Nat} {P P' P'':Nat->Prop} {a b c:World} (h:vV B P P' a b) (k:vV B P' P'' b c):vV B P P'' a c :=
 ⟨h.b.trans k.b,fun g hg hn=>(k.keep g (Nat.lt_of_lt_of_le hg h.b.size) (fun e=>by rcases h.own g e with x | x;exact hn x;omega)).trans (h.keep g hg hn),fun g e=>by
  rcases k.own g e with x | x
  ·exact h.own g x
  ·have:=h.b.size;exact .inr (by omega)⟩
theorem vV.of_below {B:Nat} {P:Nat->Prop} {w w':World} (hB:B<=w.heap.size) (hb:zO w w'):vV B P P w w':=⟨hb.mono hB,fun g hg _=>hb.block g hg,fun _ h=>.inl h⟩
theorem vV.set {B:Nat} {P:Nat->Prop} {w:World} {p:Addr} (hp:P p.block) (hB:B<=p.block) (u:Value):vV B P P w (w.setCell p u) :=
 ⟨zS.setCell hB u,fun _ _ hn=>Below.heap_setCell _ _ _ _ (fun e=>hn (by rw[e];exact hp)),fun _ h=>.inl h⟩
theorem vV.row {B:Nat} {P P':Nat->Prop} {w w':World} (h:vV B P P' w w') {g:Nat} {t:TypeId} {n:Nat} {f:Nat->Value} (hr:w.rowIs g t n f) (hg:¬P g):w'.rowIs g t n f:=hr.of_block (h.keep g hr.lt hg)
variable {B:Nat} {w w':World} {bl br:Nat} {vp vcs vsd:Value} {C D:Nat->Nat} {T:Nat->Value × Value} {h h':Hp}
theorem LV.new (k:LV B w bl br vp vcs vsd C D T h) {g:Nat} (hg:w.heap.size<=g):¬yu bl br vcs vsd C D T h.za.length g:=fun⟨x,hx,e⟩=>by have:=(k.lo x hx g e).2;omega
theorem LV.turn_go {j:Nat} (hj:j<h.za.length) {vt vs:Value} (hb:Below B w w')
 (hbl:∀g,g<w.heap.size->g≠D j->(T j).1.ownBlock≠some g->(T j).2.ownBlock≠some g->w'.heap[g]?=w.heap[g]?)
 (nt:∀q,vt.ownBlock=some q->(T j).1.ownBlock=some q\/(T j).2.ownBlock=some q\/w.heap.size<=q) (ns:∀q,vs.ownBlock=some q->(T j).1.ownBlock=some q\/(T j).2.ownBlock=some q\/w.heap.size<=q) :
 vV B (yu bl br vcs vsd C D T h.za.length) (yu bl br vcs vsd C D (xT T j (vt,vs)) h.za.length) w w':=by
 refine⟨hb,fun g hg hn=>hbl g hg (fun e=>hn ⟨.body j,hj,by rw[e];rfl⟩) (fun e=>hn ⟨.zg j,hj,e⟩) (fun e=>hn ⟨.zf j,hj,e⟩),fun g ⟨x,hx,e⟩=>?_⟩
 by_cases x1:x=.zg j
 ·subst x1
  simp only[jw.at,xk] at e
  rcases nt g e with q | q | q
  ·exact .inl ⟨.zg j,hj,q⟩
  ·exact .inl ⟨.zf j,hj,q⟩
  ·exact .inr q
 by_cases x2:x=.zf j
 ·subst x2
  simp only[jw.at,xk] at e
  rcases ns g e with q | q | q
  ·exact .inl ⟨.zg j,hj,q⟩
  ·exact .inl ⟨.zf j,hj,q⟩
  ·exact .inr q
 refine .inl ⟨x,hx,?_⟩
 rw[<-e]
 cases x with
 | zg i=>simp only[jw.at];rw[qJ _ _ (fun q=>x1 (by rw[q]))]
 | zf i=>simp only[jw.at];rw[qJ _ _ (fun q=>x2 (by rw[q]))]
 | _=>rfl
theorem LV.push (k:LV B w bl br vp vcs vsd C D T h) {j:Nat} (hj:j<h.za.length) {w2:World} {v':Value} {st:yH} (_hB:B<=w.heap.size) (hg:w.heap.size<=w2.heap.size) (hw:Below B w w2)
 (hbl:∀g,g<w.heap.size->(T j).2.ownBlock≠some g->w2.heap[g]?=w.heap[g]?) (hr:zk B w2 v' st) (hv:∀q,v'.ownBlock=some q->(T j).2.ownBlock=some q\/w.heap.size<=q) :
 LV B (w2.setCell (zH (D j) 3) v') bl br vp vcs vsd C D (xT T j ((T j).1,v')) {h with za:=h.za.set j {h.za[j] with zf:=st}}/\vV B (yu bl br vcs vsd C D T h.za.length) (yu bl br vcs vsd C D (xT T j ((T j).1,v')) h.za.length) w (w2.setCell (zH (D j) 3) v'):=by
 have hDl:=k.lo (.body j) hj (D j) rfl
 have hDs:(T j).2.ownBlock≠some (D j):=fun e=>by have:=k.ap (.zf j) (.body j) hj hj (D j) e rfl;cases this
 have hDt:(T j).1.ownBlock≠some (D j):=fun e=>by have:=k.ap (.zg j) (.body j) hj hj (D j) e rfl;cases this
 have hTS:∀q,(T j).1.ownBlock=some q->(T j).2.ownBlock≠some q:=fun q e e2=>by have:=k.ap (.zg j) (.zf j) hj hj q e e2;cases this
 have hvD:v'.ownBlock≠some (D j):=fun e=>by
  rcases hv _ e with x | x
  ·exact hDs x
  ·omega
 have hz:w.heap.size<=(w2.setCell (zH (D j) 3) v').heap.size:=by simp[World.setCell];exact hg
 have zdK:∀g,g<w.heap.size->g≠D j->(T j).1.ownBlock≠some g->(T j).2.ownBlock≠some g->(w2.setCell (zH (D j) 3) v').heap[g]?=w.heap[g]?:=fun g h1 h2 _ h4=>(Below.heap_setCell _ _ _ _ (fun e=>h2 e)).trans (hbl g h1 h4)
 have hbd:(w2.setCell (zH (D j) 3) v').rowIs (D j) 186 5 (kq (zI h.za[j].m) (zI h.za[j].pc) (T j).1 v' (.bool h.za[j].zv)):=kP ((k.bd j hj).of_block (hbl _ hDl.2 hDs)) v'
 have ht:=(k.ts j hj).1
 have ht':zk B (w2.setCell (zH (D j) 3) v') (T j).1 h.za[j].zg:=(ht.kept hg fun q e=>hbl q (ht.lt q e).2 (hTS q e)).set_other _ hDt
 have nt:∀q,(T j).1.ownBlock=some q->(T j).1.ownBlock=some q\/(T j).2.ownBlock=some q\/w.heap.size<=q:=fun q e=>.inl e
 have ns:∀q,v'.ownBlock=some q->(T j).1.ownBlock=some q\/(T j).2.ownBlock=some q\/w.heap.size<=q:=fun q e=>.inr (hv q e)
 have nn:∀q,(T j).1.ownBlock=some q->v'.ownBlock≠some q:=fun q e e2=>by
  rcases hv q e2 with x | x
  ·exact hTS q e x
  ·have:=(ht.lt q e).2;omega
 exact⟨k.turn hj rfl hz zdK hbd ht' (hr.set_other _ hvD) nt ns nn,LV.turn_go hj (hw.setCell (p:=zH (D j) 3) hDl.1 v') zdK nt ns⟩
theorem LV.say_go (k:LV B w bl br vp vcs vsd C D T h) (v':Value) (hb:Below B w w') (hbl:∀g,g<w.heap.size->vsd.ownBlock≠some g->w'.heap[g]?=w.heap[g]?) (hv:∀q,v'.ownBlock=some q->vsd.ownBlock=some q\/w.heap.size<=q) :
 vV B (yu bl br vcs vsd C D T h.za.length) (yu bl br vcs v' C D T h.za.length) w (w'.setCell (zH br 3) v'):=by
 have hr:=k.lo .run trivial br rfl
 refine⟨hb.setCell (p:=zH br 3) hr.1 v',fun g hg hn=>(Below.heap_setCell _ _ _ _ (fun e=>hn ⟨.run,trivial,by rw[e];rfl⟩)).trans (hbl g hg (fun e=>hn ⟨.zm,trivial,e⟩)),fun g ⟨x,hx,e⟩=>?_⟩
 by_cases x1:x=.zm
 ·subst x1
  rcases hv g e with q | q
  ·exact .inl ⟨.zm,trivial,q⟩
  ·exact .inr q
 ·refine .inl ⟨x,hx,?_⟩
  rw[<-e]
  cases x <;> first | rfl | exact absurd rfl x1
def ur (B:Nat) (w:World) (d:Nat) (vt vs:Value) (c:Cl):Prop :=
 w.rowIs d 186 5 (kq (zI c.m) (zI c.pc) vt vs (.bool c.zv))/\zk B w vt c.zg/\zk B w vs c.zf/\B<=d /\
 (∀g,vt.ownBlock=some g->g≠d/\vs.ownBlock≠some g)/\(∀g,vs.ownBlock=some g->g≠d)
theorem UL (c:Cl) (vt vs:Value) (w:World) (ht:yo w vt c.zg) (hs:yo w vs c.zf) (hl:c.zg.length<=1000/\c.zf.length<=1000) :
 Calls Tryz.prog 86 #[.agg #[zI c.m,zI c.pc,vt,vs,zI c.zi,.bool c.zv]] w fun e w'=>∃(d:Nat) (U5 vs':Value),e=.returned (zJ d 0)/\ur w.heap.size w' d U5 vs' c/\zO w w':=by
 obtain⟨at_,ct,jz⟩:=ht.shape
 obtain⟨uS,cs,km⟩:=hs.shape
 subst jz km
 have hA:zO w (w.alloc (.cells #[.int .i64 c.m,.int .i64 c.pc,.slice at_ c.zg.length ct,.slice uS c.zf.length cs,.int .i64 c.zi,.bool c.zv] 96)):=zR _ _
 have r1:=wb w 96 (.int .i64 c.m) (.int .i64 c.pc) (.slice at_ c.zg.length ct) (.slice uS c.zf.length cs) (.int .i64 c.zi) (.bool c.zv)
 have HT:Hid (yo w (.slice at_ c.zg.length ct) c.zg/\yo w (.slice uS c.zf.length cs) c.zf):=⟨ht,hs⟩
 have hzA:w.heap.size<(w.alloc (.cells #[.int .i64 c.m,.int .i64 c.pc,.slice at_ c.zg.length ct,.slice uS c.zf.length cs,.int .i64 c.zi,.bool c.zv] 96)).heap.size:=by simp
 clear ht hs
 go_enter Tryz.func86,Tryz.ntmps86
 go_upto_region 1 with fail
 generalize w.alloc (.cells #[.int .i64 c.m,.int .i64 c.pc,.slice at_ c.zg.length ct,.slice uS c.zf.length cs,.int .i64 c.zi,.bool c.zv] 96)=W at *
 obtain⟨⟨x0,x1,x2,x3,x4,x5⟩,_⟩:=jS r1
 have HS:∀w':World,zO W w'->((w'.cell? (zH w.heap.size 0)=some (zI c.m)/\w'.cell? (zH w.heap.size 1)=some (zI c.pc)/\w'.cell? (zH w.heap.size 2)=some (.slice at_ c.zg.length ct)/\w'.cell? (zH w.heap.size 3)=some (.slice uS c.zf.length cs)/\w'.cell? (zH w.heap.size 5)=some (.bool c.zv))/\zO W w'):=fun w' hb=>⟨⟨zc hb x0,zc hb x1,zc hb x2,zc hb x3,zc hb x5⟩,hb⟩
 have HCT:Hid (∀W',zO W W'->Calls Tryz.prog 46 #[.slice at_ c.zg.length ct] W' fun e w'=>∃v',e=.returned v'/\zk W'.heap.size w' v' c.zg/\zO W' w'):=fun W' hb=>uu _ _ _ (HT.out.1.below (hA.trans (hb.mono hA.size))) hl.1
 have HCS:Hid (∀W',zO W W'->Calls Tryz.prog 46 #[.slice uS c.zf.length cs] W' fun e w'=>∃v',e=.returned v'/\zk W'.heap.size w' v' c.zf/\zO W' w'):=fun W' hb=>uu _ _ _ (HT.out.2.below (hA.trans (hb.mono hA.size))) hl.2
 clear x0 x1 x2 x3 x4 x5 r1
 go_region_held3 (fun w'=>(w'.cell? (zH w.heap.size 0)=some (zI c.m)/\w'.cell? (zH w.heap.size 1)=some (zI c.pc)/\w'.cell? (zH w.heap.size 2)=some (.slice at_ c.zg.length ct)/\w'.cell? (zH w.heap.size 3)=some (.slice uS c.zf.length cs)/\w'.cell? (zH w.heap.size 5)=some (.bool c.zv))/\zO W w')
  ((refine HS _ ?_;first
   | (with_reducible exact(‹(_/\_/\_/\_/\_)/\zO W _›).2)
   | (with_reducible exact zS.drew)
   | (with_reducible exact QN)
   | (with_reducible exact hBS)
   | (with_reducible exact QN.alloc QN.size _)
   | (with_reducible exact hBS.alloc hBS.size _)))
  (first
   | (go_at_call 46;refine(HCT.out _ (‹(_/\_/\_/\_/\_)/\zO W _›).2).mono ?_;rintro e wT ⟨vT,rfl,Vh,hbT⟩;have QN:=Below.trans (‹(_/\_/\_/\_/\_)/\zO W _›).2 (hbT.mono ((‹(_/\_/\_/\_/\_)/\zO W _›).2).size);obtain⟨aT,kT,hvT,_⟩:=Vh.slice;subst hvT)
   | (go_at_call 46;refine(HCS.out _ (‹(_/\_/\_/\_/\_)/\zO W _›).2).mono ?_;rintro e wS ⟨vS,rfl,hrS,hbS⟩;have hBS:=Below.trans (‹(_/\_/\_/\_/\_)/\zO W _›).2 (hbS.mono ((‹(_/\_/\_/\_/\_)/\zO W _›).2).size);obtain⟨aS,kS,hvS,_⟩:=hrS.slice;subst hvS))
 all_goals first
  | (have za6:zO wT wS:=hbS;have JW:w.heap.size<=W.heap.size:=hA.size;have ZQ:W.heap.size<=wT.heap.size:=QN.size;have hzY:=hbS.size;have N9:=zR wS (.cells #[.int .i64 c.m,.int .i64 c.pc,.slice aT c.zg.length kT,.slice aS c.zf.length kS,.bool c.zv] 186);have r9:=jj wS 186 (.int .i64 c.m) (.int .i64 c.pc) (.slice aT c.zg.length kT) (.slice aS c.zf.length kS) (.bool c.zv);have pX:=(Vh.below za6).below N9;have pY:=hrS.below N9;have B9:=(hA.trans (hBS.mono hA.size)).trans (N9.mono (Nat.le_trans JW (Nat.le_trans ZQ hzY)));have HFIN:Hid (ur w.heap.size (wS.alloc (.cells #[.int .i64 c.m,.int .i64 c.pc,.slice aT c.zg.length kT,.slice aS c.zf.length kS,.bool c.zv] 186)) wS.heap.size (.slice aT c.zg.length kT) (.slice aS c.zf.length kS) c):=⟨r9,pX.mono (by first | exact JW | exact Nat.le_trans JW ZQ),pY.mono (by first | exact JW | exact Nat.le_trans JW ZQ),by omega,fun g e=>⟨by have:=(Vh.lt g e).2;omega,fun e2=>by have q1:=Vh.lt g e;have q2:=hrS.lt g e2;omega⟩,fun g e=>by have:=(hrS.lt g e).2;omega⟩;clear HS HCT HCS;go_wp2;go_ret;exact⟨_,_,_,rfl,HFIN.out,B9⟩)
  | (have za6:zO wS wT:=hbT;have JW:w.heap.size<=W.heap.size:=hA.size;have ZQ:W.heap.size<=wS.heap.size:=hBS.size;have hzY:=hbT.size;have N9:=zR wT (.cells #[.int .i64 c.m,.int .i64 c.pc,.slice aT c.zg.length kT,.slice aS c.zf.length kS,.bool c.zv] 186);have r9:=jj wT 186 (.int .i64 c.m) (.int .i64 c.pc) (.slice aT c.zg.length kT) (.slice aS c.zf.length kS) (.bool c.zv);have pX:=(hrS.below za6).below N9;have pY:=Vh.below N9;have B9:=(hA.trans (QN.mono hA.size)).trans (N9.mono (Nat.le_trans JW (Nat.le_trans ZQ hzY)));have HFIN:Hid (ur w.heap.size (wT.alloc (.cells #[.int .i64 c.m,.int .i64 c.pc,.slice aT c.zg.length kT,.slice aS c.zf.length kS,.bool c.zv] 186)) wT.heap.size (.slice aT c.zg.length kT) (.slice aS c.zf.length kS) c):=⟨r9,pY.mono (by first | exact JW | exact Nat.le_trans JW ZQ),pX.mono (by first | exact JW | exact Nat.le_trans JW ZQ),by omega,fun g e=>⟨by have:=(Vh.lt g e).2;omega,fun e2=>by have q1:=Vh.lt g e;have q2:=hrS.lt g e2;omega⟩,fun g e=>by have:=(hrS.lt g e).2;omega⟩;clear HS HCT HCS;go_wp2;go_ret;exact⟨_,_,_,rfl,HFIN.out,B9⟩)
def Wu (f:Fr):Cl:=⟨f.m,f.pc,f.zg,f.zf,-1,false⟩
def jH (ms:zM) (m:Mc) (i k:Nat) (f:Fr):Bool :=
 xN ms m.ze.length (Wu f) && (f.twin == -1 || (qC f.twin 0 ((m.ze.length:Int) - 1) && ((uR m f.twin).page == (i:Int) && (uR m f.twin).place == (k:Int))))
theorem Wv (vq:Value) (ms:zM) (vp vo vt vs:Value) (m:Mc) (i k:Nat) (w:World) (hq:yD w vq ms) (h:ql w vp vo vt vs m) (hops:∀i,(h:i<ms.length)->ms[i].2.2.length<=1000000) (hi:i<m.zd.length) (hk:k<m.zd[i].zh.length) (F:Fr) (hF0:m.zd[i].zh[k]=F) :
 Calls Tryz.prog 107 #[.agg #[vq],.agg (zE vp vo vt vs m).toArray,zI (i:Int),zI (k:Int)] w fun e w'=>e=.returned (.bool (jH ms m i k F))/\zO w w':=by
 have HF:Hid (m.zd[i].zh[k]=F):=hF0
 clear hF0
 have HOPS:Hid (∀i,(h:i<ms.length)->ms[i].2.2.length<=1000000):=hops
 clear hops
 have htm:m.ze.length<=maxLen:=by obtain⟨_,_,_,hl,_⟩:=id h.t;exact hl
 obtain⟨aq,cq,hvq,hlq,hcq⟩:=id hq
 subst hvq
 obtain⟨ap,cp,qI,hlp,hcp⟩:=id h.p
 obtain⟨ao,co,j5,hlo,hco⟩:=id h.o
 obtain⟨at',ct,jz,hlt',hct⟩:=id h.t
 obtain⟨as',cs,km⟩:=h.s.shape
 subst qI j5 jz km
 unfold zE
 go_enter Tryz.func107,Tryz.ntmps107
 go_upto_region 1 with fail
 refine ym (fun W=>zO w W/\Bx W w.heap.size 25 [.slice aq ms.length cq]/\Bx W (w.heap.size+1) 34 [.int .i64 m.cells,.slice ap m.zd.length cp,.slice ao m.order.length co,.int .i64 m.now,.slice at' m.ze.length ct,.int .i64 m.born,.slice as' m.zm.length cs,.int .i64 m.code]) ⟨(zR _ _).alloc (by simp) _,(Bx.new w _ _).alloc _,Bx.newAt _ _ _ (by simp)⟩ ?_
 rintro W ⟨hb,hx,hm⟩
 have x0:=hx.cell 0 rfl
 obtain⟨⟨m0,m1,m2,m3,m4,m5,m6,m7⟩,_⟩:=uk hm
 obtain⟨bp,op,vf,hap,xE⟩:=hcp i hi
 subst hap
 obtain⟨af,cf,Q9,_,hcf⟩:=id xE.f
 obtain⟨bf,of,vt1,vs1,haf,hfr⟩:=hcf k hk
 subst haf
 have g1:=zc hb xE.c1
 rw[Q9] at g1
 obtain⟨nf,hnf⟩:∃nf,m.zd[i].zh.length=nf:=⟨_,rfl⟩
 rw[HF.out] at hfr
 rw[hnf] at g1
 obtain⟨d0,d1,d2,d3,d4,dt,ds⟩:=hfr.below hb
 obtain⟨a1,k1,e1⟩:=dt.shape
 obtain⟨a2,k2,e2⟩:=ds.shape
 rw[e1] at d3 dt
 rw[e2] at d4 ds
 have hiz:(i:Int)<(m.zd.length:Int):=by omega
 have uW:(k:Int)<(nf:Int):=by omega
 have hkn:k<nf:=by omega
 have zb:=hb.size
 clear hcp xE Q9 hcf hfr HF e1 e2
 have HK0:Hid (m.zd[i].zh.length=nf):=hnf
 clear hnf hk
 go_upto_region 2 with fail
 refine ym (fun W'=>zO W W'/\Bx W' W.heap.size 75 [.int .i64 F.m,.int .i64 F.pc,.int .i64 F.twin,.slice a1 F.zg.length k1,.slice a2 F.zf.length k2]) ⟨zR _ _,Bx.new _ _ _⟩ ?_
 rintro W2 ⟨t2,y2⟩
 have yL:=hb.trans (t2.mono zb)
 have QP:=hm.below t2
 have wk:=hx.below t2
 have z2:=yL.size
 have dt2:=dt.below t2
 have ds2:=ds.below t2
 clear hb hm hx t2 zb d0 d1 d2 d3 d4 dt ds m0 m1 m2 m3 m4 m5 m6 m7 x0 g1
 obtain⟨⟨m0,m1,m2,m3,m4,m5,m6,m7⟩,_⟩:=uk QP
 have x0:=wk.cell 0 rfl
 have y0:=y2.cell 0 rfl
 have y1:=y2.cell 1 rfl
 have y2':=y2.cell 2 rfl
 have y3:=y2.cell 3 rfl
 have y4:=y2.cell 4 rfl
 obtain⟨f,hf⟩:∃f,xN ms m.ze.length (Wu F)=f:=⟨_,rfl⟩
 have HC:=wK _ _ _ ms (Wu F) m.ze.length W2 (hq.below yL) (show yo W2 (.slice a1 F.zg.length k1) (Wu F).zg from dt2) (show yo W2 (.slice a2 F.zf.length k2) (Wu F).zf from ds2) htm HOPS.out
 rw[hf] at HC
 unfold ZO Wu at HC
 go_wp2_with fail
 refine HC.mono ?_
 rintro e W3 ⟨rfl,t3⟩
 have xn:=yL.trans (t3.mono z2)
 have VL:=QP.below t3
 have y3r:=y2.below t3
 clear HC t3 QP wk y2 yL z2 dt2 ds2 m0 m1 m2 m3 m4 m5 m6 m7 x0 y0 y1 y2' y3 y4
 cases f
 ·have HE:Hid (jH ms m i k F=false):=by show _=_;unfold jH;rw[hf];rfl
  go_wp2
  go_ret
  exact⟨zo HE.out.symm,xn⟩
 have HE0:Hid (jH ms m i k F=(F.twin == -1 || (qC F.twin 0 ((m.ze.length:Int) - 1) && ((uR m F.twin).page == (i:Int) && (uR m F.twin).place == (k:Int))))):=by show _=_;unfold jH;rw[hf];rfl
 clear hf
 have y2':=y3r.cell 2 rfl
 obtain⟨⟨m0,m1,m2,m3,m4,m5,m6,m7⟩,_⟩:=uk VL
 by_cases htw1:F.twin=-1
 ·have HE:Hid (jH ms m i k F=true):=by rw[HE0.out,htw1];rfl
  rw[htw1] at y2'
  go_wp2
  go_ret
  exact⟨zo HE.out.symm,xn⟩
 have hte:(F.twin == -1)=false:=by simpa using htw1
 obtain⟨f,hf⟩:∃f,qC F.twin 0 ((m.ze.length:Int) - 1)=f:=⟨_,rfl⟩
 have HP:=yc F.twin m.ze.length W3
 rw[hf] at HP
 go_wp2_with fail
 refine HP.mono ?_
 rintro e W4 ⟨rfl,hw⟩
 obtain rfl:=hw.symm
 clear hw HP
 cases f
 ·have HE:Hid (jH ms m i k F=false):=by rw[HE0.out,hte,hf];rfl
  go_wp2
  go_ret
  exact⟨zo HE.out.symm,xn⟩
 obtain⟨j,hj,hjl⟩:=zch hf
 rw[hte,hf,hj,Zl hjl] at HE0
 rw[hj] at y2' hte
 obtain⟨b,o,vt,vs,hat,YY⟩:=hct j hjl
 subst hat
 obtain⟨c0,c1,_,_,_,_,_,_,_,_⟩:=YY.below xn
 have hjz:(j:Int)<(m.ze.length:Int):=by omega
 have HE1:Hid (jH ms m i k F=(m.ze[j].page == (i:Int) && m.ze[j].place == (k:Int))):=by rw[HE0.out];rfl
 clear HE0 hf hct YY hj htw1
 obtain⟨pgv,hpgv⟩:∃x,m.ze[j].page=x:=⟨_,rfl⟩
 obtain⟨plv,hplv⟩:∃x,m.ze[j].place=x:=⟨_,rfl⟩
 rw[hpgv] at c0 HE1
 rw[hplv] at c1 HE1
 clear hpgv hplv
 by_cases hpp:pgv=(i:Int)
 ·rw[hpp] at c0
  have HE:Hid (jH ms m i k F=(plv == (k:Int))):=by show _=_;rw[HE1.out,hpp];simp
  go_wp2
  go_ret
  exact⟨zo HE.out.symm,xn⟩
 ·have hpf:(pgv == (i:Int))=false:=by simpa using hpp
  have HE:Hid (jH ms m i k F=false):=by rw[HE1.out,hpf];rfl
  go_wp2
  go_ret
  exact⟨zo HE.out.symm,xn⟩
def Fr.none:Fr:=⟨0,0,-1,[],[]⟩
def frAt (m:Mc) (i k:Int):Fr:=(pgAt m i).zh.getD k.toNat Fr.none
theorem zbX {m:Mc} {i k:Nat} (hi:i<m.zd.length) (hk:k<m.zd[i].zh.length):frAt m (i:Int) (k:Int)=m.zd[i].zh[k]:=by unfold frAt;rw[kX hi];simp[hk]
theorem ze4 {m:Mc} {i k:Int} (h:frB m i k=true):∃(a b:Nat) (ha:a<m.zd.length),i=(a:Int)/\k=(b:Int)/\b<m.zd[a].zh.length:=by
 unfold frB at h
 obtain⟨h1,h2⟩:=Bool.and_eq_true_iff.1 h
 obtain⟨a,rfl,ha⟩:=zcb h1
 rw[kX ha] at h2
 have h3:=zF.1 h2
 obtain⟨b,rfl⟩:=Int.eq_ofNat_of_zero_le h3.1
 exact⟨a,b,ha,rfl,rfl,by omega⟩
def j8 (ms:zM) (m:Mc) (j:Nat) (t:Tw):Bool :=
 if t.page=-1 then t.place == 0 && xN ms m.ze.length t.left else frB m t.page t.place && ((frAt m t.page t.place).twin == (j:Int) && kx t.left)
theorem zbN (vq:Value) (ms:zM) (vp vo vt vs:Value) (m:Mc) (j:Nat) (w:World) (hq:yD w vq ms) (h:ql w vp vo vt vs m) (hops:∀i,(h:i<ms.length)->ms[i].2.2.length<=1000000) (hj:j<m.ze.length) (T:Tw) (hT0:m.ze[j]=T) :
 Calls Tryz.prog 66 #[.agg #[vq],.agg (zE vp vo vt vs m).toArray,zI (j:Int)] w fun e w'=>e=.returned (.bool (j8 ms m j T))/\zO w w':=by
 have HT:Hid (m.ze[j]=T):=hT0
 clear hT0
 have HOPS:Hid (∀i,(h:i<ms.length)->ms[i].2.2.length<=1000000):=hops
 clear hops
 have htm:m.ze.length<=maxLen:=by obtain⟨_,_,_,hl,_⟩:=id h.t;exact hl
 obtain⟨aq,cq,hvq,hlq,hcq⟩:=id hq
 subst hvq
 obtain⟨ap,cp,qI,hlp,hcp⟩:=id h.p
 obtain⟨ao,co,j5,hlo,hco⟩:=id h.o
 obtain⟨at',ct,jz,hlt',hct⟩:=id h.t
 obtain⟨as',cs,km⟩:=h.s.shape
 subst qI j5 jz km
 unfold zE
 go_enter Tryz.func66,Tryz.ntmps66
 go_upto_region 1 with fail
 refine ym (fun W=>zO w W/\Bx W w.heap.size 25 [.slice aq ms.length cq]/\Bx W (w.heap.size+1) 34 [.int .i64 m.cells,.slice ap m.zd.length cp,.slice ao m.order.length co,.int .i64 m.now,.slice at' m.ze.length ct,.int .i64 m.born,.slice as' m.zm.length cs,.int .i64 m.code]) ⟨(zR _ _).alloc (by simp) _,(Bx.new w _ _).alloc _,Bx.newAt _ _ _ (by simp)⟩ ?_
 rintro W ⟨hb,hx,hm⟩
 have x0:=hx.cell 0 rfl
 obtain⟨⟨m0,m1,m2,m3,m4,m5,m6,m7⟩,_⟩:=uk hm
 obtain⟨b,o,vt,vs,hat,YY⟩:=hct j hj
 subst hat
 rw[HT.out] at YY
 obtain⟨d0,d1,d2,d3,d4,d5,d6,d7,dt,ds⟩:=YY.below hb
 obtain⟨a1,k1,e1⟩:=dt.shape
 obtain⟨a2,k2,e2⟩:=ds.shape
 rw[e1] at d4 dt
 rw[e2] at d5 ds
 have hjz:(j:Int)<(m.ze.length:Int):=by omega
 have zb:=hb.size
 clear hct YY e1 e2 HT
 go_upto_region 2 with fail
 refine ym (fun W'=>zO W W'/\Bx W' W.heap.size 124 [.int .i64 T.page,.int .i64 T.place,.int .i64 T.left.m,.int .i64 T.left.pc,.slice a1 T.left.zg.length k1,.slice a2 T.left.zf.length k2,.int .i64 T.left.zi,.bool T.left.zv]) ⟨zR _ _,Bx.new _ _ _⟩ ?_
 rintro W2 ⟨t2,y2⟩
 have yL:=hb.trans (t2.mono zb)
 have QP:=hm.below t2
 have wk:=hx.below t2
 have z2:=yL.size
 have dt2:=dt.below t2
 have ds2:=ds.below t2
 clear hb hm hx t2 zb d0 d1 d2 d3 d4 d5 d6 d7 dt ds m0 m1 m2 m3 m4 m5 m6 m7 x0
 obtain⟨⟨m0,m1,m2,m3,m4,m5,m6,m7⟩,_⟩:=uk QP
 obtain⟨⟨y0,y1,y2',y3,y4,y5,y6,y7⟩,_⟩:=uk y2
 have x0:=wk.cell 0 rfl
 by_cases hp:T.page=-1
 ·have HE0:Hid (j8 ms m j T=(T.place == 0 && xN ms m.ze.length T.left)):=by show _=_;unfold j8;rw[if_pos hp]
  rw[hp] at y0
  by_cases hz:T.place=0
  ·have HE:Hid (j8 ms m j T=xN ms m.ze.length T.left):=by rw[HE0.out,hz];rfl
   rw[hz] at y1
   have HC:=wK _ _ _ ms T.left m.ze.length W2 (hq.below yL) dt2 ds2 htm HOPS.out
   unfold ZO at HC
   go_wp2_with fail
   refine HC.mono ?_
   rintro e W3 ⟨rfl,t3⟩
   have xn:=yL.trans (t3.mono z2)
   go_wp2
   go_ret
   exact⟨zo HE.out.symm,xn⟩
  ·have hze:(T.place == 0)=false:=by simpa using hz
   have HE:Hid (j8 ms m j T=false):=by rw[HE0.out,hze];rfl
   go_wp2
   go_ret
   exact⟨zo HE.out.symm,yL⟩
 have hpe:(T.page == -1)=false:=by simpa using hp
 have HE0:Hid (j8 ms m j T=(frB m T.page T.place && ((frAt m T.page T.place).twin == (j:Int) && kx T.left))):=by show _=_;unfold j8;rw[if_neg hp]
 go_upto_region 4 with fail
 have L0:=Gr.cell m0
 have L1:=Gr.cell m1
 have L2:=Gr.cell m2
 have L3:=Gr.cell m3
 have L4:=Gr.cell m4
 have L5:=Gr.cell m5
 have L6:=Gr.cell m6
 have L7:=Gr.cell m7
 have Y0:=Gr.cell y0
 have Y1:=Gr.cell y1
 have Y2:=Gr.cell y2'
 have Y3:=Gr.cell y3
 have Y4:=Gr.cell y4
 have Y5:=Gr.cell y5
 have Y6:=Gr.cell y6
 have Y7:=Gr.cell y7
 obtain⟨f,hf⟩:∃f,frB m T.page T.place=f:=⟨_,rfl⟩
 have HI:=jq (W:=W2) fun W' (hW:zO W2 W')=>WK _ _ _ _ m T.page T.place W' ((h.below yL).below hW)
 rw[hf] at HI
 unfold zE at HI
 cases f
 ·have HE:Hid (j8 ms m j T=false):=by rw[HE0.out,hf];rfl
  clear HE0 hf
  refine WQ.region (by kernel_rfl) (by kernel_rfl) ?_
  iterate 28 (refine WQ.step (fun K hK=>?_);go_simp;first
   | (with_reducible refine hK _ ?_;clear hK K)
   | (with_reducible refine qu ?_;refine hK _ ?_;clear hK K)
   | (simp(contextual:=true) only [L0,L1,L2,L3,L4,L5,L6,L7,Y0,Y1,Result.andThen_ok,true_and];with_reducible refine qu ?_;refine hK _ ?_;clear hK K)
   | (with_reducible refine yE HI ?_;refine hK _ ?_;clear hK K))
  refine WQ.nil ?_
  intro W3 hG3
  have xn:=yL.trans (hG3.to.mono z2)
  clear hG3 HI L0 L1 L2 L3 L4 L5 L6 L7 Y0 Y1 Y2 Y3 Y4 Y5 Y6 Y7
  go_wp2
  go_ret
  exact⟨zo HE.out.symm,xn⟩
 obtain⟨i,k,hi,hie,hke,hk⟩:=ze4 hf
 obtain⟨bp,op,vf,hap,xE⟩:=hcp i hi
 subst hap
 obtain⟨af,cf,Q9,_,hcf⟩:=id xE.f
 obtain⟨bf,of,vt1,vs1,haf,hfr⟩:=hcf k hk
 subst haf
 have g1:=Gr.cell (zc yL xE.c1)
 rw[Q9] at g1
 have q2:=Gr.cell (zc yL hfr.c2)
 rw[hie,hke,zbX hi hk] at HE0
 rw[hie,hke] at hf HI
 rw[hie] at Y0 hpe
 rw[hke] at Y1
 have hiz:(i:Int)<(m.zd.length:Int):=by omega
 have uW:(k:Int)<(m.zd[i].zh.length:Int):=by omega
 obtain⟨nf,hnf⟩:∃nf,m.zd[i].zh.length=nf:=⟨_,rfl⟩
 rw[hnf] at g1 uW
 have hkn:k<nf:=by omega
 obtain⟨tv,htv⟩:∃tv,m.zd[i].zh[k].twin=tv:=⟨_,rfl⟩
 rw[htv] at q2 HE0
 clear hcp xE Q9 hcf hfr hnf hie hke htv hk y0 y1 y2' y3 y4 y5 y6 y7 m0 m1 m2 m3 m4 m5 m6 m7
 by_cases htj:tv=(j:Int)
 ·have HE:Hid (j8 ms m j T=kx T.left):=by show _=_;rw[HE0.out,hf,htj];simp
  rw[htj] at q2
  have HM:=jq (W:=W2) fun W' (hW:zO W2 W')=>JC T.left _ _ W' (dt2.below hW) (ds2.below hW)
  clear HE0 hf
  refine WQ.region (by kernel_rfl) (by kernel_rfl) ?_
  iterate 28 (refine WQ.step (fun K hK=>?_);go_simp;first
   | (with_reducible refine hK _ ?_;clear hK K)
   | (with_reducible refine qu ?_;refine hK _ ?_;clear hK K)
   | (simp(contextual:=true) only [L0,L1,L2,L3,L4,L5,L6,L7,Y0,Y1,Y2,Y3,Y4,Y5,Y6,Y7,g1,q2,Result.andThen_ok,true_and];with_reducible refine qu ?_;refine hK _ ?_;clear hK K)
   | (with_reducible refine yE HI ?_;refine hK _ ?_;clear hK K)
   | (with_reducible refine yE HM ?_;refine hK _ ?_;clear hK K))
  refine WQ.nil ?_
  intro W3 hG3
  have xn:=yL.trans (hG3.to.mono z2)
  clear hG3 HI HM L0 L1 L2 L3 L4 L5 L6 L7 Y0 Y1 Y2 Y3 Y4 Y5 Y6 Y7 g1 q2
  go_wp2
  go_ret
  exact⟨zo HE.out.symm,xn⟩
 ·have hte:(tv == (j:Int))=false:=by simpa using htj
  have HE:Hid (j8 ms m j T=false):=by show _=_;rw[HE0.out,hte];simp
  clear HE0 hf
  refine WQ.region (by kernel_rfl) (by kernel_rfl) ?_
  iterate 28 (refine WQ.step (fun K hK=>?_);go_simp;first
   | (with_reducible refine hK _ ?_;clear hK K)
   | (with_reducible refine qu ?_;refine hK _ ?_;clear hK K)
   | (simp(contextual:=true) only [L0,L1,L2,L3,L4,L5,L6,L7,Y0,Y1,g1,q2,Result.andThen_ok,true_and];with_reducible refine qu ?_;refine hK _ ?_;clear hK K)
   | (with_reducible refine yE HI ?_;refine hK _ ?_;clear hK K))
  refine WQ.nil ?_
  intro W3 hG3
  have xn:=yL.trans (hG3.to.mono z2)
  clear hG3 HI L0 L1 L2 L3 L4 L5 L6 L7 Y0 Y1 Y2 Y3 Y4 Y5 Y6 Y7 g1 q2
  go_wp2
  go_ret
  exact⟨zo HE.out.symm,xn⟩
end Go.Proofs.YtbjgjjkgfnfejaaGreatDoor
