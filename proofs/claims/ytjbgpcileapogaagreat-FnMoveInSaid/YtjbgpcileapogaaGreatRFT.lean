/-
  Plain words for what calls and heaps of this project look like in memory, and how such facts are carried from one world to a later one. Values are pairs of numbers (kind, number): a row of values lies in memory as a row of operations does. Nothing of the translation is used here.
-/
import Derived.Test.YtjbgpcileapogaaGreatPlain
import Derived.Test.YtjbgpcileapogaaGreatProg
namespace Go.Proofs.YtjbgpcileapogaaGreat
open Go.RowKit
structure Cl where
 m:Int
 pc:Int
 zg:zL
 ze:zL
 zf:Int
 zv:Bool
structure Hp where
 za:List Cl
 now:Int
 born:Int
 zl:zL
 code:Int
structure J9 (w:World) (b o:Nat) (vt vs:Value) (c:Cl):Prop where
 c0:w.cell? ⟨b,o,none⟩=some (.int .i64 c.m)
 c1:w.cell? ⟨b,o+1,none⟩=some (.int .i64 c.pc)
 c2:w.cell? ⟨b,o+2,none⟩=some vt
 c3:w.cell? ⟨b,o+3,none⟩=some vs
 c4:w.cell? ⟨b,o+4,none⟩=some (.int .i64 c.zf)
 c5:w.cell? ⟨b,o+5,none⟩=some (.bool c.zv)
 t:zR w vt c.zg
 s:zR w vs c.ze
theorem J9.below {w w':World} {b o:Nat} {vt vs:Value} {c:Cl} (h:J9 w b o vt vs c) (hb:Below w.heap.size w w'):J9 w' b o vt vs c :=
 ⟨zc hb h.c0,zc hb h.c1,zc hb h.c2,zc hb h.c3,zc hb h.c4,zc hb h.c5,h.t.below hb,h.s.below hb⟩
def qo (w:World) (v:Value) (cs:List Cl):Prop :=
 ∃(a:Option Addr) (zp:Nat),v=.slice a cs.length zp/\cs.length<=maxLen /\
  ∀i,(h:i<cs.length)->∃b o vt vs,a=some ⟨b,o,none⟩/\J9 w b (o+i * 6) vt vs cs[i]
theorem qo.below {w w':World} {v:Value} {cs:List Cl} (h:qo w v cs) (hb:Below w.heap.size w w'):qo w' v cs:=by
 obtain⟨a,zp,hv,hl,hc⟩:=h
 refine⟨a,zp,hv,hl,fun i hi=>?_⟩
 obtain⟨b,o,vt,vs,ha,h0⟩:=hc i hi
 exact⟨b,o,vt,vs,ha,h0.below hb⟩
theorem qo.nil (w:World):qo w (.slice none 0 0) []:=⟨none,0,rfl,Nat.zero_le _,fun _ hi=>absurd hi zF⟩
def yn (vc vs:Value) (h:Hp):Array Value:=#[vc,.int .i64 h.now,.int .i64 h.born,vs,.int .i64 h.code]
structure qa (w:World) (vc vs:Value) (h:Hp):Prop where
 c:qo w vc h.za
 s:zR w vs h.zl
theorem qa.below {w w':World} {vc vs:Value} {h:Hp} (k:qa w vc vs h) (hb:Below w.heap.size w w'):qa w' vc vs h:=⟨k.c.below hb,k.s.below hb⟩
theorem zR.shape {w:World} {v:Value} {ops:zL} (h:zR w v ops):∃a c,v=.slice a ops.length c:=by
 obtain⟨a,c,hv,_⟩:=h
 exact⟨a,c,hv⟩
theorem qo.shape {w:World} {v:Value} {cs:List Cl} (h:qo w v cs):∃a c,v=.slice a cs.length c:=by
 obtain⟨a,c,hv,_⟩:=h
 exact⟨a,c,hv⟩
def Cl.small (c:Cl):Prop:=c.zg.length<=1048576/\c.ze.length<=1048576
def Hp.small (h:Hp):Prop:=h.za.length<=1048576/\(∀i,(hi:i<h.za.length)->h.za[i].small)/\h.zl.length<=1048576
def NF (B:Nat) (w:World):Prop:=∀g o,B<=g->w.frozen? ⟨g,o,none⟩=false
theorem NF.alloc {B:Nat} {w:World} (h:NF B w) (cs:Array Value) (t:TypeId):NF B (w.alloc (.cells cs t)):=fun g o hg=>by
 by_cases e:g=w.heap.size
 ·subst e
  unfold World.frozen?
  rw[Go.Deep.blk_alloc_new]
  simp
 ·by_cases hl:g<w.heap.size
  ·rw[World.frozen?_of_block (a:=⟨g,o,none⟩) (Below.heap_alloc w _ g hl)];exact h g o hg
  ·unfold World.frozen?
   rw[Array.getElem?_eq_none (by show(w.alloc _).heap.size<=g;rw[World.size_alloc];omega)]
theorem NF.set {B:Nat} {w:World} (h:NF B w) (p:Addr) (v:Value):NF B (w.setCell p v):=fun g o hg=>by rw[World.frozen?_setCell];exact h g o hg
def K5 (w:World) (v:Value) (ms:zM):Prop :=
 ∃(g zp:Nat),v=.slice (some ⟨g,0,none⟩) ms.length zp/\∀i,i<ms.length->∃vo,w.cell? ⟨g,i * 3+2,none⟩=some vo/\Own (g+1) vo
theorem K5.set {w:World} {v:Value} {ms:zM} {B:Nat} (h:K5 w v ms) (hB:Own B v) {p:Addr} (hp:p.block<B) (u:Value):K5 (w.setCell p u) v ms:=by
 obtain⟨g,zp,rfl,hc⟩:=h
 obtain⟨g',_,_,e,hg⟩:=hB
 obtain rfl:g=g':=by injection e with e;injection e with e;injection e
 refine⟨g,zp,rfl,fun i hi=>?_⟩
 obtain⟨vo,h1,h2⟩:=hc i hi
 exact⟨vo,by rw[World.cell?_setCell_other _ _ _ _ (fun e=>by have:=congrArg Addr.block e;simp at this;omega)];exact h1,h2⟩
theorem Tryz.infoOp:(Tryz.prog.info? 33).map (fun i=>(i.zero,i.size,i.bytes))=some (some (.agg #[.int .i64 0,.int .i64 0]),2,16):=by kernel_rfl
theorem Tryz.infoMeth:(Tryz.prog.info? 48).map (fun i=>(i.zero,i.size,i.bytes))=some (some (.agg #[.int .i64 0,.int .i64 0,.slice none 0 0]),3,40):=by kernel_rfl
end Go.Proofs.YtjbgpcileapogaaGreat
namespace Go.Proofs.YtjbgpcileapogaaGreat
def yN (n:Int) (k a:Int):Bool:=if k=0 then a == 0 else if k=1 then yO a 0 999 else if k=2 then yO a 0 (n - 1) else false
def yk (n:Int) (l:zL):Bool:=l.all fun v=>yN n v.1 v.2
theorem wO {n:Int} {l:zL} (h:∀i,(hi:i<l.length)->yN n l[i].1 l[i].2=true):yk n l=true:=Ya h
theorem QY {n:Int} {l:zL} {i:Nat} (hi:i<l.length) (h:yN n l[i].1 l[i].2=false):yk n l=false:=YL hi h
def yT (ms:zM) (n:Nat) (c:Cl):Bool :=
 yO c.m 0 ((ms.length:Int) - 1) && yO c.pc 0 ((ms.getD c.m.toNat (0,0,[])).2.2.length:Int) && decide ((c.zg.length:Int)=(ms.getD c.m.toNat (0,0,[])).2.1) && decide (c.ze.length<=6) &&
 (yO c.zf (-1) ((n:Int) - 1) && yk n c.zg && yk n c.ze && (!c.zv || (c.zf == -1 && c.ze.length == 0)))
end Go.Proofs.YtjbgpcileapogaaGreat
namespace Go.Proofs.YtjbgpcileapogaaGreat
open Go.RowKit
theorem zau {P:Program} {ops:Array Oper} {Q:QT} {W:World} {a0:Act} {L:Nat} (p:xj) (F:Nat->Qq) (hL:ops.size=L+1) (hp:p.ok ops a0.tmps.size=true) (hall:(List.range L).all (fun j=>(p.anc.getD L []).contains j)=true)
 (YX:∀i,i<ops.size->∀l own own' w w',K3 W W.heap.size (p.dep.getD i []) own own' w w'->F i l own w->F i l own' w')
 (hstep:∀i,i<L->K7 P Q W a0 p ops F i)
 (hend:∀a w val own,Below W.heap.size W w->xI ops a0 a->(∀r,r<W.heap.size->own r=1000)->(∀i,i<L->wn ops p F val own a w i)->wpOp P ops Q L (Q .normal) a w) :
 ∀(fuel:Nat) (listed:Array Bool) (a:Act) (w:World),uY listed ops.size<=fuel->listed.getD L true=false->K6 W W.heap.size (fun _=>1000) [] a0 p ops F listed a w->wpAny P .any ops Q fuel listed a w:=by
 have YJ:L<ops.size:=by omega
 have hoL:ops[L]?=some ops[L]:=Array.getElem?_eq_getElem YJ
 have hnil:∀(listed:Array Bool) (a:Act) (w:World),listed.getD L true=false->K6 W W.heap.size (fun _=>1000) [] a0 p ops F listed a w->Region.ready .any ops listed≠[]:=by
  intro listed a w Ze hI hr
  have hls:∀i,i<L->listed.getD i false=true:=by
   intro i
   induction i using Nat.strongRecOn with
   | ind i ih =>
    intro hi
    have ho:ops[i]?=some ops[i]:=Array.getElem?_eq_getElem (by omega)
    have h1:=p.ok_at hp ho
    simp only[xj.ok1,Bool.and_eq_true] at h1
    cases hl:listed.getD i true with
    | true =>
     have:=hI.size
     have h':i<listed.size:=by omega
     simpa [h'] using hl
    | false =>
     have:i∈Region.ready .any ops listed:=mem_ready.2 ⟨hl,_,ho,fun e he hb=>by
      have hlt:=Array.all_eq_true'.1 h1.1.1.2 e he
      rw[hb] at hlt
      have hlt':e.on<i:=by simpa using hlt
      exact ih e.on hlt' (by omega)⟩
     rw[hr] at this
     cases this
  have h1:=p.ok_at hp hoL
  simp only[xj.ok1,Bool.and_eq_true] at h1
  have:L∈Region.ready .any ops listed:=mem_ready.2 ⟨Ze,_,hoL,fun e he hb=>by
   have hlt:=Array.all_eq_true'.1 h1.1.1.2 e he
   rw[hb] at hlt
   exact hls e.on (by simpa using hlt)⟩
  rw[hr] at this
  cases this
 intro fuel
 induction fuel with
 | zero =>
  intro listed a w hz Ze hI
  have:=ke YJ hI.size Ze
  omega
 | succ fuel ih =>
  intro listed a w hz Ze hI
  refine⟨fun hr=>absurd hr (hnil listed a w Ze hI),fun i hi=>?_⟩
  obtain⟨hu,o,ho,uW⟩:=mem_ready.1 hi
  have hlt:i<ops.size:=(Array.getElem?_eq_some_iff.1 ho).1
  have Yk:=xj.anc_listed hp hI i o ho uW
  obtain⟨val,own,zx,hk,_⟩:=hI.facts
  by_cases hiL:i=L
  ·subst hiL
   have hls:∀j,j<i->listed.getD j false=true:=fun j hj=>Yk j (by simpa using List.all_eq_true.1 hall j (List.mem_range.2 hj))
   refine wpOp_mono ?_ (hend a w val own hI.base hI.frame zx fun j hj=>hk j (by omega) (hls j hj))
   intro a' w' hQ
   have hrn:Region.ready .any ops (listed.setIfInBounds i true)=[]:=by
    cases hr:Region.ready .any ops (listed.setIfInBounds i true) with
    | nil=>rfl
    | cons x t =>
     have hx:x∈Region.ready .any ops (listed.setIfInBounds i true):=by rw[hr];simp
     obtain⟨hxu,ox,hox,_⟩:=mem_ready.1 hx
     have hxl:x<ops.size:=(Array.getElem?_eq_some_iff.1 hox).1
     have:(listed.setIfInBounds i true).getD x false=true:=by
      by_cases e:x=i
      ·subst e
       exact Zl (by have:=hI.size;omega)
      ·exact qm (hls x (by omega))
     have hs:=hI.size
     have h':x<(listed.setIfInBounds i true).size:=by simp;omega
     simp only[Array.getD_eq_getD_getElem?,Array.getElem?_eq_getElem h',Option.getD_some] at hxu this
     rw[hxu] at this
     cases this
   cases fuel with
   | zero=>exact⟨hrn,hQ⟩
   | succ fuel=>exact⟨fun _=>hQ,fun k hk=>by rw[hrn] at hk;cases hk⟩
  ·have Js:∀j∈p.anc.getD i [],j<ops.size:=fun j hj=>by
    have:=Yk j hj
    have hs:=hI.size
    rcases Nat.lt_or_ge j listed.size with h' | h'
    ·omega
    ·simp[Array.getElem?_eq_none h'] at this
   refine wpOp_mono ?_ (hstep i (by omega) a w val own hI.base hI.frame zx fun j hj=>hk j (Js j hj) (Yk j hj))
   rintro a' w' ⟨v,rfl,hdo,hF⟩
   refine ih _ _ _ (by have:=ke hlt hI.size hu;omega) (by rw[getD_set_ne true hiL];exact Ze) ⟨by simp[hI.size],?_,hdo.base,kN hI.frame,Xv val i v,jW own w i,?_,?_,fun f hf=>by cases hf⟩
   ·intro k ok hok hkl e he hb
    rcases xo hkl with rfl | hkl
    ·rw[ho] at hok
     cases hok
     exact qm (uW e he hb)
    ·exact qm (hI.down k ok hok hkl e he hb)
   ·intro r hr
    unfold jW
    rw[if_pos (Nat.lt_of_lt_of_le hr hI.base.size)]
    exact zx r hr
   ·intro k hkl hkt
    rcases xo hkt with rfl | hkt
    ·refine⟨fun d hd=>?_,hF⟩
     have h1:=p.ok_at hp ho
     simp only[xj.ok1,Bool.and_eq_true] at h1
     have hod:o.dst=some d:=by simpa [qu,ho] using hd
     have hdl:=h1.1.2
     rw[hod] at hdl
     have Vk:d<a0.tmps.size:=by simpa using hdl
     rw[hd]
     simp only[Act.put,Xv,if_true]
     have hda:d<a.tmps.size:=by rw[hI.frame.size];exact Vk
     simp[hda]
    ·have hok:ops[k]?=some ops[k]:=Array.getElem?_eq_getElem hkl
     have hne:i≠k:=by
      rintro rfl
      have hs:=hI.size
      have h':i<listed.size:=by omega
      simp[h'] at hu hkt
      rw[hu] at hkt
      cases hkt
     refine wD hp YX hok hlt hne ?_ hdo (hk k hkl hkt)
     intro hm
     have:=xj.anc_listed hp hI k ops[k] hok (fun e he hb=>hI.down k _ hok hkt e he hb) i hm
     have hs:=hI.size
     have h':i<listed.size:=by omega
     simp[h'] at hu this
     rw[hu] at this
     cases this
theorem wQ {P:Program} {id:Nat} {ops:Array Oper} {Q:QT} {a0:Act} {w0:World} (anc see wr:List (List Nat)) (fs:List (OpF w0 w0.heap.size)) (n:Nat) (hn:ops.size=n+1) (hm:P.follows .mixedOrders=true) (hp:(xG anc see wr fs).ok ops a0.tmps.size=true) (hall:(List.range n).all (fun j=>((xG anc see wr fs).anc.getD n []).contains j)=true)
 (hstep:∀i,i<n->K7 P Q w0 a0 (xG anc see wr fs) ops (km fs) i)
 (hend:∀a w val own,Below w0.heap.size w0 w->xI ops a0 a->(∀r,r<w0.heap.size->own r=1000)->(∀i,i<n->wn ops (xG anc see wr fs) (km fs) val own a w i)->wpOp P ops Q n (Q .normal) a w) :
 (Code.region id ops true).wp P Q a0 w0:=by
 refine wp_region_any hm (zau (xG anc see wr fs) (km fs) hn hp hall ?_ hstep hend ops.size _ a0 _ ?_ ?_ ?_)
 ·exact X6 anc see wr fs _
 ·unfold uY
  exact Nat.le_trans (List.length_filter_le _ _) (by simp)
 ·simp[show n<ops.size by omega]
 ·refine⟨by simp,?_,(Below.refl _ w0).drew,⟨rfl,rfl,fun _ _=>rfl⟩,fun _=>undef,fun _=>1000,fun _ _=>rfl,?_,fun f hf=>by cases hf⟩
  ·intro i o ho hl
   have hi:i<ops.size:=(Array.getElem?_eq_some_iff.1 ho).1
   simp[hi] at hl
  ·intro i hi hl
   simp[hi] at hl
theorem U0 {x:Array Value}:∀(ds:List Nat) (t:Array Value),t.size=x.size->(∀d,d∉ds->t[d]?=x[d]?)->x=ds.foldl (fun t d=>t.setIfInBounds d (x[d]?.getD undef)) t
 | [],t,_,h=>Array.ext_getElem? fun d=>(h d (by simp)).symm
 | e :: ds,t,hs,h=>by
  refine U0 ds _ (by simpa using hs) fun d hd=>?_
  rw[Array.getElem?_setIfInBounds]
  by_cases hed:e=d
  ·subst hed
   rw[if_pos rfl,hs]
   by_cases hl:e<x.size
   ·simp[hl]
   ·simp[hl]
  ·rw[if_neg hed]
   exact h d (by simp;exact⟨fun q=>hed q.symm,hd⟩)
theorem xD {ops:Array Oper} {a0 a:Act} (hf:xI ops a0 a) (ds:List Nat) (hds:(List.range ops.size).all (fun i=>match qu ops i with | some d=>ds.contains d | none=>true)=true):a.tmps=ds.foldl (fun t d=>t.setIfInBounds d (a.tmps[d]?.getD undef)) a0.tmps:=by
 refine U0 ds _ hf.size.symm fun d hd=>(hf.slot d fun i hi=>?_).symm
 rcases Nat.lt_or_ge i ops.size with h | h
 ·have:=List.all_eq_true.1 hds i (List.mem_range.2 h)
  rw[hi] at this
  exact hd (by simpa using this)
 ·rw[qu,Array.getElem?_eq_none h] at hi
  cases hi
def Zf (ops:Array Oper) (L:Nat):Bool:=(List.range ops.size).all fun k=>decide (k<=L) || match ops[k]? with | some o=>o.after.any (fun e=>Region.binds .any e && e.on+1 == k) | none=>false
theorem ZL {ops:Array Oper} {L k:Nat} (h:Zf ops L=true) (hk:L<k) (hs:k<ops.size):∃o,ops[k]?=some o/\∃e∈o.after,Region.binds .any e=true/\e.on+1=k:=by
 have h1:=List.all_eq_true.1 h k (List.mem_range.2 hs)
 have ho:ops[k]?=some ops[k]:=Array.getElem?_eq_getElem hs
 rw[ho,show decide (k<=L)=false by simpa using hk,Bool.false_or] at h1
 obtain⟨e,he,h2⟩:=Array.any_eq_true'.1 h1
 simp only[Bool.and_eq_true,beq_iff_eq] at h2
 exact⟨_,ho,e,he,h2.1,h2.2⟩
def ZF (P:Program) (ops:Array Oper) (Q:QT):Nat->Nat->Act->World->Prop
 | 0,_,a,w=>Q .normal a w
 | m+1,j,a,w=>wpOp P ops Q j (ZF P ops Q m (j+1)) a w
theorem QU {l:Array Bool} {n L f:Nat} (hs:l.size=n) (hL:L<=n) (h:∀k,L<=k->k<n->l.getD k true=false) (hf:uY l n<=f):n - L<=f:=by
 refine Nat.le_trans ?_ hf
 unfold uY
 obtain⟨m,rfl⟩:=Nat.exists_eq_add_of_le hL
 rw[List.range_add,List.filter_append,List.length_append]
 have:((List.range m).map fun x=>L+x).filter (fun i=>!l.getD i true)=(List.range m).map fun x=>L+x:=List.filter_eq_self.2 fun x hx=>by
  obtain⟨y,hy,rfl⟩:=List.mem_map.1 hx
  rw[h _ (by omega) (by have:=List.mem_range.1 hy;omega)]
  rfl
 rw[this,List.length_map,List.length_range]
 omega
theorem YI {P:Program} {ops:Array Oper} {Q:QT} {L:Nat} (hdown:∀i o,ops[i]?=some o->∀e∈o.after,Region.binds .any e=true->e.on<i) (hch:Zf ops L=true) :
 ∀(m j fuel:Nat) (listed:Array Bool) (a:Act) (w:World),j+m=ops.size->m<=fuel->L<=j->listed.size=ops.size->(∀i,i<j->listed.getD i false=true)->(∀i,j<=i->i<ops.size->listed.getD i true=false)->ZF P ops Q m j a w->wpAny P .any ops Q fuel listed a w:=by
 intro m
 induction m with
 | zero =>
  intro j fuel listed a w hj _ _ hs hd _ hT
  have hrn:Region.ready .any ops listed=[]:=by
   cases hr:Region.ready .any ops listed with
   | nil=>rfl
   | cons x t =>
    have hx:x∈Region.ready .any ops listed:=by rw[hr];simp
    obtain⟨hxu,ox,hox,_⟩:=mem_ready.1 hx
    have hxl:x<ops.size:=(Array.getElem?_eq_some_iff.1 hox).1
    have h1:=hd x (by omega)
    have h':x<listed.size:=by omega
    simp only[Array.getD_eq_getD_getElem?,Array.getElem?_eq_getElem h',Option.getD_some] at h1 hxu
    rw[h1] at hxu
    cases hxu
  cases fuel with
  | zero=>exact⟨hrn,hT⟩
  | succ fuel=>exact⟨fun _=>hT,fun k hk=>by rw[hrn] at hk;cases hk⟩
 | succ m ih =>
  intro j fuel listed a w hj hf hL hs hd hu hT
  cases fuel with
  | zero=>omega
  | succ fuel =>
   have hjl:j<ops.size:=by omega
   have hoj:ops[j]?=some ops[j]:=Array.getElem?_eq_getElem hjl
   have hjr:j∈Region.ready .any ops listed:=mem_ready.2 ⟨hu j zD hjl,_,hoj,fun e he hb=>hd e.on (hdown j _ hoj e he hb)⟩
   refine⟨fun hr=>absurd (hr ▸ hjr) (by simp),fun i hi=>?_⟩
   obtain⟨hiu,o,ho,hall⟩:=mem_ready.1 hi
   have hil:i<ops.size:=(Array.getElem?_eq_some_iff.1 ho).1
   have hij:i=j:=by
    rcases Nat.lt_trichotomy i j with h | h | h
    ·have h1:=hd i h
     have h':i<listed.size:=by omega
     simp only[Array.getD_eq_getD_getElem?,Array.getElem?_eq_getElem h',Option.getD_some] at h1 hiu
     rw[h1] at hiu
     cases hiu
    ·exact h
    ·obtain⟨o',ho',e,he,hb,hon⟩:=ZL hch (show L<i by omega) hil
     rw[ho] at ho'
     cases ho'
     have h1:=hall e he hb
     have h2:=hu e.on (by omega) (by omega)
     have h':e.on<listed.size:=by omega
     simp only[Array.getD_eq_getD_getElem?,Array.getElem?_eq_getElem h',Option.getD_some] at h1 h2
     rw[h1] at h2
     cases h2
   subst hij
   refine wpOp_mono ?_ hT
   intro a' w' hT'
   refine ih (i+1) fuel _ a' w' (by omega) (by omega) (by omega) (by simp[hs]) (fun k hk=>?_) (fun k hk1 hk2=>?_) hT'
   ·by_cases e:k=i
    ·subst e
     exact Zl (by omega)
    ·exact qm (hd k (by omega))
   ·rw[getD_set_ne true (by omega)]
    exact hu k (by omega) hk2
theorem Wc {P:Program} {ops:Array Oper} {Q:QT} {W:World} {a0:Act} {L:Nat} (p:xj) (F:Nat->Qq) (hL:L<ops.size) (hch:Zf ops L=true) (hp:p.ok ops a0.tmps.size=true) (hall:(List.range L).all (fun j=>(p.anc.getD L []).contains j)=true)
 (YX:∀i,i<ops.size->∀l own own' w w',K3 W W.heap.size (p.dep.getD i []) own own' w w'->F i l own w->F i l own' w')
 (hstep:∀i,i<L->K7 P Q W a0 p ops F i)
 (hend:∀a w val own,Below W.heap.size W w->xI ops a0 a->(∀r,r<W.heap.size->own r=1000)->(∀i,i<L->wn ops p F val own a w i)->ZF P ops Q (ops.size - L) L a w) :
 ∀(fuel:Nat) (listed:Array Bool) (a:Act) (w:World),uY listed ops.size<=fuel->(∀k,L<=k->k<ops.size->listed.getD k true=false)->K6 W W.heap.size (fun _=>1000) [] a0 p ops F listed a w->wpAny P .any ops Q fuel listed a w:=by
 have YJ:L<ops.size:=hL
 have hoL:ops[L]?=some ops[L]:=Array.getElem?_eq_getElem YJ
 have hnil:∀(listed:Array Bool) (a:Act) (w:World),listed.getD L true=false->K6 W W.heap.size (fun _=>1000) [] a0 p ops F listed a w->Region.ready .any ops listed≠[]:=by
  intro listed a w Ze hI hr
  have hls:∀i,i<L->listed.getD i false=true:=by
   intro i
   induction i using Nat.strongRecOn with
   | ind i ih =>
    intro hi
    have ho:ops[i]?=some ops[i]:=Array.getElem?_eq_getElem (by omega)
    have h1:=p.ok_at hp ho
    simp only[xj.ok1,Bool.and_eq_true] at h1
    cases hl:listed.getD i true with
    | true =>
     have:=hI.size
     have h':i<listed.size:=by omega
     simpa [h'] using hl
    | false =>
     have:i∈Region.ready .any ops listed:=mem_ready.2 ⟨hl,_,ho,fun e he hb=>by
      have hlt:=Array.all_eq_true'.1 h1.1.1.2 e he
      rw[hb] at hlt
      have hlt':e.on<i:=by simpa using hlt
      exact ih e.on hlt' (by omega)⟩
     rw[hr] at this
     cases this
  have h1:=p.ok_at hp hoL
  simp only[xj.ok1,Bool.and_eq_true] at h1
  have:L∈Region.ready .any ops listed:=mem_ready.2 ⟨Ze,_,hoL,fun e he hb=>by
   have hlt:=Array.all_eq_true'.1 h1.1.1.2 e he
   rw[hb] at hlt
   exact hls e.on (by simpa using hlt)⟩
  rw[hr] at this
  cases this
 intro fuel
 induction fuel with
 | zero =>
  intro listed a w hz Ze hI
  have:=ke YJ hI.size (Ze L zD YJ)
  omega
 | succ fuel ih =>
  intro listed a w hz Ze hI
  refine⟨fun hr=>absurd hr (hnil listed a w (Ze L zD YJ) hI),fun i hi=>?_⟩
  obtain⟨hu,o,ho,uW⟩:=mem_ready.1 hi
  have hlt:i<ops.size:=(Array.getElem?_eq_some_iff.1 ho).1
  have Yk:=xj.anc_listed hp hI i o ho uW
  obtain⟨val,own,zx,hk,_⟩:=hI.facts
  by_cases hiL:L<=i
  ·have hls:∀j,j<L->listed.getD j false=true:=fun j hj=>by
    have zbV:i=L:=by
     rcases Nat.lt_or_ge L i with h | h
     ·exfalso
      obtain⟨o',ho',e,he,hb,hon⟩:=ZL hch h hlt
      rw[ho] at ho'
      cases ho'
      have h1:=uW e he hb
      have h2:=Ze e.on (by omega) (by omega)
      have hs:=hI.size
      have h':e.on<listed.size:=by omega
      simp only[Array.getD_eq_getD_getElem?,Array.getElem?_eq_getElem h',Option.getD_some] at h1 h2
      rw[h1] at h2
      cases h2
     ·omega
    subst zbV
    exact Yk j (by simpa using List.all_eq_true.1 hall j (List.mem_range.2 hj))
   have HT:=hend a w val own hI.base hI.frame zx fun j hj=>hk j (by omega) (hls j hj)
   have HA:=YI (P:=P) (Q:=Q) (fun i o ho e he hb=>by
    have h1:=p.ok_at hp ho
    simp only[xj.ok1,Bool.and_eq_true] at h1
    have hlt:=Array.all_eq_true'.1 h1.1.1.2 e he
    rw[hb] at hlt
    simpa using hlt) hch (ops.size - L) L (fuel+1) listed a w (by omega) (QU hI.size (Nat.le_of_lt YJ) Ze hz) zD hI.size hls Ze HT
   exact HA.2 i hi
  ·have Js:∀j∈p.anc.getD i [],j<ops.size:=fun j hj=>by
    have:=Yk j hj
    have hs:=hI.size
    rcases Nat.lt_or_ge j listed.size with h' | h'
    ·omega
    ·simp[Array.getElem?_eq_none h'] at this
   refine wpOp_mono ?_ (hstep i (by omega) a w val own hI.base hI.frame zx fun j hj=>hk j (Js j hj) (Yk j hj))
   rintro a' w' ⟨v,rfl,hdo,hF⟩
   refine ih _ _ _ (by have:=ke hlt hI.size hu;omega) (fun k hk1 hk2=>by rw[getD_set_ne true (by omega)];exact Ze k hk1 hk2) ⟨by simp[hI.size],?_,hdo.base,kN hI.frame,Xv val i v,jW own w i,?_,?_,fun f hf=>by cases hf⟩
   ·intro k ok hok hkl e he hb
    rcases xo hkl with rfl | hkl
    ·rw[ho] at hok
     cases hok
     exact qm (uW e he hb)
    ·exact qm (hI.down k ok hok hkl e he hb)
   ·intro r hr
    unfold jW
    rw[if_pos (Nat.lt_of_lt_of_le hr hI.base.size)]
    exact zx r hr
   ·intro k hkl hkt
    rcases xo hkt with rfl | hkt
    ·refine⟨fun d hd=>?_,hF⟩
     have h1:=p.ok_at hp ho
     simp only[xj.ok1,Bool.and_eq_true] at h1
     have hod:o.dst=some d:=by simpa [qu,ho] using hd
     have hdl:=h1.1.2
     rw[hod] at hdl
     have Vk:d<a0.tmps.size:=by simpa using hdl
     rw[hd]
     simp only[Act.put,Xv,if_true]
     have hda:d<a.tmps.size:=by rw[hI.frame.size];exact Vk
     simp[hda]
    ·have hok:ops[k]?=some ops[k]:=Array.getElem?_eq_getElem hkl
     have hne:i≠k:=by
      rintro rfl
      have hs:=hI.size
      have h':i<listed.size:=by omega
      simp[h'] at hu hkt
      rw[hu] at hkt
      cases hkt
     refine wD hp YX hok hlt hne ?_ hdo (hk k hkl hkt)
     intro hm
     have:=xj.anc_listed hp hI k ops[k] hok (fun e he hb=>hI.down k _ hok hkt e he hb) i hm
     have hs:=hI.size
     have h':i<listed.size:=by omega
     simp[h'] at hu this
     rw[hu] at this
     cases this
theorem Qp {P:Program} {id:Nat} {ops:Array Oper} {Q:QT} {a0:Act} {w0:World} (anc see wr:List (List Nat)) (fs:List (OpF w0 w0.heap.size)) (n:Nat) (m:Nat) (hn:ops.size=n+(m+1)) (hch:Zf ops n=true) (hm:P.follows .mixedOrders=true) (hp:(xG anc see wr fs).ok ops a0.tmps.size=true) (hall:(List.range n).all (fun j=>((xG anc see wr fs).anc.getD n []).contains j)=true)
 (hstep:∀i,i<n->K7 P Q w0 a0 (xG anc see wr fs) ops (km fs) i)
 (hend:∀a w val own,Below w0.heap.size w0 w->xI ops a0 a->(∀r,r<w0.heap.size->own r=1000)->(∀i,i<n->wn ops (xG anc see wr fs) (km fs) val own a w i)->ZF P ops Q (m+1) n a w) :
 (Code.region id ops true).wp P Q a0 w0:=by
 refine wp_region_any hm (Wc (xG anc see wr fs) (km fs) (by omega) hch hp hall ?_ hstep (by rw[show ops.size - n=m+1 by omega];exact hend) ops.size _ a0 _ ?_ ?_ ?_)
 ·exact X6 anc see wr fs _
 ·unfold uY
  exact Nat.le_trans (List.length_filter_le _ _) (by simp)
 ·intro k _ hk
  simp[hk]
 ·refine⟨by simp,?_,(Below.refl _ w0).drew,⟨rfl,rfl,fun _ _=>rfl⟩,fun _=>undef,fun _=>1000,fun _ _=>rfl,?_,fun f hf=>by cases hf⟩
  ·intro i o ho hl
   have hi:i<ops.size:=(Array.getElem?_eq_some_iff.1 ho).1
   simp[hi] at hl
  ·intro i hi hl
   simp[hi] at hl
def XZ (P:Program) (Q:QT) (W:World) (a0:Act) (p:xj) (ops fo:Array Oper) (F:Nat->Qq) (i:Nat):Prop :=
 ∀(a:Act) (w:World) (val:Nat->Value) (own:Nat->Nat),Below W.heap.size W w->xI fo a0 a->(∀r,r<W.heap.size->own r=1000)->(∀j∈p.anc.getD i [],wn ops p F val own a w j) ->
  wpOp P ops Q i (fun a' w'=>∃v,a'=a.put (qu ops i) v/\Does W W.heap.size (p.wr.getD i []) own w w'/\F i ((p.see.getD i []).map (Xv val i v)) (jW own w i) w') a w
theorem Wd {P:Program} {ops:Array Oper} {Q:QT} {W:World} {a0:Act} {L:Nat} (p:xj) (F:Nat->Qq) (hL:L<ops.size) (hch:Zf ops L=true) (hp:p.ok ops a0.tmps.size=true) (hall:(List.range L).all (fun j=>(p.anc.getD L []).contains j)=true)
 (YX:∀i,i<ops.size->∀l own own' w w',K3 W W.heap.size (p.dep.getD i []) own own' w w'->F i l own w->F i l own' w')
 (hstep:∀i,i<L->XZ P Q W a0 p ops (ops.extract 0 L) F i)
 (hend:∀a w val own,Below W.heap.size W w->xI (ops.extract 0 L) a0 a->(∀r,r<W.heap.size->own r=1000)->(∀i,i<L->wn ops p F val own a w i)->ZF P ops Q (ops.size - L) L a w) :
 ∀(fuel:Nat) (listed:Array Bool) (a:Act) (w:World),uY listed ops.size<=fuel->(∀k,L<=k->k<ops.size->listed.getD k true=false)->K6 W W.heap.size (fun _=>1000) [] a0 p ops F listed a w->xI (ops.extract 0 L) a0 a->wpAny P .any ops Q fuel listed a w:=by
 have YJ:L<ops.size:=hL
 have hoL:ops[L]?=some ops[L]:=Array.getElem?_eq_getElem YJ
 have hnil:∀(listed:Array Bool) (a:Act) (w:World),listed.getD L true=false->K6 W W.heap.size (fun _=>1000) [] a0 p ops F listed a w->Region.ready .any ops listed≠[]:=by
  intro listed a w Ze hI hr
  have hls:∀i,i<L->listed.getD i false=true:=by
   intro i
   induction i using Nat.strongRecOn with
   | ind i ih =>
    intro hi
    have ho:ops[i]?=some ops[i]:=Array.getElem?_eq_getElem (by omega)
    have h1:=p.ok_at hp ho
    simp only[xj.ok1,Bool.and_eq_true] at h1
    cases hl:listed.getD i true with
    | true =>
     have:=hI.size
     have h':i<listed.size:=by omega
     simpa [h'] using hl
    | false =>
     have:i∈Region.ready .any ops listed:=mem_ready.2 ⟨hl,_,ho,fun e he hb=>by
      have hlt:=Array.all_eq_true'.1 h1.1.1.2 e he
      rw[hb] at hlt
      have hlt':e.on<i:=by simpa using hlt
      exact ih e.on hlt' (by omega)⟩
     rw[hr] at this
     cases this
  have h1:=p.ok_at hp hoL
  simp only[xj.ok1,Bool.and_eq_true] at h1
  have:L∈Region.ready .any ops listed:=mem_ready.2 ⟨Ze,_,hoL,fun e he hb=>by
   have hlt:=Array.all_eq_true'.1 h1.1.1.2 e he
   rw[hb] at hlt
   exact hls e.on (by simpa using hlt)⟩
  rw[hr] at this
  cases this
 intro fuel
 induction fuel with
 | zero =>
  intro listed a w hz Ze hI hFO
  have:=ke YJ hI.size (Ze L zD YJ)
  omega
 | succ fuel ih =>
  intro listed a w hz Ze hI hFO
  refine⟨fun hr=>absurd hr (hnil listed a w (Ze L zD YJ) hI),fun i hi=>?_⟩
  obtain⟨hu,o,ho,uW⟩:=mem_ready.1 hi
  have hlt:i<ops.size:=(Array.getElem?_eq_some_iff.1 ho).1
  have Yk:=xj.anc_listed hp hI i o ho uW
  obtain⟨val,own,zx,hk,_⟩:=hI.facts
  by_cases hiL:L<=i
  ·have hls:∀j,j<L->listed.getD j false=true:=fun j hj=>by
    have zbV:i=L:=by
     rcases Nat.lt_or_ge L i with h | h
     ·exfalso
      obtain⟨o',ho',e,he,hb,hon⟩:=ZL hch h hlt
      rw[ho] at ho'
      cases ho'
      have h1:=uW e he hb
      have h2:=Ze e.on (by omega) (by omega)
      have hs:=hI.size
      have h':e.on<listed.size:=by omega
      simp only[Array.getD_eq_getD_getElem?,Array.getElem?_eq_getElem h',Option.getD_some] at h1 h2
      rw[h1] at h2
      cases h2
     ·omega
    subst zbV
    exact Yk j (by simpa using List.all_eq_true.1 hall j (List.mem_range.2 hj))
   have HT:=hend a w val own hI.base hFO zx fun j hj=>hk j (by omega) (hls j hj)
   have HA:=YI (P:=P) (Q:=Q) (fun i o ho e he hb=>by
    have h1:=p.ok_at hp ho
    simp only[xj.ok1,Bool.and_eq_true] at h1
    have hlt:=Array.all_eq_true'.1 h1.1.1.2 e he
    rw[hb] at hlt
    simpa using hlt) hch (ops.size - L) L (fuel+1) listed a w (by omega) (QU hI.size (Nat.le_of_lt YJ) Ze hz) zD hI.size hls Ze HT
   exact HA.2 i hi
  ·have Js:∀j∈p.anc.getD i [],j<ops.size:=fun j hj=>by
    have:=Yk j hj
    have hs:=hI.size
    rcases Nat.lt_or_ge j listed.size with h' | h'
    ·omega
    ·simp[Array.getElem?_eq_none h'] at this
   refine wpOp_mono ?_ (hstep i (by omega) a w val own hI.base hFO zx fun j hj=>hk j (Js j hj) (Yk j hj))
   rintro a' w' ⟨v,rfl,hdo,hF⟩
   refine ih _ _ _ (by have:=ke hlt hI.size hu;omega) (fun k hk1 hk2=>by rw[getD_set_ne true (by omega)];exact Ze k hk1 hk2) ⟨by simp[hI.size],?_,hdo.base,kN hI.frame,Xv val i v,jW own w i,?_,?_,fun f hf=>by cases hf⟩ (by
    have he:qu (ops.extract 0 L) i=qu ops i:=by unfold qu;rw[Array.getElem?_extract,if_pos (by omega),Nat.zero_add]
    rw[<-he]
    exact kN hFO)
   ·intro k ok hok hkl e he hb
    rcases xo hkl with rfl | hkl
    ·rw[ho] at hok
     cases hok
     exact qm (uW e he hb)
    ·exact qm (hI.down k ok hok hkl e he hb)
   ·intro r hr
    unfold jW
    rw[if_pos (Nat.lt_of_lt_of_le hr hI.base.size)]
    exact zx r hr
   ·intro k hkl hkt
    rcases xo hkt with rfl | hkt
    ·refine⟨fun d hd=>?_,hF⟩
     have h1:=p.ok_at hp ho
     simp only[xj.ok1,Bool.and_eq_true] at h1
     have hod:o.dst=some d:=by simpa [qu,ho] using hd
     have hdl:=h1.1.2
     rw[hod] at hdl
     have Vk:d<a0.tmps.size:=by simpa using hdl
     rw[hd]
     simp only[Act.put,Xv,if_true]
     have hda:d<a.tmps.size:=by rw[hI.frame.size];exact Vk
     simp[hda]
    ·have hok:ops[k]?=some ops[k]:=Array.getElem?_eq_getElem hkl
     have hne:i≠k:=by
      rintro rfl
      have hs:=hI.size
      have h':i<listed.size:=by omega
      simp[h'] at hu hkt
      rw[hu] at hkt
      cases hkt
     refine wD hp YX hok hlt hne ?_ hdo (hk k hkl hkt)
     intro hm
     have:=xj.anc_listed hp hI k ops[k] hok (fun e he hb=>hI.down k _ hok hkt e he hb) i hm
     have hs:=hI.size
     have h':i<listed.size:=by omega
     simp[h'] at hu this
     rw[hu] at this
     cases this
theorem xY {P:Program} {id:Nat} {ops:Array Oper} {Q:QT} {a0:Act} {w0:World} (anc see wr:List (List Nat)) (fs:List (OpF w0 w0.heap.size)) (n:Nat) (m:Nat) (hn:ops.size=n+(m+1)) (hch:Zf ops n=true) (hm:P.follows .mixedOrders=true) (hp:(xG anc see wr fs).ok ops a0.tmps.size=true) (hall:(List.range n).all (fun j=>((xG anc see wr fs).anc.getD n []).contains j)=true)
 (hstep:∀i,i<n->XZ P Q w0 a0 (xG anc see wr fs) ops (ops.extract 0 n) (km fs) i)
 (hend:∀a w val own,Below w0.heap.size w0 w->xI (ops.extract 0 n) a0 a->(∀r,r<w0.heap.size->own r=1000)->(∀i,i<n->wn ops (xG anc see wr fs) (km fs) val own a w i)->ZF P ops Q (m+1) n a w) :
 (Code.region id ops true).wp P Q a0 w0:=by
 refine wp_region_any hm (Wd (xG anc see wr fs) (km fs) (by omega) hch hp hall ?_ hstep (by rw[show ops.size - n=m+1 by omega];exact hend) ops.size _ a0 _ ?_ ?_ ?_ ⟨rfl,rfl,fun _ _=>rfl⟩)
 ·exact X6 anc see wr fs _
 ·unfold uY
  exact Nat.le_trans (List.length_filter_le _ _) (by simp)
 ·intro k _ hk
  simp[hk]
 ·refine⟨by simp,?_,(Below.refl _ w0).drew,⟨rfl,rfl,fun _ _=>rfl⟩,fun _=>undef,fun _=>1000,fun _ _=>rfl,?_,fun f hf=>by cases hf⟩
  ·intro i o ho hl
   have hi:i<ops.size:=(Array.getElem?_eq_some_iff.1 ho).1
   simp[hi] at hl
  ·intro i hi hl
   simp[hi] at hl
theorem We {P:Program} {ops:Array Oper} {Q:QT} {W:World} {a0:Act} {L z:Nat} (p:xj) (F:Nat->Qq) (hL:L<ops.size) (hch:Zf ops L=true) (hp:p.ok ops a0.tmps.size=true) (hzL:z<L) (hall:(List.range L).all (fun j=>j == z || (p.anc.getD L []).contains j)=true)
 (YX:∀i,i<ops.size->∀l own own' w w',K3 W W.heap.size (p.dep.getD i []) own own' w w'->F i l own w->F i l own' w')
 (hstep:∀i,i<L->XZ P Q W a0 p ops (ops.extract 0 L) F i)
 (hend:∀a w val own,Below W.heap.size W w->xI (ops.extract 0 L) a0 a->(∀r,r<W.heap.size->own r=1000)->(∀i,i<L->wn ops p F val own a w i)->ZF P ops Q (ops.size - L) L a w) :
 ∀(fuel:Nat) (listed:Array Bool) (a:Act) (w:World),uY listed ops.size<=fuel->listed.getD z false=true->(∀k,L<=k->k<ops.size->listed.getD k true=false)->K6 W W.heap.size (fun _=>1000) [] a0 p ops F listed a w->xI (ops.extract 0 L) a0 a->wpAny P .any ops Q fuel listed a w:=by
 have YJ:L<ops.size:=hL
 have hoL:ops[L]?=some ops[L]:=Array.getElem?_eq_getElem YJ
 have hnil:∀(listed:Array Bool) (a:Act) (w:World),listed.getD L true=false->K6 W W.heap.size (fun _=>1000) [] a0 p ops F listed a w->Region.ready .any ops listed≠[]:=by
  intro listed a w Ze hI hr
  have hls:∀i,i<L->listed.getD i false=true:=by
   intro i
   induction i using Nat.strongRecOn with
   | ind i ih =>
    intro hi
    have ho:ops[i]?=some ops[i]:=Array.getElem?_eq_getElem (by omega)
    have h1:=p.ok_at hp ho
    simp only[xj.ok1,Bool.and_eq_true] at h1
    cases hl:listed.getD i true with
    | true =>
     have:=hI.size
     have h':i<listed.size:=by omega
     simpa [h'] using hl
    | false =>
     have:i∈Region.ready .any ops listed:=mem_ready.2 ⟨hl,_,ho,fun e he hb=>by
      have hlt:=Array.all_eq_true'.1 h1.1.1.2 e he
      rw[hb] at hlt
      have hlt':e.on<i:=by simpa using hlt
      exact ih e.on hlt' (by omega)⟩
     rw[hr] at this
     cases this
  have h1:=p.ok_at hp hoL
  simp only[xj.ok1,Bool.and_eq_true] at h1
  have:L∈Region.ready .any ops listed:=mem_ready.2 ⟨Ze,_,hoL,fun e he hb=>by
   have hlt:=Array.all_eq_true'.1 h1.1.1.2 e he
   rw[hb] at hlt
   exact hls e.on (by simpa using hlt)⟩
  rw[hr] at this
  cases this
 intro fuel
 induction fuel with
 | zero =>
  intro listed a w hz hzl Ze hI hFO
  have:=ke YJ hI.size (Ze L zD YJ)
  omega
 | succ fuel ih =>
  intro listed a w hz hzl Ze hI hFO
  refine⟨fun hr=>absurd hr (hnil listed a w (Ze L zD YJ) hI),fun i hi=>?_⟩
  obtain⟨hu,o,ho,uW⟩:=mem_ready.1 hi
  have hlt:i<ops.size:=(Array.getElem?_eq_some_iff.1 ho).1
  have Yk:=xj.anc_listed hp hI i o ho uW
  obtain⟨val,own,zx,hk,_⟩:=hI.facts
  by_cases hiL:L<=i
  ·have hls:∀j,j<L->listed.getD j false=true:=fun j hj=>by
    have zbV:i=L:=by
     rcases Nat.lt_or_ge L i with h | h
     ·exfalso
      obtain⟨o',ho',e,he,hb,hon⟩:=ZL hch h hlt
      rw[ho] at ho'
      cases ho'
      have h1:=uW e he hb
      have h2:=Ze e.on (by omega) (by omega)
      have hs:=hI.size
      have h':e.on<listed.size:=by omega
      simp only[Array.getD_eq_getD_getElem?,Array.getElem?_eq_getElem h',Option.getD_some] at h1 h2
      rw[h1] at h2
      cases h2
     ·omega
    subst zbV
    have hj2:=List.all_eq_true.1 hall j (List.mem_range.2 hj)
    simp only[Bool.or_eq_true,beq_iff_eq] at hj2
    rcases hj2 with rfl | hj2
    ·exact hzl
    ·exact Yk j (by simpa using hj2)
   have HT:=hend a w val own hI.base hFO zx fun j hj=>hk j (by omega) (hls j hj)
   have HA:=YI (P:=P) (Q:=Q) (fun i o ho e he hb=>by
    have h1:=p.ok_at hp ho
    simp only[xj.ok1,Bool.and_eq_true] at h1
    have hlt:=Array.all_eq_true'.1 h1.1.1.2 e he
    rw[hb] at hlt
    simpa using hlt) hch (ops.size - L) L (fuel+1) listed a w (by omega) (QU hI.size (Nat.le_of_lt YJ) Ze hz) zD hI.size hls Ze HT
   exact HA.2 i hi
  ·have Js:∀j∈p.anc.getD i [],j<ops.size:=fun j hj=>by
    have:=Yk j hj
    have hs:=hI.size
    rcases Nat.lt_or_ge j listed.size with h' | h'
    ·omega
    ·simp[Array.getElem?_eq_none h'] at this
   refine wpOp_mono ?_ (hstep i (by omega) a w val own hI.base hFO zx fun j hj=>hk j (Js j hj) (Yk j hj))
   rintro a' w' ⟨v,rfl,hdo,hF⟩
   refine ih _ _ _ (by have:=ke hlt hI.size hu;omega) (qm hzl) (fun k hk1 hk2=>by rw[getD_set_ne true (by omega)];exact Ze k hk1 hk2) ⟨by simp[hI.size],?_,hdo.base,kN hI.frame,Xv val i v,jW own w i,?_,?_,fun f hf=>by cases hf⟩ (by
    have he:qu (ops.extract 0 L) i=qu ops i:=by unfold qu;rw[Array.getElem?_extract,if_pos (by omega),Nat.zero_add]
    rw[<-he]
    exact kN hFO)
   ·intro k ok hok hkl e he hb
    rcases xo hkl with rfl | hkl
    ·rw[ho] at hok
     cases hok
     exact qm (uW e he hb)
    ·exact qm (hI.down k ok hok hkl e he hb)
   ·intro r hr
    unfold jW
    rw[if_pos (Nat.lt_of_lt_of_le hr hI.base.size)]
    exact zx r hr
   ·intro k hkl hkt
    rcases xo hkt with rfl | hkt
    ·refine⟨fun d hd=>?_,hF⟩
     have h1:=p.ok_at hp ho
     simp only[xj.ok1,Bool.and_eq_true] at h1
     have hod:o.dst=some d:=by simpa [qu,ho] using hd
     have hdl:=h1.1.2
     rw[hod] at hdl
     have Vk:d<a0.tmps.size:=by simpa using hdl
     rw[hd]
     simp only[Act.put,Xv,if_true]
     have hda:d<a.tmps.size:=by rw[hI.frame.size];exact Vk
     simp[hda]
    ·have hok:ops[k]?=some ops[k]:=Array.getElem?_eq_getElem hkl
     have hne:i≠k:=by
      rintro rfl
      have hs:=hI.size
      have h':i<listed.size:=by omega
      simp[h'] at hu hkt
      rw[hu] at hkt
      cases hkt
     refine wD hp YX hok hlt hne ?_ hdo (hk k hkl hkt)
     intro hm
     have:=xj.anc_listed hp hI k ops[k] hok (fun e he hb=>hI.down k _ hok hkt e he hb) i hm
     have hs:=hI.size
     have h':i<listed.size:=by omega
     simp[h'] at hu this
     rw[hu] at this
     cases this
theorem VR {P:Program} {id:Nat} {ops:Array Oper} {Q:QT} {a0:Act} {w0:World} (anc see wr:List (List Nat)) (fs:List (OpF w0 w0.heap.size)) (n:Nat) (m:Nat) (z:Nat) (z0:Value) (hn:ops.size=n+(m+1)) (hch:Zf ops n=true) (hm:P.follows .mixedOrders=true) (hp:(xG anc see wr fs).ok ops a0.tmps.size=true) (hall:(List.range n).all (fun j=>j == z || ((xG anc see wr fs).anc.getD n []).contains j)=true)
 (hzn:z<n) (hs:Region.noSelect ops=true) (hfr:Region.free .any ops (Array.replicate ops.size false) z=true) (hrd:(Region.ready .any ops (Array.replicate ops.size false)).contains z=true) (hna:(match ops[z]? with | some o=>o.after.size == 0 | none=>false)=true)
 (hQ:∀c a w,Q (.panic c) (a.put (qu ops z) z0) w->Q (.panic c) a w) {o0:Oper} (ho0:ops[z]?=some o0) (hy:Yields P ops o0 z0 a0) (hF0:km fs z (((xG anc see wr fs).see.getD z []).map (Xv (fun _=>undef) z z0)) (fun _=>1000) w0.drew)
 (hstep:∀i,i<n->XZ P Q w0 a0 (xG anc see wr fs) ops (ops.extract 0 n) (km fs) i)
 (hend:∀a w val own,Below w0.heap.size w0 w->xI (ops.extract 0 n) a0 a->(∀r,r<w0.heap.size->own r=1000)->(∀i,i<n->wn ops (xG anc see wr fs) (km fs) val own a w i)->ZF P ops Q (m+1) n a w) :
 (Code.region id ops true).wp P Q a0 w0:=by
 have hzl:z<ops.size:=by omega
 have hzo:ops[z]?=some ops[z]:=Array.getElem?_eq_getElem hzl
 have hdz:qu ops z=ops[z].dst:=by unfold qu;rw[hzo];rfl
 have hfz:qu (ops.extract 0 n) z=qu ops z:=by unfold qu;rw[Array.getElem?_extract,if_pos (by omega),Nat.zero_add]
 have hsz:ops.size=(ops.size - 1)+1:=by omega
 rw[hzo] at hna
 have hna':ops[z].after.size=0:=by simpa using hna
 refine wp_region_any hm ?_
 have H:wpAny P .any ops Q ((ops.size - 1)+1) (Array.replicate ops.size false) a0 w0.drew:=by
  refine wpAny_take hzo hs hfr hrd (by rw[<-hdz];exact hQ) (by rw[hzo] at ho0;cases ho0;exact hy) ?_
  rw[<-hdz]
  refine We (z:=z) (xG anc see wr fs) (km fs) (by omega) hch hp hzn hall (X6 anc see wr fs _) hstep (by rw[show ops.size - n=m+1 by omega];exact hend) _ _ _ _ ?_ ?_ ?_ ?_ ?_
  ·have h1:=ke (l:=Array.replicate ops.size false) hzl (by simp) (by simp[hzl])
   have h2:uY (Array.replicate ops.size false) ops.size<=ops.size:=by
    unfold uY
    exact Nat.le_trans (List.length_filter_le _ _) (by simp)
   omega
  ·simp[hzl]
  ·intro k h1 h2
   rw[getD_set_ne true (by omega)]
   simp[h2]
  ·refine⟨by simp,?_,(Below.refl _ w0).drew,kN ⟨rfl,rfl,fun _ _=>rfl⟩,Xv (fun _=>undef) z z0,fun _=>1000,fun _ _=>rfl,?_,fun f hf=>by cases hf⟩
   ·intro i o ho hl e he
    rcases xo hl with rfl | hl
    ·rw[hzo] at ho
     cases ho
     rw[Array.eq_empty_of_size_eq_zero hna'] at he
     simp at he
    ·have hi:i<ops.size:=(Array.getElem?_eq_some_iff.1 ho).1
     simp[hi] at hl
   ·intro i hi hl
    rcases xo hl with rfl | hl
    ·refine⟨fun d hd=>?_,hF0⟩
     have h1:=xj.ok_at hp hzo
     simp only[xj.ok1,Bool.and_eq_true] at h1
     have hod:ops[i].dst=some d:=by rw[<-hdz];exact hd
     have hdl:=h1.1.2
     rw[hod] at hdl
     have Vk:d<a0.tmps.size:=by simpa using hdl
     rw[hd]
     simp[Act.put,Xv,Vk]
    ·simp[hi] at hl
  ·rw[<-hfz]
   exact kN ⟨rfl,rfl,fun _ _=>rfl⟩
 rw[<-hsz] at H
 exact H
end Go.Proofs.YtjbgpcileapogaaGreat
