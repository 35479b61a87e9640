/-
  Plain words for what a program of this project looks like in memory (operations, methods), and how such facts are carried from one world to a later one. Nothing of the translation is used here.
-/
import Derived.Test.YtbjgjjkgfnfejaaGreatDoorAb
import Derived.WalkSpells
import Derived.Deep.OwnRows
import Derived.Deep.LoopGhost
import Derived.Test.YtbjgjjkgfnfejaaGreatDoorProg
namespace Go.Proofs.YtbjgjjkgfnfejaaGreatDoor
open Go.RowKit
def yo (w:World) (v:Value) (ops:yH):Prop :=
 ∃(a:Option Addr) (cap:Nat),v=.slice a ops.length cap/\ops.length<=maxLen /\
  ∀i,(h:i<ops.length)->∃b o,a=some ⟨b,o,none⟩/\w.cell? (zH b (o+i * 2))=some (zI ops[i].1)/\w.cell? (zH b (o+i * 2+1))=some (zI ops[i].2)
def yD (w:World) (v:Value) (ms:zM):Prop :=
 ∃(a:Option Addr) (cap:Nat),v=.slice a ms.length cap/\ms.length<=maxLen /\
  ∀i,(h:i<ms.length)->∃b o vo,a=some ⟨b,o,none⟩/\w.cell? (zH b (o+i * 3))=some (zI ms[i].1)/\w.cell? (zH b (o+i * 3+1))=some (zI ms[i].2.1) /\
   w.cell? (zH b (o+i * 3+2))=some vo/\yo w vo ms[i].2.2
theorem zc {w w':World} (hb:zO w w') {p:Addr} {v:Value} (h:w.cell? p=some v):w'.cell? p=some v:=by
 rw[hb.cell (World.block_lt_of_cell? _ _ h)];exact h
theorem yo.below {w w':World} {v:Value} {ops:yH} (h:yo w v ops) (hb:zO w w'):yo w' v ops:=by
 obtain⟨a,cap,hv,hl,hc⟩:=h
 refine⟨a,cap,hv,hl,fun i hi=>?_⟩
 obtain⟨b,o,ha,h0,h1⟩:=hc i hi
 exact⟨b,o,ha,zc hb h0,zc hb h1⟩
theorem yD.below {w w':World} {v:Value} {ms:zM} (h:yD w v ms) (hb:zO w w'):yD w' v ms:=by
 obtain⟨a,cap,hv,hl,hc⟩:=h
 refine⟨a,cap,hv,hl,fun i hi=>?_⟩
 obtain⟨b,o,vo,ha,h0,h1,h2,h3⟩:=hc i hi
 exact⟨b,o,vo,ha,zc hb h0,zc hb h1,zc hb h2,h3.below hb⟩
theorem yp {w w':World} (hb:zO w w') {b:Nat} {t:TypeId} {n:Nat} {f:Nat->Value} (h:w.rowIs b t n f):w'.rowIs b t n f:=h.of_block (hb.block b h.lt)
def zfq (ops:yH) (j:Nat):Value:=zI (if j % 2=0 then(ops.getD (j / 2) (0,0)).1 else(ops.getD (j / 2) (0,0)).2)
theorem Vq (w:World) (n:Nat) (t:TypeId) (ops:yH):(w.alloc (.cells (madeCells #[zI 0,zI 0] n) t)).rowIs w.heap.size t n (fun j=>if j<0 * 2 then zfq ops j else zI 0):=by
 refine⟨_,Go.Deep.blk_alloc_new _ _,size_madeCells _ _,fun i hi=>?_⟩
 have h:(i % 2=0)\/(i % 2=1):=by omega
 rcases h with h | h <;> simp[madeCells,hi,h]
def Own (B:Nat) (v:Value):Prop:=∃g l c,v=zK g 0 l c/\B<=g
theorem Own.mono {B B':Nat} {v:Value} (h:Own B v) (hB:B'<=B):Own B' v:=by
 obtain⟨g,l,c,hv,hg⟩:=h
 exact⟨g,l,c,hv,by omega⟩
theorem yo.set {w:World} {v:Value} {ops:yH} {B:Nat} (h:yo w v ops) (ho:Own B v) {p:Addr} (hp:p.block<B) (u:Value):yo (w.setCell p u) v ops:=by
 obtain⟨a,cap,hv,hl,hc⟩:=h
 obtain⟨g,l,c,rfl,hg⟩:=ho
 refine⟨a,cap,hv,hl,fun i hi=>?_⟩
 obtain⟨b,o,ha,h0,h1⟩:=hc i hi
 have hbg:b=g:=by
  rw[ha] at hv
  injection hv with h1 _ _
  injection h1 with h1
  injection h1 with h1 _
  exact h1.symm
 refine⟨b,o,ha,?_,?_⟩
 ·rw[World.cell?_setCell_other _ _ _ _ (fun e=>by have:=congrArg Addr.block e;simp at this;omega)];exact h0
 ·rw[World.cell?_setCell_other _ _ _ _ (fun e=>by have:=congrArg Addr.block e;simp at this;omega)];exact h1
def vW (B:Nat) (w:World) (v:Value) (ms:zM):Prop :=
 ∃(g cap:Nat),v=zK g 0 ms.length cap/\B<=g/\ms.length<=maxLen /\
  ∀i,(h:i<ms.length)->∃vo,w.cell? (zH g (0+i * 3))=some (zI ms[i].1)/\w.cell? (zH g (0+i * 3+1))=some (zI ms[i].2.1) /\
   w.cell? (zH g (0+i * 3+2))=some vo/\yo w vo ms[i].2.2/\Own B vo
theorem vW.mono {B B':Nat} {w:World} {v:Value} {ms:zM} (h:vW B w v ms) (hB:B'<=B):vW B' w v ms:=by
 obtain⟨g,cap,hv,hg,hl,hc⟩:=h
 refine⟨g,cap,hv,by omega,hl,fun i hi=>?_⟩
 obtain⟨vo,h0,h1,h2,h3,h4⟩:=hc i hi
 exact⟨vo,h0,h1,h2,h3,h4.mono hB⟩
theorem vW.below {B:Nat} {w w':World} {v:Value} {ms:zM} (h:vW B w v ms) (hb:zO w w'):vW B w' v ms:=by
 obtain⟨g,cap,hv,hg,hl,hc⟩:=h
 refine⟨g,cap,hv,hg,hl,fun i hi=>?_⟩
 obtain⟨vo,h0,h1,h2,h3,h4⟩:=hc i hi
 exact⟨vo,zc hb h0,zc hb h1,zc hb h2,h3.below hb,h4⟩
theorem vW.set {B:Nat} {w:World} {v:Value} {ms:zM} (h:vW B w v ms) {p:Addr} (hp:p.block<B) (u:Value):vW B (w.setCell p u) v ms:=by
 obtain⟨g,cap,hv,hg,hl,hc⟩:=h
 refine⟨g,cap,hv,hg,hl,fun i hi=>?_⟩
 obtain⟨vo,h0,h1,h2,h3,h4⟩:=hc i hi
 have key:∀o x,w.cell? (zH g o)=some x->(w.setCell p u).cell? (zH g o)=some x:=fun o x hx=>by
  rw[World.cell?_setCell_other _ _ _ _ (fun e=>by have:=congrArg Addr.block e;simp at this;omega)];exact hx
 exact⟨vo,key _ _ h0,key _ _ h1,key _ _ h2,h3.set h4 hp u,h4⟩
structure Y8 (w wr:World) (vp:Value) (x t:Int) (vo:Value):Prop where
 p:wr.cell? (zH w.heap.size 0)=some vp
 a:wr.cell? (zH (w.heap.size+1) 0)=some (zI x)
 b:wr.cell? (zH (w.heap.size+1) 1)=some (zI t)
 c:wr.cell? (zH (w.heap.size+1) 2)=some vo
 below:zO w wr
theorem Y8.new (w:World) (vp:Value) (x t:Int) (vo:Value) (t1 t2:TypeId):Y8 w ((w.alloc (.cells #[vp] t1)).alloc (.cells #[.int .i64 x,.int .i64 t,vo] t2)) vp x t vo:=by
 refine⟨?_,?_,?_,?_,(zR _ _).alloc (by simp) _⟩
 all_goals simp[go_sem]
theorem Y8.go {w wr w1:World} {vp:Value} {x t:Int} {vo:Value} (h:Y8 w wr vp x t vo) (hb:zO wr w1):Y8 w w1 vp x t vo :=
 ⟨zc hb h.p,zc hb h.a,zc hb h.b,zc hb h.c,h.below.trans (hb.mono h.below.size)⟩
structure Cl where
 m:Int
 pc:Int
 zg:yH
 zf:yH
 zi:Int
 zv:Bool
structure Hp where
 za:List Cl
 now:Int
 born:Int
 zm:yH
 code:Int
structure zdh (w:World) (b o:Nat) (vt vs:Value) (c:Cl):Prop where
 c0:w.cell? (zH b o)=some (zI c.m)
 c1:w.cell? (zH b (o+1))=some (zI c.pc)
 c2:w.cell? (zH b (o+2))=some vt
 c3:w.cell? (zH b (o+3))=some vs
 c4:w.cell? (zH b (o+4))=some (zI c.zi)
 c5:w.cell? (zH b (o+5))=some (.bool c.zv)
 t:yo w vt c.zg
 s:yo w vs c.zf
theorem zdh.below {w w':World} {b o:Nat} {vt vs:Value} {c:Cl} (h:zdh w b o vt vs c) (hb:zO w w'):zdh w' b o vt vs c :=
 ⟨zc hb h.c0,zc hb h.c1,zc hb h.c2,zc hb h.c3,zc hb h.c4,zc hb h.c5,h.t.below hb,h.s.below hb⟩
def jD (w:World) (v:Value) (cs:List Cl):Prop :=
 ∃(a:Option Addr) (cap:Nat),v=.slice a cs.length cap/\cs.length<=maxLen /\
  ∀i,(h:i<cs.length)->∃b o vt vs,a=some ⟨b,o,none⟩/\zdh w b (o+i * 6) vt vs cs[i]
theorem jD.below {w w':World} {v:Value} {cs:List Cl} (h:jD w v cs) (hb:zO w w'):jD w' v cs:=by
 obtain⟨a,cap,hv,hl,hc⟩:=h
 refine⟨a,cap,hv,hl,fun i hi=>?_⟩
 obtain⟨b,o,vt,vs,ha,h0⟩:=hc i hi
 exact⟨b,o,vt,vs,ha,h0.below hb⟩
theorem jD.nil (w:World):jD w (zQ) []:=⟨none,0,rfl,Nat.zero_le _,fun _ hi=>absurd hi yB⟩
def jK (vc vs:Value) (h:Hp):Array Value:=#[vc,zI h.now,zI h.born,vs,zI h.code]
structure wu (w:World) (vc vs:Value) (h:Hp):Prop where
 c:jD w vc h.za
 s:yo w vs h.zm
theorem wu.below {w w':World} {vc vs:Value} {h:Hp} (k:wu w vc vs h) (hb:zO w w'):wu w' vc vs h:=⟨k.c.below hb,k.s.below hb⟩
theorem yo.shape {w:World} {v:Value} {ops:yH} (h:yo w v ops):∃a c,v=.slice a ops.length c:=by
 obtain⟨a,c,hv,_⟩:=h
 exact⟨a,c,hv⟩
theorem jD.shape {w:World} {v:Value} {cs:List Cl} (h:jD w v cs):∃a c,v=.slice a cs.length c:=by
 obtain⟨a,c,hv,_⟩:=h
 exact⟨a,c,hv⟩
def Cl.small (c:Cl):Prop:=c.zg.length<=1048576/\c.zf.length<=1048576
def Hp.small (h:Hp):Prop:=h.za.length<=1048576/\(∀i,(hi:i<h.za.length)->h.za[i].small)/\h.zm.length<=1048576
def NF (B:Nat) (w:World):Prop:=∀g o,B<=g->w.frozen? (zH g o)=false
theorem NF.alloc {B:Nat} {w:World} (h:NF B w) (cs:Array Value) (t:TypeId):NF B (w.alloc (.cells cs t)):=fun g o hg=>by
 by_cases e:g=w.heap.size
 ·subst e
  unfold World.frozen?
  rw[Go.Deep.blk_alloc_new]
  simp
 ·by_cases hl:g<w.heap.size
  ·rw[World.frozen?_of_block (a:=⟨g,o,none⟩) (Below.heap_alloc w _ g hl)];exact h g o hg
  ·unfold World.frozen?
   rw[Array.getElem?_eq_none (by show(w.alloc _).heap.size<=g;rw[World.size_alloc];omega)]
theorem NF.set {B:Nat} {w:World} (h:NF B w) (p:Addr) (v:Value):NF B (w.setCell p v):=fun g o hg=>by rw[World.frozen?_setCell];exact h g o hg
def Uk (w:World) (v:Value) (ms:zM):Prop :=
 ∃(g cap:Nat),v=zK g 0 ms.length cap/\∀i,i<ms.length->∃vo,w.cell? (zH g (i * 3+2))=some vo/\Own (g+1) vo
theorem Uk.set {w:World} {v:Value} {ms:zM} {B:Nat} (h:Uk w v ms) (hB:Own B v) {p:Addr} (hp:p.block<B) (u:Value):Uk (w.setCell p u) v ms:=by
 obtain⟨g,cap,rfl,hc⟩:=h
 obtain⟨g',_,_,e,hg⟩:=hB
 obtain rfl:g=g':=by injection e with e;injection e with e;injection e
 refine⟨g,cap,rfl,fun i hi=>?_⟩
 obtain⟨vo,h1,h2⟩:=hc i hi
 exact⟨vo,by rw[World.cell?_setCell_other _ _ _ _ (fun e=>by have:=congrArg Addr.block e;simp at this;omega)];exact h1,h2⟩
theorem Tryz.infoOp:(Tryz.prog.info? 70).map (fun i=>(i.zero,i.size,i.bytes))=some (some (.agg #[zI 0,zI 0]),2,16):=by kernel_rfl
theorem Tryz.infoMeth:(Tryz.prog.info? 68).map (fun i=>(i.zero,i.size,i.bytes))=some (some (.agg #[zI 0,zI 0,zQ]),3,40):=by kernel_rfl
def qC (n lo hi:Int):Bool:=decide (lo<=n) && decide (n<=hi)
theorem zF {n lo hi:Int}:qC n lo hi=true ↔ lo<=n/\n<=hi:=by simp[qC]
theorem qc {n lo hi:Int}:qC n lo hi=false ↔ ¬(lo<=n/\n<=hi):=by
 rw[<-zF];simp
def kg (nm no:Nat) (t k a:Int):Bool :=
 if k=1 then qC a 0 99
 else if k=2\/k=3 then qC a 0 (t - 1)
 else if k=7\/k=8 then qC a 0 ((no:Int) - 1)
 else if k=9 then qC a 0 ((nm:Int) - 1)
 else if k=13\/k=14 then qC a 0 3
 else qC k 1 18 && (a == 0)
def VZ (nm:Nat) (t:Int) (ops:yH):Bool:=ops.all fun op=>kg nm ops.length t op.1 op.2
def qd (nm:Nat) (m:zP):Bool :=
 qC m.1 0 2 && qC m.2.1 m.1 4 && decide (m.2.2.length<=14) && VZ nm m.2.1 m.2.2
def yr (ms:zM):Bool :=
 qC ms.length 1 4 && ((ms.getD 0 (0,0,[])).1 == 0) && ms.all (qd ms.length)
theorem Xr {α:Type} {l:List α} {p:α->Bool} (h:∀i,(hi:i<l.length)->p l[i]=true):l.all p=true:=by
 rw[List.all_eq_true]
 intro x hx
 obtain⟨i,hi,rfl⟩:=List.getElem_of_mem hx
 exact h i hi
theorem QR {α:Type} {l:List α} {p:α->Bool} {i:Nat} (hi:i<l.length) (h:p l[i]=false):l.all p=false:=by
 rw[List.all_eq_false]
 exact⟨_,List.getElem_mem hi,by simp[h]⟩
theorem V0 {nm:Nat} {t:Int} {ops:yH} (h:∀i,(hi:i<ops.length)->kg nm ops.length t ops[i].1 ops[i].2=true):VZ nm t ops=true:=Xr h
theorem WZ {nm:Nat} {t:Int} {ops:yH} {i:Nat} (hi:i<ops.length) (h:kg nm ops.length t ops[i].1 ops[i].2=false):VZ nm t ops=false:=QR hi h
theorem VU {nm:Nat} {x t:Int} {ops:yH} (h1:qC x 0 2=true) (h2:qC t x 4=true) (h3:ops.length<=14) {b:Bool} (h4:VZ nm t ops=b):qd nm (x,t,ops)=b:=by
 simp[qd,h1,h2,h3,h4]
theorem QB {nm:Nat} {x t:Int} {ops:yH} (h:qC x 0 2=false):qd nm (x,t,ops)=false:=by simp[qd,h]
theorem QC {nm:Nat} {x t:Int} {ops:yH} (h:qC t x 4=false):qd nm (x,t,ops)=false:=by simp[qd,h]
theorem Kx {nm:Nat} {x t:Int} {ops:yH} (h:¬ops.length<=14):qd nm (x,t,ops)=false:=by simp[qd,h]
theorem XI (nm no:Nat) (t k a:Int) (h1:¬k=1) (h2:¬k=2) (h3:¬k=3) (h7:¬k=7) (h8:¬k=8) (h9:¬k=9) (Uw:¬k=13) (K1:¬k=14):kg nm no t k a=(qC k 1 18 && (a == 0)):=by
 simp[kg,h1,h2,h3,h7,h8,h9,Uw,K1]
theorem WY {nm no:Nat} {t k a:Int} (h:qC k 1 18=false):kg nm no t k a=false:=by
 rw[qc] at h
 rw[XI nm no t k a (by omega) (by omega) (by omega) (by omega) (by omega) (by omega) (by omega) (by omega),qc.2 h]
 rfl
theorem zo {a b:Bool} (h:a=b):Ending.returned (.bool a)=.returned (.bool b):=by rw[h]
def qQ (n:Int) (k a:Int):Bool:=if k=0 then a == 0 else if k=1 then qC a 0 999 else if k=2 then qC a 0 (n - 1) else false
def yA (n:Int) (l:yH):Bool:=l.all fun v=>qQ n v.1 v.2
theorem KX {n:Int} {l:yH} (h:∀i,(hi:i<l.length)->qQ n l[i].1 l[i].2=true):yA n l=true:=Xr h
theorem zdd {n:Int} {l:yH} {i:Nat} (hi:i<l.length) (h:qQ n l[i].1 l[i].2=false):yA n l=false:=QR hi h
def xN (ms:zM) (n:Nat) (c:Cl):Bool :=
 qC c.m 0 ((ms.length:Int) - 1) && qC c.pc 0 ((ms.getD c.m.toNat (0,0,[])).2.2.length:Int) && decide ((c.zg.length:Int)=(ms.getD c.m.toNat (0,0,[])).2.1) && decide (c.zf.length<=6) &&
 (qC c.zi (-1) ((n:Int) - 1) && yA n c.zg && yA n c.zf && (!c.zv || (c.zi == -1 && c.zf.length == 0)))
structure xM where
 anc:List (List Nat)
 see:List (List Nat)
 dep:List (List Nat)
 wr:List (List Nat)
abbrev Qn:=List Value->(Nat->Nat)->World->Prop
abbrev QT:=Exit->Act->World->Prop
def qP (ops:Array Oper) (i:Nat):Option Tmp:=(ops[i]?).bind (·.dst)
def xM.ok1 (p:xM) (ops:Array Oper) (n:Nat) (i:Nat) (o:Oper):Bool :=
 (p.anc.getD i []).all (fun j=>o.after.any fun e=>Region.binds .any e && (e.on == j || (p.anc.getD e.on []).contains j)) &&
 (p.see.getD i []).all (fun j=>j == i || (p.anc.getD i []).contains j) &&
 o.after.all (fun e=>!Region.binds .any e || Nat.blt e.on i) &&
 (match o.dst with | some d=>Nat.blt d n | none=>true) &&
 (List.range ops.size).all (fun k=>k == i || (((p.wr.getD k []).all (fun x=>!(p.dep.getD i []).contains x) || (p.anc.getD i []).contains k) && (match o.dst with | some d=>qP ops k != some d | none=>true)))
def xM.ok (p:xM) (ops:Array Oper) (n:Nat):Bool:=(List.range ops.size).all fun i=>match ops[i]? with | some o=>p.ok1 ops n i o | none=>false
structure Uj (W:World) (B:Nat) (D:List Nat) (own own':Nat->Nat) (w w':World):Prop where
 base:Below B W w'
 size:w.heap.size<=w'.heap.size
 mine:∀r,r<w.heap.size->own' r=own r
 blk:∀r,r<w.heap.size->own r∈D->w'.heap[r]?=w.heap[r]?
 row:∀g T n f,own g<900->w.rowIs g T n f->∃f',w'.rowIs g T n f'
def kG (own:Nat->Nat) (w:World) (i:Nat):Nat->Nat:=fun r=>if r<w.heap.size then own r else i
structure Does (W:World) (B:Nat) (Wr:List Nat) (own:Nat->Nat) (w w':World):Prop where
 base:Below B W w'
 size:w.heap.size<=w'.heap.size
 blk:∀r,r<w.heap.size->own r∉Wr->w'.heap[r]?=w.heap[r]?
 row:∀g T n f,own g<900->w.rowIs g T n f->∃f',w'.rowIs g T n f'
theorem Does.keep {W:World} {B:Nat} {Wr D:List Nat} {own:Nat->Nat} {w w':World} {i:Nat} (h:Does W B Wr own w w') (hd:∀x∈Wr,x∉D):Uj W B D own (kG own w i) w w' :=
 ⟨h.base,h.size,fun _ hr=>if_pos hr,fun r hr hD=>h.blk r hr fun hx=>hd _ hx hD,h.row⟩
theorem Does.same {W w:World} {B:Nat} (hb:Below B W w) (own:Nat->Nat) (Wr:List Nat):Does W B Wr own w w:=⟨hb,Nat.le_refl _,fun _ _ _=>rfl,fun _ _ _ f _ h=>⟨f,h⟩⟩
theorem Does.below {W w w':World} {B:Nat} (hBW:B<=W.heap.size) (hb:Below B W w) (h:zO w w') (own:Nat->Nat) (Wr:List Nat):Does W B Wr own w w':=⟨hb.trans (h.mono (Nat.le_trans hBW hb.size)),h.size,fun r hr _=>h.block r hr,fun _ _ _ f _ k=>⟨f,yp h k⟩⟩
theorem Does.trans {W w w' w'':World} {B:Nat} {own:Nat->Nat} {Wr:List Nat} (h:Does W B Wr own w w') (k:Does W B Wr own w' w''):Does W B Wr own w w'' :=
 ⟨k.base,Nat.le_trans h.size k.size,fun r hr hx=>(k.blk r (Nat.lt_of_lt_of_le hr h.size) hx).trans (h.blk r hr hx),fun g T n f h9 hr=>let ⟨f',h'⟩:=h.row g T n f h9 hr;k.row g T n f' h9 h'⟩
structure OpF (W:World) (B:Nat) where
 fact:Qn
 dep:List Nat
 stab:∀l own own' w w',Uj W B dep own own' w w'->fact l own w->fact l own' w'
def Made (W:World) (B:Nat) (own:Nat->Nat) (k:Nat) (w:World) (R:World->Prop):Prop :=
 ∀w'',w.heap.size<=w''.heap.size->Below B W w''->(∀r,r<w.heap.size->own r=k->w''.heap[r]?=w.heap[r]?)->R w''
theorem Made.keep {W:World} {B:Nat} {own own':Nat->Nat} {k:Nat} {w w':World} {R:World->Prop} {D:List Nat} (h:Made W B own k w R) (hk:Uj W B D own own' w w') (hD:k∈D):Made W B own' k w' R:=by
 intro w'' hs hb hr
 refine h w'' (Nat.le_trans hk.size hs) hb fun r yz ho=>?_
 rw[hr r (Nat.lt_of_lt_of_le yz hk.size) ((hk.mine r yz).trans ho)]
 exact hk.blk r yz (by rw[ho];exact hD)
theorem Made.here {W:World} {B:Nat} {own:Nat->Nat} {k:Nat} {w:World} {R:World->Prop} (h:Made W B own k w R) (hb:Below B W w):R w:=h w zD hb fun _ _ _=>rfl
theorem Made.mono {W:World} {B:Nat} {own:Nat->Nat} {k:Nat} {w:World} {R R':World->Prop} (h:Made W B own k w R) (hR:∀w'',R w''->R' w''):Made W B own k w R':=fun w'' a b c=>hR _ (h w'' a b c)
theorem Made.new {W:World} {B:Nat} {own:Nat->Nat} {k:Nat} {w w':World} {R:World->Prop} (h:∀w'',w'.heap.size<=w''.heap.size->Below B W w''->(∀r,w.heap.size<=r->r<w'.heap.size->w''.heap[r]?=w'.heap[r]?)->R w''):Made W B (kG own w k) k w' R :=
 fun w'' hs hb hr=>h w'' hs hb fun r h1 h2=>hr r h2 (if_neg (Nat.not_lt.2 h1))
structure ju (ops:Array Oper) (a0 a:Act):Prop where
 defers:a.defers=a0.defers
 size:a.tmps.size=a0.tmps.size
 slot:∀d,(∀i,qP ops i≠some d)->a.tmps[d]?=a0.tmps[d]?
def wv (ops:Array Oper) (p:xM) (F:Nat->Qn) (val:Nat->Value) (own:Nat->Nat) (a:Act) (w:World) (i:Nat):Prop :=
 (∀d,qP ops i=some d->a.tmps[d]?.getD undef=val i)/\F i ((p.see.getD i []).map val) own w
structure Um (W:World) (B:Nat) (own0:Nat->Nat) (inits:List (OpF W B)) (a0:Act) (p:xM) (ops:Array Oper) (F:Nat->Qn) (listed:Array Bool) (a:Act) (w:World):Prop where
 size:listed.size=ops.size
 down:∀i o,ops[i]?=some o->listed.getD i false=true->∀e∈o.after,Region.binds .any e=true->listed.getD e.on false=true
 base:Below B W w
 frame:ju ops a0 a
 facts:∃(val:Nat->Value) (own:Nat->Nat),(∀r,r<W.heap.size->own r=own0 r)/\(∀i,i<ops.size->listed.getD i false=true->wv ops p F val own a w i)/\∀f∈inits,(∀k,k<ops.size->listed.getD k false=true->∀x∈p.wr.getD k [],x∉f.dep)->f.fact [] own w
def Jo (val:Nat->Value) (i:Nat) (v:Value):Nat->Value:=fun j=>if j=i then v else val j
def Un (P:Program) (Q:QT) (W:World) (a0:Act) (p:xM) (ops:Array Oper) (F:Nat->Qn) (i:Nat):Prop :=
 ∀(a:Act) (w:World) (val:Nat->Value) (own:Nat->Nat),zO W w->ju ops a0 a->(∀r,r<W.heap.size->own r=1000)->(∀j∈p.anc.getD i [],wv ops p F val own a w j) ->
  wpOp P ops Q i (fun a' w'=>∃v,a'=a.put (qP ops i) v/\Does W W.heap.size (p.wr.getD i []) own w w'/\F i ((p.see.getD i []).map (Jo val i v)) (kG own w i) w') a w
theorem xM.ok_at {p:xM} {ops:Array Oper} {n i:Nat} {o:Oper} (h:p.ok ops n=true) (hi:ops[i]?=some o):p.ok1 ops n i o=true:=by
 unfold xM.ok at h
 have yz:i<ops.size:=(Array.getElem?_eq_some_iff.1 hi).1
 have:=List.all_eq_true.1 h i (List.mem_range.2 yz)
 rw[hi] at this
 exact this
theorem xM.anc_listed {W:World} {B:Nat} {own0:Nat->Nat} {inits:List (OpF W B)} {a0 a:Act} {w:World} {p:xM} {ops:Array Oper} {F:Nat->Qn} {listed:Array Bool} {n:Nat} (hp:p.ok ops n=true) (hI:Um W B own0 inits a0 p ops F listed a w) :
 ∀i o,ops[i]?=some o->(∀e∈o.after,Region.binds .any e=true->listed.getD e.on false=true)->∀j∈p.anc.getD i [],listed.getD j false=true:=by
 intro i
 induction i using Nat.strongRecOn with
 | ind i ih =>
  intro o ho hall j hj
  have h1:=p.ok_at hp ho
  simp only[xM.ok1,Bool.and_eq_true] at h1
  have ha:=List.all_eq_true.1 h1.1.1.1.1 j hj
  obtain⟨e,he,hb⟩:=Array.any_eq_true'.1 ha
  simp only[Bool.and_eq_true,Bool.or_eq_true,beq_iff_eq,List.contains_iff_mem] at hb
  have hle:=hall e he hb.1
  have yz:e.on<i:=by
   have:=Array.all_eq_true'.1 h1.1.1.2 e he
   rw[hb.1] at this
   simpa using this
  rcases hb.2 with rfl | hm
  ·exact hle
  ·have hs:e.on<ops.size:=by
    have:=hI.size
    rcases Nat.lt_or_ge e.on listed.size with h' | h'
    ·omega
    ·simp[Array.getElem?_eq_none h'] at hle
   obtain⟨oe,hoe⟩:∃oe,ops[e.on]?=some oe:=⟨ops[e.on],Array.getElem?_eq_getElem hs⟩
   exact ih e.on yz oe hoe (fun e' he' hb'=>hI.down e.on oe hoe hle e' he' hb') j hm
theorem zfk {p:xM} {ops:Array Oper} {n i k:Nat} {d:Tmp} {o:Oper} (hp:p.ok ops n=true) (ho:ops[i]?=some o) (hk:k<ops.size) (qF:k≠i) (hd:qP ops i=some d):qP ops k≠some d:=by
 have h1:=p.ok_at hp ho
 simp only[xM.ok1,Bool.and_eq_true] at h1
 have h2:=List.all_eq_true.1 h1.2 k (List.mem_range.2 hk)
 have hod:o.dst=some d:=by simpa [qP,ho] using hd
 simp only[hod,Bool.or_eq_true,beq_iff_eq,Bool.and_eq_true,bne_iff_ne] at h2
 rcases h2 with h2 | h2
 ·exact absurd h2 qF
 ·exact h2.2
theorem ZS {W:World} {B:Nat} {p:xM} {ops:Array Oper} {F:Nat->Qn} {val:Nat->Value} {own:Nat->Nat} {a:Act} {w w':World} {i k:Nat} {v:Value} {n:Nat} {oi:Oper} (hp:p.ok ops n=true)
 (Q8:∀i,i<ops.size->∀l own own' w w',Uj W B (p.dep.getD i []) own own' w w'->F i l own w->F i l own' w') (hoi:ops[i]?=some oi) (hk:k<ops.size) (qF:k≠i) (hkn:k∉p.anc.getD i [])
 (hdo:Does W B (p.wr.getD k []) own w w') (h:wv ops p F val own a w i):wv ops p F (Jo val k v) (kG own w k) (a.put (qP ops k) v) w' i:=by
 have hi:i<ops.size:=(Array.getElem?_eq_some_iff.1 hoi).1
 refine⟨fun d hd=>?_,?_⟩
 ·have:=h.1 d hd
  have hx:=zfk hp hoi hk qF hd
  rw[show Jo val k v i=val i from if_neg (Ne.symm qF),<-this]
  cases hdk:qP ops k with
  | none=>rfl
  | some e =>
   have hde:e≠d:=fun e'=>hx (by rw[hdk,e'])
   simp only[Act.put]
   simp[hde]
 ·have h1:=p.ok_at hp hoi
  simp only[xM.ok1,Bool.and_eq_true] at h1
  have hs:=List.all_eq_true.1 h1.1.1.1.2
  have hmap:(p.see.getD i []).map (Jo val k v)=(p.see.getD i []).map val:=List.map_congr_left fun j hj=>by
   have:=hs j hj
   simp only[Bool.or_eq_true,beq_iff_eq,List.contains_iff_mem] at this
   refine if_neg ?_
   rintro rfl
   rcases this with e | e
   ·exact qF e
   ·exact hkn e
  rw[hmap]
  refine Q8 i hi _ _ _ _ _ (hdo.keep fun x hx=>?_) h.2
  have h2:=List.all_eq_true.1 h1.2 k (List.mem_range.2 hk)
  simp only[Bool.or_eq_true,beq_iff_eq,Bool.and_eq_true,List.contains_iff_mem] at h2
  rcases h2 with h2 | h2
  ·exact absurd h2 qF
  ·rcases h2.1 with h3 | h3
   ·simpa using List.all_eq_true.1 h3 x hx
   ·exact absurd h3 hkn
theorem vI {ops:Array Oper} {a0 a:Act} {i:Nat} {v:Value} (h:ju ops a0 a):ju ops a0 (a.put (qP ops i) v):=by
 cases hd:qP ops i with
 | none=>exact h
 | some d =>
  refine⟨h.defers,by simp[Act.put,h.size],fun e he=>?_⟩
  have:d≠e:=fun x=>he i (by rw[hd,x])
  simp only[Act.put]
  rw[Array.getElem?_setIfInBounds_ne this]
  exact h.slot e he
theorem Yt {l:Array Bool} {i:Nat} (h:i<l.size):(l.setIfInBounds i true).getD i false=true:=by simp[h]
theorem xY {l:Array Bool} {i j:Nat} (h:(l.setIfInBounds i true).getD j false=true):j=i\/l.getD j false=true:=by
 by_cases e:j=i
 ·exact .inl e
 ·right
  simp only[Array.getD_eq_getD_getElem?,Array.getElem?_setIfInBounds_ne (Ne.symm e)] at h ⊢
  exact h
theorem qL {l:Array Bool} {i j:Nat} (h:l.getD j false=true):(l.setIfInBounds i true).getD j false=true:=by
 by_cases e:j=i
 ·subst e
  have:j<l.size:=by
   rcases Nat.lt_or_ge j l.size with h' | h'
   ·exact h'
   ·simp[Array.getElem?_eq_none h'] at h
  simp[this]
 ·simp only[Array.getD_eq_getD_getElem?,Array.getElem?_setIfInBounds_ne (Ne.symm e)] at h ⊢
  exact h
def Zf (l:Array Bool) (n:Nat):Nat:=((List.range n).filter fun i=>!l.getD i true).length
theorem kR {l:Array Bool} {n i:Nat} (hi:i<n) (hs:l.size=n) (hl:l.getD i true=false):Zf (l.setIfInBounds i true) n<Zf l n:=by
 unfold Zf
 have hsub:((List.range n).filter fun j=>!(l.setIfInBounds i true).getD j true)=((List.range n).filter fun j=>!l.getD j true).filter fun j=>j != i:=by
  rw[List.filter_filter]
  refine List.filter_congr fun j hj=>?_
  by_cases e:j=i
  ·subst e;simp[hs,hi]
  ·simp only[Array.getD_eq_getD_getElem?,Array.getElem?_setIfInBounds_ne (Ne.symm e)]
   simp[e]
 rw[hsub]
 have hmem:i∈(List.range n).filter fun j=>!l.getD j true:=List.mem_filter.2 ⟨List.mem_range.2 hi,by rw[hl];rfl⟩
 exact List.length_filter_lt_length_iff_exists.2 ⟨i,hmem,by simp⟩
def jy {W:World} {B:Nat} (v:Value):OpF W B:=⟨fun l _ _=>l=[v],[],fun _ _ _ _ _ _ h=>h⟩
def X7 {W:World} {B:Nat} (A:List Value->Prop):OpF W B:=⟨fun l _ _=>A l,[],fun _ _ _ _ _ _ h=>h⟩
def Ws {W:World} {B:Nat} (k:Nat) {γ:Type} (A:γ->List Value->Prop) (R:γ->World->Prop):OpF W B :=
 ⟨fun l own w=>∃x:γ,A x l/\Made W B own k w (R x),[k],fun _ _ _ _ _ hk ⟨x,hA,hM⟩=>⟨x,hA,hM.keep hk (by simp)⟩⟩
theorem JQ {W w:World} {B:Nat} {v x:Value} {own:Nat->Nat} (h:(jy (W:=W) (B:=B) v).fact [x] own w):x=v:=by
 have:[x]=[v]:=h
 injection this
theorem ZY {w:World} {ops:Array Oper} {p:xM} {F:Nat->Qn} {val:Nat->Value} {own:Nat->Nat} {a:Act} {i:Nat} {v:Value} (k:wv ops p F val own a w i) (d:Nat) (h:F i ((p.see.getD i []).map val) own w->val i=v:=by exact fun f=>JQ f) (hd:qP ops i=some d:=by exact rfl):a.tmps[d]?.getD undef=v:=(k.1 d hd).trans (h k.2)
theorem zL {w:World} {ops:Array Oper} {p:xM} {F:Nat->Qn} {val:Nat->Value} {own:Nat->Nat} {a:Act} {i:Nat} {v:Value} (hk:∀j∈p.anc.getD i [],wv ops p F val own a w j) (j d:Nat) (h:F j ((p.see.getD j []).map val) own w->val j=v:=by exact fun f=>JQ f) (hd:qP ops j=some d:=by exact rfl) (hm:(p.anc.getD i []).contains j=true:=by exact rfl):a.tmps[d]?.getD undef=v:=ZY (hk j (by simpa using hm)) d h hd
def jp {W:World} {B:Nat} (anc see wr:List (List Nat)) (fs:List (OpF W B)):xM:=⟨anc,see,fs.map (·.dep),wr⟩
def ve {W:World} {B:Nat} (fs:List (OpF W B)):Nat->Qn:=fun i=>match fs[i]? with | some f=>f.fact | none=>fun _ _ _=>True
theorem JR {W:World} {B:Nat} (anc see wr:List (List Nat)) (fs:List (OpF W B)) (n:Nat):∀i,i<n->∀l own own' w w',Uj W B ((jp anc see wr fs).dep.getD i []) own own' w w'->ve fs i l own w->ve fs i l own' w':=by
 intro i _ l own own' w w' hk h
 unfold ve at h ⊢
 have hd:(jp anc see wr fs).dep.getD i []=(match fs[i]? with | some f=>f.dep | none=>[]):=by
  show(fs.map (·.dep)).getD i []=_
  rw[List.getD_eq_getElem?_getD,List.getElem?_map]
  cases fs[i]? <;> rfl
 cases hf:fs[i]? with
 | none=>simp only
 | some f =>
  rw[hf] at h hd
  rw[hd] at hk
  exact f.stab l own own' w w' hk h
theorem jE {p:Nat->Prop}:∀i,i<0->p i:=fun _ h=>absurd h yB
theorem zl {n:Nat} {p:Nat->Prop} (h:∀i,i<n->p i) (hn:p n):∀i,i<n+1->p i:=fun i hi=>by
 rcases Nat.lt_succ_iff_lt_or_eq.1 hi with h' | rfl
 ·exact h i h'
 ·exact hn
section
variable {P:Program} {ops:Array Oper} {Q:QT} {K:Act->World->Prop} {a:Act} {w:World} {i:Nat}
theorem js {o:Oper} {v:Value} {w':World} (ho:ops[i]?=some o) (hg:Region.wanted o (yielded ops a.tmps)=true) (hr:(execOp a.eval o).run P w=.ok (.value v) w') (hK:K (a.put o.dst v) w'):wpOp P ops Q i K a w:=by
 unfold wpOp
 simp only[ho,hg,if_true]
 left
 unfold Oper.wp
 rw[hr]
 exact hK
theorem vM {o:Oper} {w':World} (ho:ops[i]?=some o) (hg:Region.wanted o (yielded ops a.tmps)=true) (hr:(execOp a.eval o).run P w=.ok .skip w') (hK:K (a.put o.dst undef) w'):wpOp P ops Q i K a w:=by
 unfold wpOp
 simp only[ho,hg,if_true]
 left
 unfold Oper.wp
 rw[hr]
 exact hK
theorem zbU {o:Oper} {f:FuncId} {args:Array Value} {w':World} (ho:ops[i]?=some o) (hg:Region.wanted o (yielded ops a.tmps)=true) (hr:(execOp a.eval o).run P w=.ok (.enter f args) w') (hK:Calls P f args w' fun e w''=>∃v,e=.returned v/\K (a.put o.dst v) w''):wpOp P ops Q i K a w:=by
 unfold wpOp
 simp only[ho,hg,if_true]
 left
 unfold Oper.wp
 rw[hr]
 refine hK.mono ?_
 rintro e w'' ⟨v,rfl,hk⟩
 exact hk
end
section
variable {P:Program} {ops:Array Oper} {Q:QT} {W:World} {B:Nat} {p:xM} {F:Nat->Qn} {a:Act} {w:World} {i:Nat} {val:Nat->Value} {own:Nat->Nat}
theorem zC {o:Oper} {v:Value} (hB:Below B W w) (ho:ops[i]?=some o:=by exact rfl) (hg:Region.wanted o (yielded ops a.tmps)=true:=by exact rfl) (hr:(execOp a.eval o).run P w=.ok (.value v) w:=by unfold execOp;go_simp) (hF:F i ((p.see.getD i []).map (Jo val i v)) (kG own w i) w:=by exact rfl):
 wpOp P ops Q i (fun a' w'=>∃v,a'=a.put (qP ops i) v/\Does W B (p.wr.getD i []) own w w'/\F i ((p.see.getD i []).map (Jo val i v)) (kG own w i) w') a w :=
 js ho hg hr ⟨v,by simp[qP,ho],Does.same hB _ _,hF⟩
theorem zeW (hBW:B<=W.heap.size) {o:Oper} {v:Value} {w':World} (hB:Below B W w) (ho:ops[i]?=some o) (hg:Region.wanted o (yielded ops a.tmps)=true) (hr:(execOp a.eval o).run P w=.ok (.value v) w') (hb:zO w w') (hF:F i ((p.see.getD i []).map (Jo val i v)) (kG own w i) w') :
 wpOp P ops Q i (fun a' w'=>∃v,a'=a.put (qP ops i) v/\Does W B (p.wr.getD i []) own w w'/\F i ((p.see.getD i []).map (Jo val i v)) (kG own w i) w') a w :=
 js ho hg hr ⟨v,by simp[qP,ho],Does.below hBW hB hb _ _,hF⟩
theorem zep (hBW:B<=W.heap.size) {o:Oper} {f:FuncId} {args:Array Value} (hB:Below B W w) (ho:ops[i]?=some o) (hg:Region.wanted o (yielded ops a.tmps)=true) (hr:(execOp a.eval o).run P w=.ok (.enter f args) w)
 (hc:Calls P f args w fun e w'=>∃v,e=.returned v/\zO w w'/\F i ((p.see.getD i []).map (Jo val i v)) (kG own w i) w') :
 wpOp P ops Q i (fun a' w'=>∃v,a'=a.put (qP ops i) v/\Does W B (p.wr.getD i []) own w w'/\F i ((p.see.getD i []).map (Jo val i v)) (kG own w i) w') a w:=by
 refine zbU ho hg hr (hc.mono ?_)
 rintro e w' ⟨v,rfl,hb,hF⟩
 exact⟨v,rfl,v,by simp[qP,ho],Does.below hBW hB hb _ _,hF⟩
theorem ZW {o:Oper} {v:Value} {w':World} (hB:zO W w) (ho:ops[i]?=some o) (hg:Region.wanted o (yielded ops a.tmps)=true) (hr:(execOp a.eval o).run P w=.ok (.value v) w') (hb:zO w w') (hF:F i ((p.see.getD i []).map (Jo val i v)) (kG own w i) w') :
 wpOp P ops Q i (fun a' w'=>∃v,a'=a.put (qP ops i) v/\Does W W.heap.size (p.wr.getD i []) own w w'/\F i ((p.see.getD i []).map (Jo val i v)) (kG own w i) w') a w:=zeW zD hB ho hg hr hb hF
theorem uG {o:Oper} {f:FuncId} {args:Array Value} (hB:zO W w) (ho:ops[i]?=some o) (hg:Region.wanted o (yielded ops a.tmps)=true) (hr:(execOp a.eval o).run P w=.ok (.enter f args) w)
 (hc:Calls P f args w fun e w'=>∃v,e=.returned v/\zO w w'/\F i ((p.see.getD i []).map (Jo val i v)) (kG own w i) w') :
 wpOp P ops Q i (fun a' w'=>∃v,a'=a.put (qP ops i) v/\Does W W.heap.size (p.wr.getD i []) own w w'/\F i ((p.see.getD i []).map (Jo val i v)) (kG own w i) w') a w:=zep zD hB ho hg hr hc
theorem ju.at {a0:Act} {d:Nat} {v:Value} (h:ju ops a0 a) (hd:(List.range ops.size).all (fun i=>qP ops i != some d)=true) (hv:a0.tmps[d]?=some v):a.tmps[d]?.getD undef=v:=by
 rw[h.slot d ?_,hv]
 ·rfl
 ·intro i
  rcases Nat.lt_or_ge i ops.size with hi | hi
  ·simpa using List.all_eq_true.1 hd i (List.mem_range.2 hi)
  ·simp[qP,Array.getElem?_eq_none hi]
end
theorem qy {x y:Value} (h:[x]=[y]):x=y:=by injection h
def QG (w:World) (b:Nat):Nat->List Value->World
 | _,[]=>w
 | o,x :: xs=>QG (w.setCell (zH b o) x) b (o+1) xs
theorem yo.of_block {w w':World} {b o n c:Nat} {l:yH} (h:yo w (zK b o n c) l) (hb:w'.heap[b]?=w.heap[b]?):yo w' (zK b o n c) l:=by
 obtain⟨a,cap,hv,hl,hc⟩:=h
 refine⟨a,cap,hv,hl,fun i hi=>?_⟩
 obtain⟨b',o',ha,h0,h1⟩:=hc i hi
 have ha':=ha
 subst ha
 injection hv with e1 e2 e3
 injection e1 with e1
 injection e1 with e1 e4 e5
 subst e1
 refine⟨_,_,rfl,?_,?_⟩
 ·rw[<-h0];exact World.cell?_of_block hb
 ·rw[<-h1];exact World.cell?_of_block hb
theorem ZK {a:Act} {t:Array Value} {d:List Deferred} (h1:a.tmps=t) (h2:a.defers=d):a={tmps:=t,defers:=d}:=by
 cases a
 simp only at h1 h2
 subst h1 h2
 rfl
theorem Xv (tm:Array Value) {n:Nat} (hn:tm.size=n):∃u:Nat->Value,tm=((List.range n).map u).toArray/\∀i,u i=tm[i]?.getD undef:=by
 refine⟨fun i=>tm[i]?.getD undef,?_,fun _=>rfl⟩
 subst hn
 refine Array.ext (by simp) fun i h1 h2=>?_
 simp[h1]
theorem zbT {P:Program} {ops:Array Oper} {Q:QT} {W:World} {a0:Act} {L:Nat} (p:xM) (F:Nat->Qn) (hL:ops.size=L+1) (hp:p.ok ops a0.tmps.size=true) (hall:(List.range L).all (fun j=>(p.anc.getD L []).contains j)=true)
 (Q8:∀i,i<ops.size->∀l own own' w w',Uj W W.heap.size (p.dep.getD i []) own own' w w'->F i l own w->F i l own' w')
 (hstep:∀i,i<L->Un P Q W a0 p ops F i)
 (hend:∀a w val own,zO W w->ju ops a0 a->(∀r,r<W.heap.size->own r=1000)->(∀i,i<L->wv ops p F val own a w i)->wpOp P ops Q L (Q .normal) a w) :
 ∀(fuel:Nat) (listed:Array Bool) (a:Act) (w:World),Zf listed ops.size<=fuel->listed.getD L true=false->Um W W.heap.size (fun _=>1000) [] a0 p ops F listed a w->wpAny P .any ops Q fuel listed a w:=by
 have JS:L<ops.size:=by omega
 have hoL:ops[L]?=some ops[L]:=Array.getElem?_eq_getElem JS
 have hnil:∀(listed:Array Bool) (a:Act) (w:World),listed.getD L true=false->Um W W.heap.size (fun _=>1000) [] a0 p ops F listed a w->Region.ready .any ops listed≠[]:=by
  intro listed a w Yl hI hr
  have hls:∀i,i<L->listed.getD i false=true:=by
   intro i
   induction i using Nat.strongRecOn with
   | ind i ih =>
    intro hi
    have ho:ops[i]?=some ops[i]:=Array.getElem?_eq_getElem (by omega)
    have h1:=p.ok_at hp ho
    simp only[xM.ok1,Bool.and_eq_true] at h1
    cases hl:listed.getD i true with
    | true =>
     have:=hI.size
     have h':i<listed.size:=by omega
     simpa [h'] using hl
    | false =>
     have:i∈Region.ready .any ops listed:=mem_ready.2 ⟨hl,_,ho,fun e he hb=>by
      have yz:=Array.all_eq_true'.1 h1.1.1.2 e he
      rw[hb] at yz
      have hlt':e.on<i:=by simpa using yz
      exact ih e.on hlt' (by omega)⟩
     rw[hr] at this
     cases this
  have h1:=p.ok_at hp hoL
  simp only[xM.ok1,Bool.and_eq_true] at h1
  have:L∈Region.ready .any ops listed:=mem_ready.2 ⟨Yl,_,hoL,fun e he hb=>by
   have yz:=Array.all_eq_true'.1 h1.1.1.2 e he
   rw[hb] at yz
   exact hls e.on (by simpa using yz)⟩
  rw[hr] at this
  cases this
 intro fuel
 induction fuel with
 | zero =>
  intro listed a w hz Yl hI
  have:=kR JS hI.size Yl
  omega
 | succ fuel ih =>
  intro listed a w hz Yl hI
  refine⟨fun hr=>absurd hr (hnil listed a w Yl hI),fun i hi=>?_⟩
  obtain⟨hu,o,ho,Zc⟩:=mem_ready.1 hi
  have yz:i<ops.size:=(Array.getElem?_eq_some_iff.1 ho).1
  have Qv:=xM.anc_listed hp hI i o ho Zc
  obtain⟨val,own,zy,hk,_⟩:=hI.facts
  by_cases hiL:i=L
  ·subst hiL
   have hls:∀j,j<i->listed.getD j false=true:=fun j hj=>Qv j (by simpa using List.all_eq_true.1 hall j (List.mem_range.2 hj))
   refine wpOp_mono ?_ (hend a w val own hI.base hI.frame zy fun j hj=>hk j (by omega) (hls j hj))
   intro a' w' hQ
   have hrn:Region.ready .any ops (listed.setIfInBounds i true)=[]:=by
    cases hr:Region.ready .any ops (listed.setIfInBounds i true) with
    | nil=>rfl
    | cons x t =>
     have hx:x∈Region.ready .any ops (listed.setIfInBounds i true):=by rw[hr];simp
     obtain⟨hxu,ox,hox,_⟩:=mem_ready.1 hx
     have hxl:x<ops.size:=(Array.getElem?_eq_some_iff.1 hox).1
     have:(listed.setIfInBounds i true).getD x false=true:=by
      by_cases e:x=i
      ·subst e
       exact Yt (by have:=hI.size;omega)
      ·exact qL (hls x (by omega))
     have hs:=hI.size
     have h':x<(listed.setIfInBounds i true).size:=by simp;omega
     simp only[Array.getD_eq_getD_getElem?,Array.getElem?_eq_getElem h',Option.getD_some] at hxu this
     rw[hxu] at this
     cases this
   cases fuel with
   | zero=>exact⟨hrn,hQ⟩
   | succ fuel=>exact⟨fun _=>hQ,fun k hk=>by rw[hrn] at hk;cases hk⟩
  ·have Kj:∀j∈p.anc.getD i [],j<ops.size:=fun j hj=>by
    have:=Qv j hj
    have hs:=hI.size
    rcases Nat.lt_or_ge j listed.size with h' | h'
    ·omega
    ·simp[Array.getElem?_eq_none h'] at this
   refine wpOp_mono ?_ (hstep i (by omega) a w val own hI.base hI.frame zy fun j hj=>hk j (Kj j hj) (Qv j hj))
   rintro a' w' ⟨v,rfl,hdo,hF⟩
   refine ih _ _ _ (by have:=kR yz hI.size hu;omega) (by rw[getD_set_ne true hiL];exact Yl) ⟨by simp[hI.size],?_,hdo.base,vI hI.frame,Jo val i v,kG own w i,?_,?_,fun f hf=>by cases hf⟩
   ·intro k ok hok hkl e he hb
    rcases xY hkl with rfl | hkl
    ·rw[ho] at hok
     cases hok
     exact qL (Zc e he hb)
    ·exact qL (hI.down k ok hok hkl e he hb)
   ·intro r hr
    unfold kG
    rw[if_pos (Nat.lt_of_lt_of_le hr hI.base.size)]
    exact zy r hr
   ·intro k hkl hkt
    rcases xY hkt with rfl | hkt
    ·refine⟨fun d hd=>?_,hF⟩
     have h1:=p.ok_at hp ho
     simp only[xM.ok1,Bool.and_eq_true] at h1
     have hod:o.dst=some d:=by simpa [qP,ho] using hd
     have hdl:=h1.1.2
     rw[hod] at hdl
     have Uz:d<a0.tmps.size:=by simpa using hdl
     rw[hd]
     simp only[Act.put,Jo,if_true]
     have hda:d<a.tmps.size:=by rw[hI.frame.size];exact Uz
     simp[hda]
    ·have hok:ops[k]?=some ops[k]:=Array.getElem?_eq_getElem hkl
     have qF:i≠k:=by
      rintro rfl
      have hs:=hI.size
      have h':i<listed.size:=by omega
      simp[h'] at hu hkt
      rw[hu] at hkt
      cases hkt
     refine ZS hp Q8 hok yz qF ?_ hdo (hk k hkl hkt)
     intro hm
     have:=xM.anc_listed hp hI k ops[k] hok (fun e he hb=>hI.down k _ hok hkt e he hb) i hm
     have hs:=hI.size
     have h':i<listed.size:=by omega
     simp[h'] at hu this
     rw[hu] at this
     cases this
theorem Z2 {P:Program} {id:Nat} {ops:Array Oper} {Q:QT} {a0:Act} {w0:World} (anc see wr:List (List Nat)) (fs:List (OpF w0 w0.heap.size)) (n:Nat) (hn:ops.size=n+1) (hm:P.follows .mixedOrders=true) (hp:(jp anc see wr fs).ok ops a0.tmps.size=true) (hall:(List.range n).all (fun j=>((jp anc see wr fs).anc.getD n []).contains j)=true)
 (hstep:∀i,i<n->Un P Q w0 a0 (jp anc see wr fs) ops (ve fs) i)
 (hend:∀a w val own,zO w0 w->ju ops a0 a->(∀r,r<w0.heap.size->own r=1000)->(∀i,i<n->wv ops (jp anc see wr fs) (ve fs) val own a w i)->wpOp P ops Q n (Q .normal) a w) :
 (Code.region id ops true).wp P Q a0 w0:=by
 refine wp_region_any hm (zbT (jp anc see wr fs) (ve fs) hn hp hall ?_ hstep hend ops.size _ a0 _ ?_ ?_ ?_)
 ·exact JR anc see wr fs _
 ·unfold Zf
  exact Nat.le_trans (List.length_filter_le _ _) (by simp)
 ·simp[show n<ops.size by omega]
 ·refine⟨by simp,?_,(Below.refl _ w0).drew,⟨rfl,rfl,fun _ _=>rfl⟩,fun _=>undef,fun _=>1000,fun _ _=>rfl,?_,fun f hf=>by cases hf⟩
  ·intro i o ho hl
   have hi:i<ops.size:=(Array.getElem?_eq_some_iff.1 ho).1
   simp[hi] at hl
  ·intro i hi hl
   simp[hi] at hl
theorem zal {x:Array Value}:∀(ds:List Nat) (t:Array Value),t.size=x.size->(∀d,d∉ds->t[d]?=x[d]?)->x=ds.foldl (fun t d=>t.setIfInBounds d (x[d]?.getD undef)) t
 | [],t,_,h=>Array.ext_getElem? fun d=>(h d (by simp)).symm
 | e :: ds,t,hs,h=>by
  refine zal ds _ (by simpa using hs) fun d hd=>?_
  rw[Array.getElem?_setIfInBounds]
  by_cases hed:e=d
  ·subst hed
   rw[if_pos rfl,hs]
   by_cases hl:e<x.size
   ·simp[hl]
   ·simp[hl]
  ·rw[if_neg hed]
   exact h d (by simp;exact⟨fun q=>hed q.symm,hd⟩)
theorem ux {ops:Array Oper} {a0 a:Act} (hf:ju ops a0 a) (ds:List Nat) (hds:(List.range ops.size).all (fun i=>match qP ops i with | some d=>ds.contains d | none=>true)=true):a.tmps=ds.foldl (fun t d=>t.setIfInBounds d (a.tmps[d]?.getD undef)) a0.tmps:=by
 refine zal ds _ hf.size.symm fun d hd=>(hf.slot d fun i hi=>?_).symm
 rcases Nat.lt_or_ge i ops.size with h | h
 ·have:=List.all_eq_true.1 hds i (List.mem_range.2 h)
  rw[hi] at this
  exact hd (by simpa using this)
 ·rw[qP,Array.getElem?_eq_none h] at hi
  cases hi
def Yq (ops:Array Oper) (L:Nat):Bool:=(List.range ops.size).all fun k=>decide (k<=L) || match ops[k]? with | some o=>o.after.any (fun e=>Region.binds .any e && e.on+1 == k) | none=>false
theorem YP {ops:Array Oper} {L k:Nat} (h:Yq ops L=true) (hk:L<k) (hs:k<ops.size):∃o,ops[k]?=some o/\∃e∈o.after,Region.binds .any e=true/\e.on+1=k:=by
 have h1:=List.all_eq_true.1 h k (List.mem_range.2 hs)
 have ho:ops[k]?=some ops[k]:=Array.getElem?_eq_getElem hs
 rw[ho,show decide (k<=L)=false by simpa using hk,Bool.false_or] at h1
 obtain⟨e,he,h2⟩:=Array.any_eq_true'.1 h1
 simp only[Bool.and_eq_true,beq_iff_eq] at h2
 exact⟨_,ho,e,he,h2.1,h2.2⟩
def YJ (P:Program) (ops:Array Oper) (Q:QT):Nat->Nat->Act->World->Prop
 | 0,_,a,w=>Q .normal a w
 | m+1,j,a,w=>wpOp P ops Q j (YJ P ops Q m (j+1)) a w
theorem XR {l:Array Bool} {n L f:Nat} (hs:l.size=n) (hL:L<=n) (h:∀k,L<=k->k<n->l.getD k true=false) (hf:Zf l n<=f):n - L<=f:=by
 refine Nat.le_trans ?_ hf
 unfold Zf
 obtain⟨m,rfl⟩:=Nat.exists_eq_add_of_le hL
 rw[List.range_add,List.filter_append,List.length_append]
 have:((List.range m).map fun x=>L+x).filter (fun i=>!l.getD i true)=(List.range m).map fun x=>L+x:=List.filter_eq_self.2 fun x hx=>by
  obtain⟨y,hy,rfl⟩:=List.mem_map.1 hx
  rw[h _ (by omega) (by have:=List.mem_range.1 hy;omega)]
  rfl
 rw[this,List.length_map,List.length_range]
 omega
theorem QL {P:Program} {ops:Array Oper} {Q:QT} {L:Nat} (hdown:∀i o,ops[i]?=some o->∀e∈o.after,Region.binds .any e=true->e.on<i) (hch:Yq ops L=true) :
 ∀(m j fuel:Nat) (listed:Array Bool) (a:Act) (w:World),j+m=ops.size->m<=fuel->L<=j->listed.size=ops.size->(∀i,i<j->listed.getD i false=true)->(∀i,j<=i->i<ops.size->listed.getD i true=false)->YJ P ops Q m j a w->wpAny P .any ops Q fuel listed a w:=by
 intro m
 induction m with
 | zero =>
  intro j fuel listed a w hj _ _ hs hd _ hT
  have hrn:Region.ready .any ops listed=[]:=by
   cases hr:Region.ready .any ops listed with
   | nil=>rfl
   | cons x t =>
    have hx:x∈Region.ready .any ops listed:=by rw[hr];simp
    obtain⟨hxu,ox,hox,_⟩:=mem_ready.1 hx
    have hxl:x<ops.size:=(Array.getElem?_eq_some_iff.1 hox).1
    have h1:=hd x (by omega)
    have h':x<listed.size:=by omega
    simp only[Array.getD_eq_getD_getElem?,Array.getElem?_eq_getElem h',Option.getD_some] at h1 hxu
    rw[h1] at hxu
    cases hxu
  cases fuel with
  | zero=>exact⟨hrn,hT⟩
  | succ fuel=>exact⟨fun _=>hT,fun k hk=>by rw[hrn] at hk;cases hk⟩
 | succ m ih =>
  intro j fuel listed a w hj hf hL hs hd hu hT
  cases fuel with
  | zero=>omega
  | succ fuel =>
   have hjl:j<ops.size:=by omega
   have hoj:ops[j]?=some ops[j]:=Array.getElem?_eq_getElem hjl
   have hjr:j∈Region.ready .any ops listed:=mem_ready.2 ⟨hu j zD hjl,_,hoj,fun e he hb=>hd e.on (hdown j _ hoj e he hb)⟩
   refine⟨fun hr=>absurd (hr ▸ hjr) (by simp),fun i hi=>?_⟩
   obtain⟨hiu,o,ho,hall⟩:=mem_ready.1 hi
   have hil:i<ops.size:=(Array.getElem?_eq_some_iff.1 ho).1
   have hij:i=j:=by
    rcases Nat.lt_trichotomy i j with h | h | h
    ·have h1:=hd i h
     have h':i<listed.size:=by omega
     simp only[Array.getD_eq_getD_getElem?,Array.getElem?_eq_getElem h',Option.getD_some] at h1 hiu
     rw[h1] at hiu
     cases hiu
    ·exact h
    ·obtain⟨o',ho',e,he,hb,hon⟩:=YP hch (show L<i by omega) hil
     rw[ho] at ho'
     cases ho'
     have h1:=hall e he hb
     have h2:=hu e.on (by omega) (by omega)
     have h':e.on<listed.size:=by omega
     simp only[Array.getD_eq_getD_getElem?,Array.getElem?_eq_getElem h',Option.getD_some] at h1 h2
     rw[h1] at h2
     cases h2
   subst hij
   refine wpOp_mono ?_ hT
   intro a' w' hT'
   refine ih (i+1) fuel _ a' w' (by omega) (by omega) (by omega) (by simp[hs]) (fun k hk=>?_) (fun k hk1 Jw=>?_) hT'
   ·by_cases e:k=i
    ·subst e
     exact Yt (by omega)
    ·exact qL (hd k (by omega))
   ·rw[getD_set_ne true (by omega)]
    exact hu k (by omega) Jw
theorem zaD {P:Program} {ops:Array Oper} {Q:QT} {W:World} {a0:Act} {L:Nat} (p:xM) (F:Nat->Qn) (hL:L<ops.size) (hch:Yq ops L=true) (hp:p.ok ops a0.tmps.size=true) (hall:(List.range L).all (fun j=>(p.anc.getD L []).contains j)=true)
 (Q8:∀i,i<ops.size->∀l own own' w w',Uj W W.heap.size (p.dep.getD i []) own own' w w'->F i l own w->F i l own' w')
 (hstep:∀i,i<L->Un P Q W a0 p ops F i)
 (hend:∀a w val own,zO W w->ju ops a0 a->(∀r,r<W.heap.size->own r=1000)->(∀i,i<L->wv ops p F val own a w i)->YJ P ops Q (ops.size - L) L a w) :
 ∀(fuel:Nat) (listed:Array Bool) (a:Act) (w:World),Zf listed ops.size<=fuel->(∀k,L<=k->k<ops.size->listed.getD k true=false)->Um W W.heap.size (fun _=>1000) [] a0 p ops F listed a w->wpAny P .any ops Q fuel listed a w:=by
 have JS:L<ops.size:=hL
 have hoL:ops[L]?=some ops[L]:=Array.getElem?_eq_getElem JS
 have hnil:∀(listed:Array Bool) (a:Act) (w:World),listed.getD L true=false->Um W W.heap.size (fun _=>1000) [] a0 p ops F listed a w->Region.ready .any ops listed≠[]:=by
  intro listed a w Yl hI hr
  have hls:∀i,i<L->listed.getD i false=true:=by
   intro i
   induction i using Nat.strongRecOn with
   | ind i ih =>
    intro hi
    have ho:ops[i]?=some ops[i]:=Array.getElem?_eq_getElem (by omega)
    have h1:=p.ok_at hp ho
    simp only[xM.ok1,Bool.and_eq_true] at h1
    cases hl:listed.getD i true with
    | true =>
     have:=hI.size
     have h':i<listed.size:=by omega
     simpa [h'] using hl
    | false =>
     have:i∈Region.ready .any ops listed:=mem_ready.2 ⟨hl,_,ho,fun e he hb=>by
      have yz:=Array.all_eq_true'.1 h1.1.1.2 e he
      rw[hb] at yz
      have hlt':e.on<i:=by simpa using yz
      exact ih e.on hlt' (by omega)⟩
     rw[hr] at this
     cases this
  have h1:=p.ok_at hp hoL
  simp only[xM.ok1,Bool.and_eq_true] at h1
  have:L∈Region.ready .any ops listed:=mem_ready.2 ⟨Yl,_,hoL,fun e he hb=>by
   have yz:=Array.all_eq_true'.1 h1.1.1.2 e he
   rw[hb] at yz
   exact hls e.on (by simpa using yz)⟩
  rw[hr] at this
  cases this
 intro fuel
 induction fuel with
 | zero =>
  intro listed a w hz Yl hI
  have:=kR JS hI.size (Yl L zD JS)
  omega
 | succ fuel ih =>
  intro listed a w hz Yl hI
  refine⟨fun hr=>absurd hr (hnil listed a w (Yl L zD JS) hI),fun i hi=>?_⟩
  obtain⟨hu,o,ho,Zc⟩:=mem_ready.1 hi
  have yz:i<ops.size:=(Array.getElem?_eq_some_iff.1 ho).1
  have Qv:=xM.anc_listed hp hI i o ho Zc
  obtain⟨val,own,zy,hk,_⟩:=hI.facts
  by_cases hiL:L<=i
  ·have hls:∀j,j<L->listed.getD j false=true:=fun j hj=>by
    have zdQ:i=L:=by
     rcases Nat.lt_or_ge L i with h | h
     ·exfalso
      obtain⟨o',ho',e,he,hb,hon⟩:=YP hch h yz
      rw[ho] at ho'
      cases ho'
      have h1:=Zc e he hb
      have h2:=Yl e.on (by omega) (by omega)
      have hs:=hI.size
      have h':e.on<listed.size:=by omega
      simp only[Array.getD_eq_getD_getElem?,Array.getElem?_eq_getElem h',Option.getD_some] at h1 h2
      rw[h1] at h2
      cases h2
     ·omega
    subst zdQ
    exact Qv j (by simpa using List.all_eq_true.1 hall j (List.mem_range.2 hj))
   have HT:=hend a w val own hI.base hI.frame zy fun j hj=>hk j (by omega) (hls j hj)
   have HA:=QL (P:=P) (Q:=Q) (fun i o ho e he hb=>by
    have h1:=p.ok_at hp ho
    simp only[xM.ok1,Bool.and_eq_true] at h1
    have yz:=Array.all_eq_true'.1 h1.1.1.2 e he
    rw[hb] at yz
    simpa using yz) hch (ops.size - L) L (fuel+1) listed a w (by omega) (XR hI.size (Nat.le_of_lt JS) Yl hz) zD hI.size hls Yl HT
   exact HA.2 i hi
  ·have Kj:∀j∈p.anc.getD i [],j<ops.size:=fun j hj=>by
    have:=Qv j hj
    have hs:=hI.size
    rcases Nat.lt_or_ge j listed.size with h' | h'
    ·omega
    ·simp[Array.getElem?_eq_none h'] at this
   refine wpOp_mono ?_ (hstep i (by omega) a w val own hI.base hI.frame zy fun j hj=>hk j (Kj j hj) (Qv j hj))
   rintro a' w' ⟨v,rfl,hdo,hF⟩
   refine ih _ _ _ (by have:=kR yz hI.size hu;omega) (fun k hk1 Jw=>by rw[getD_set_ne true (by omega)];exact Yl k hk1 Jw) ⟨by simp[hI.size],?_,hdo.base,vI hI.frame,Jo val i v,kG own w i,?_,?_,fun f hf=>by cases hf⟩
   ·intro k ok hok hkl e he hb
    rcases xY hkl with rfl | hkl
    ·rw[ho] at hok
     cases hok
     exact qL (Zc e he hb)
    ·exact qL (hI.down k ok hok hkl e he hb)
   ·intro r hr
    unfold kG
    rw[if_pos (Nat.lt_of_lt_of_le hr hI.base.size)]
    exact zy r hr
   ·intro k hkl hkt
    rcases xY hkt with rfl | hkt
    ·refine⟨fun d hd=>?_,hF⟩
     have h1:=p.ok_at hp ho
     simp only[xM.ok1,Bool.and_eq_true] at h1
     have hod:o.dst=some d:=by simpa [qP,ho] using hd
     have hdl:=h1.1.2
     rw[hod] at hdl
     have Uz:d<a0.tmps.size:=by simpa using hdl
     rw[hd]
     simp only[Act.put,Jo,if_true]
     have hda:d<a.tmps.size:=by rw[hI.frame.size];exact Uz
     simp[hda]
    ·have hok:ops[k]?=some ops[k]:=Array.getElem?_eq_getElem hkl
     have qF:i≠k:=by
      rintro rfl
      have hs:=hI.size
      have h':i<listed.size:=by omega
      simp[h'] at hu hkt
      rw[hu] at hkt
      cases hkt
     refine ZS hp Q8 hok yz qF ?_ hdo (hk k hkl hkt)
     intro hm
     have:=xM.anc_listed hp hI k ops[k] hok (fun e he hb=>hI.down k _ hok hkt e he hb) i hm
     have hs:=hI.size
     have h':i<listed.size:=by omega
     simp[h'] at hu this
     rw[hu] at this
     cases this
theorem Xo {P:Program} {id:Nat} {ops:Array Oper} {Q:QT} {a0:Act} {w0:World} (anc see wr:List (List Nat)) (fs:List (OpF w0 w0.heap.size)) (n:Nat) (m:Nat) (hn:ops.size=n+(m+1)) (hch:Yq ops n=true) (hm:P.follows .mixedOrders=true) (hp:(jp anc see wr fs).ok ops a0.tmps.size=true) (hall:(List.range n).all (fun j=>((jp anc see wr fs).anc.getD n []).contains j)=true)
 (hstep:∀i,i<n->Un P Q w0 a0 (jp anc see wr fs) ops (ve fs) i)
 (hend:∀a w val own,zO w0 w->ju ops a0 a->(∀r,r<w0.heap.size->own r=1000)->(∀i,i<n->wv ops (jp anc see wr fs) (ve fs) val own a w i)->YJ P ops Q (m+1) n a w) :
 (Code.region id ops true).wp P Q a0 w0:=by
 refine wp_region_any hm (zaD (jp anc see wr fs) (ve fs) (by omega) hch hp hall ?_ hstep (by rw[show ops.size - n=m+1 by omega];exact hend) ops.size _ a0 _ ?_ ?_ ?_)
 ·exact JR anc see wr fs _
 ·unfold Zf
  exact Nat.le_trans (List.length_filter_le _ _) (by simp)
 ·intro k _ hk
  simp[hk]
 ·refine⟨by simp,?_,(Below.refl _ w0).drew,⟨rfl,rfl,fun _ _=>rfl⟩,fun _=>undef,fun _=>1000,fun _ _=>rfl,?_,fun f hf=>by cases hf⟩
  ·intro i o ho hl
   have hi:i<ops.size:=(Array.getElem?_eq_some_iff.1 ho).1
   simp[hi] at hl
  ·intro i hi hl
   simp[hi] at hl
def JP (P:Program) (Q:QT) (W:World) (a0:Act) (p:xM) (ops fo:Array Oper) (F:Nat->Qn) (i:Nat):Prop :=
 ∀(a:Act) (w:World) (val:Nat->Value) (own:Nat->Nat),zO W w->ju fo a0 a->(∀r,r<W.heap.size->own r=1000)->(∀j∈p.anc.getD i [],wv ops p F val own a w j) ->
  wpOp P ops Q i (fun a' w'=>∃v,a'=a.put (qP ops i) v/\Does W W.heap.size (p.wr.getD i []) own w w'/\F i ((p.see.getD i []).map (Jo val i v)) (kG own w i) w') a w
theorem zaE {P:Program} {ops:Array Oper} {Q:QT} {W:World} {a0:Act} {L:Nat} (p:xM) (F:Nat->Qn) (hL:L<ops.size) (hch:Yq ops L=true) (hp:p.ok ops a0.tmps.size=true) (hall:(List.range L).all (fun j=>(p.anc.getD L []).contains j)=true)
 (Q8:∀i,i<ops.size->∀l own own' w w',Uj W W.heap.size (p.dep.getD i []) own own' w w'->F i l own w->F i l own' w')
 (hstep:∀i,i<L->JP P Q W a0 p ops (ops.extract 0 L) F i)
 (hend:∀a w val own,zO W w->ju (ops.extract 0 L) a0 a->(∀r,r<W.heap.size->own r=1000)->(∀i,i<L->wv ops p F val own a w i)->YJ P ops Q (ops.size - L) L a w) :
 ∀(fuel:Nat) (listed:Array Bool) (a:Act) (w:World),Zf listed ops.size<=fuel->(∀k,L<=k->k<ops.size->listed.getD k true=false)->Um W W.heap.size (fun _=>1000) [] a0 p ops F listed a w->ju (ops.extract 0 L) a0 a->wpAny P .any ops Q fuel listed a w:=by
 have JS:L<ops.size:=hL
 have hoL:ops[L]?=some ops[L]:=Array.getElem?_eq_getElem JS
 have hnil:∀(listed:Array Bool) (a:Act) (w:World),listed.getD L true=false->Um W W.heap.size (fun _=>1000) [] a0 p ops F listed a w->Region.ready .any ops listed≠[]:=by
  intro listed a w Yl hI hr
  have hls:∀i,i<L->listed.getD i false=true:=by
   intro i
   induction i using Nat.strongRecOn with
   | ind i ih =>
    intro hi
    have ho:ops[i]?=some ops[i]:=Array.getElem?_eq_getElem (by omega)
    have h1:=p.ok_at hp ho
    simp only[xM.ok1,Bool.and_eq_true] at h1
    cases hl:listed.getD i true with
    | true =>
     have:=hI.size
     have h':i<listed.size:=by omega
     simpa [h'] using hl
    | false =>
     have:i∈Region.ready .any ops listed:=mem_ready.2 ⟨hl,_,ho,fun e he hb=>by
      have yz:=Array.all_eq_true'.1 h1.1.1.2 e he
      rw[hb] at yz
      have hlt':e.on<i:=by simpa using yz
      exact ih e.on hlt' (by omega)⟩
     rw[hr] at this
     cases this
  have h1:=p.ok_at hp hoL
  simp only[xM.ok1,Bool.and_eq_true] at h1
  have:L∈Region.ready .any ops listed:=mem_ready.2 ⟨Yl,_,hoL,fun e he hb=>by
   have yz:=Array.all_eq_true'.1 h1.1.1.2 e he
   rw[hb] at yz
   exact hls e.on (by simpa using yz)⟩
  rw[hr] at this
  cases this
 intro fuel
 induction fuel with
 | zero =>
  intro listed a w hz Yl hI hFO
  have:=kR JS hI.size (Yl L zD JS)
  omega
 | succ fuel ih =>
  intro listed a w hz Yl hI hFO
  refine⟨fun hr=>absurd hr (hnil listed a w (Yl L zD JS) hI),fun i hi=>?_⟩
  obtain⟨hu,o,ho,Zc⟩:=mem_ready.1 hi
  have yz:i<ops.size:=(Array.getElem?_eq_some_iff.1 ho).1
  have Qv:=xM.anc_listed hp hI i o ho Zc
  obtain⟨val,own,zy,hk,_⟩:=hI.facts
  by_cases hiL:L<=i
  ·have hls:∀j,j<L->listed.getD j false=true:=fun j hj=>by
    have zdQ:i=L:=by
     rcases Nat.lt_or_ge L i with h | h
     ·exfalso
      obtain⟨o',ho',e,he,hb,hon⟩:=YP hch h yz
      rw[ho] at ho'
      cases ho'
      have h1:=Zc e he hb
      have h2:=Yl e.on (by omega) (by omega)
      have hs:=hI.size
      have h':e.on<listed.size:=by omega
      simp only[Array.getD_eq_getD_getElem?,Array.getElem?_eq_getElem h',Option.getD_some] at h1 h2
      rw[h1] at h2
      cases h2
     ·omega
    subst zdQ
    exact Qv j (by simpa using List.all_eq_true.1 hall j (List.mem_range.2 hj))
   have HT:=hend a w val own hI.base hFO zy fun j hj=>hk j (by omega) (hls j hj)
   have HA:=QL (P:=P) (Q:=Q) (fun i o ho e he hb=>by
    have h1:=p.ok_at hp ho
    simp only[xM.ok1,Bool.and_eq_true] at h1
    have yz:=Array.all_eq_true'.1 h1.1.1.2 e he
    rw[hb] at yz
    simpa using yz) hch (ops.size - L) L (fuel+1) listed a w (by omega) (XR hI.size (Nat.le_of_lt JS) Yl hz) zD hI.size hls Yl HT
   exact HA.2 i hi
  ·have Kj:∀j∈p.anc.getD i [],j<ops.size:=fun j hj=>by
    have:=Qv j hj
    have hs:=hI.size
    rcases Nat.lt_or_ge j listed.size with h' | h'
    ·omega
    ·simp[Array.getElem?_eq_none h'] at this
   refine wpOp_mono ?_ (hstep i (by omega) a w val own hI.base hFO zy fun j hj=>hk j (Kj j hj) (Qv j hj))
   rintro a' w' ⟨v,rfl,hdo,hF⟩
   refine ih _ _ _ (by have:=kR yz hI.size hu;omega) (fun k hk1 Jw=>by rw[getD_set_ne true (by omega)];exact Yl k hk1 Jw) ⟨by simp[hI.size],?_,hdo.base,vI hI.frame,Jo val i v,kG own w i,?_,?_,fun f hf=>by cases hf⟩ (by
    have he:qP (ops.extract 0 L) i=qP ops i:=by unfold qP;rw[Array.getElem?_extract,if_pos (by omega),Nat.zero_add]
    rw[<-he]
    exact vI hFO)
   ·intro k ok hok hkl e he hb
    rcases xY hkl with rfl | hkl
    ·rw[ho] at hok
     cases hok
     exact qL (Zc e he hb)
    ·exact qL (hI.down k ok hok hkl e he hb)
   ·intro r hr
    unfold kG
    rw[if_pos (Nat.lt_of_lt_of_le hr hI.base.size)]
    exact zy r hr
   ·intro k hkl hkt
    rcases xY hkt with rfl | hkt
    ·refine⟨fun d hd=>?_,hF⟩
     have h1:=p.ok_at hp ho
     simp only[xM.ok1,Bool.and_eq_true] at h1
     have hod:o.dst=some d:=by simpa [qP,ho] using hd
     have hdl:=h1.1.2
     rw[hod] at hdl
     have Uz:d<a0.tmps.size:=by simpa using hdl
     rw[hd]
     simp only[Act.put,Jo,if_true]
     have hda:d<a.tmps.size:=by rw[hI.frame.size];exact Uz
     simp[hda]
    ·have hok:ops[k]?=some ops[k]:=Array.getElem?_eq_getElem hkl
     have qF:i≠k:=by
      rintro rfl
      have hs:=hI.size
      have h':i<listed.size:=by omega
      simp[h'] at hu hkt
      rw[hu] at hkt
      cases hkt
     refine ZS hp Q8 hok yz qF ?_ hdo (hk k hkl hkt)
     intro hm
     have:=xM.anc_listed hp hI k ops[k] hok (fun e he hb=>hI.down k _ hok hkt e he hb) i hm
     have hs:=hI.size
     have h':i<listed.size:=by omega
     simp[h'] at hu this
     rw[hu] at this
     cases this
theorem Z3 {P:Program} {id:Nat} {ops:Array Oper} {Q:QT} {a0:Act} {w0:World} (anc see wr:List (List Nat)) (fs:List (OpF w0 w0.heap.size)) (n:Nat) (m:Nat) (hn:ops.size=n+(m+1)) (hch:Yq ops n=true) (hm:P.follows .mixedOrders=true) (hp:(jp anc see wr fs).ok ops a0.tmps.size=true) (hall:(List.range n).all (fun j=>((jp anc see wr fs).anc.getD n []).contains j)=true)
 (hstep:∀i,i<n->JP P Q w0 a0 (jp anc see wr fs) ops (ops.extract 0 n) (ve fs) i)
 (hend:∀a w val own,zO w0 w->ju (ops.extract 0 n) a0 a->(∀r,r<w0.heap.size->own r=1000)->(∀i,i<n->wv ops (jp anc see wr fs) (ve fs) val own a w i)->YJ P ops Q (m+1) n a w) :
 (Code.region id ops true).wp P Q a0 w0:=by
 refine wp_region_any hm (zaE (jp anc see wr fs) (ve fs) (by omega) hch hp hall ?_ hstep (by rw[show ops.size - n=m+1 by omega];exact hend) ops.size _ a0 _ ?_ ?_ ?_ ⟨rfl,rfl,fun _ _=>rfl⟩)
 ·exact JR anc see wr fs _
 ·unfold Zf
  exact Nat.le_trans (List.length_filter_le _ _) (by simp)
 ·intro k _ hk
  simp[hk]
 ·refine⟨by simp,?_,(Below.refl _ w0).drew,⟨rfl,rfl,fun _ _=>rfl⟩,fun _=>undef,fun _=>1000,fun _ _=>rfl,?_,fun f hf=>by cases hf⟩
  ·intro i o ho hl
   have hi:i<ops.size:=(Array.getElem?_eq_some_iff.1 ho).1
   simp[hi] at hl
  ·intro i hi hl
   simp[hi] at hl
theorem zaF {P:Program} {ops:Array Oper} {Q:QT} {W:World} {a0:Act} {L z:Nat} (p:xM) (F:Nat->Qn) (hL:L<ops.size) (hch:Yq ops L=true) (hp:p.ok ops a0.tmps.size=true) (hzL:z<L) (hall:(List.range L).all (fun j=>j == z || (p.anc.getD L []).contains j)=true)
 (Q8:∀i,i<ops.size->∀l own own' w w',Uj W W.heap.size (p.dep.getD i []) own own' w w'->F i l own w->F i l own' w')
 (hstep:∀i,i<L->JP P Q W a0 p ops (ops.extract 0 L) F i)
 (hend:∀a w val own,zO W w->ju (ops.extract 0 L) a0 a->(∀r,r<W.heap.size->own r=1000)->(∀i,i<L->wv ops p F val own a w i)->YJ P ops Q (ops.size - L) L a w) :
 ∀(fuel:Nat) (listed:Array Bool) (a:Act) (w:World),Zf listed ops.size<=fuel->listed.getD z false=true->(∀k,L<=k->k<ops.size->listed.getD k true=false)->Um W W.heap.size (fun _=>1000) [] a0 p ops F listed a w->ju (ops.extract 0 L) a0 a->wpAny P .any ops Q fuel listed a w:=by
 have JS:L<ops.size:=hL
 have hoL:ops[L]?=some ops[L]:=Array.getElem?_eq_getElem JS
 have hnil:∀(listed:Array Bool) (a:Act) (w:World),listed.getD L true=false->Um W W.heap.size (fun _=>1000) [] a0 p ops F listed a w->Region.ready .any ops listed≠[]:=by
  intro listed a w Yl hI hr
  have hls:∀i,i<L->listed.getD i false=true:=by
   intro i
   induction i using Nat.strongRecOn with
   | ind i ih =>
    intro hi
    have ho:ops[i]?=some ops[i]:=Array.getElem?_eq_getElem (by omega)
    have h1:=p.ok_at hp ho
    simp only[xM.ok1,Bool.and_eq_true] at h1
    cases hl:listed.getD i true with
    | true =>
     have:=hI.size
     have h':i<listed.size:=by omega
     simpa [h'] using hl
    | false =>
     have:i∈Region.ready .any ops listed:=mem_ready.2 ⟨hl,_,ho,fun e he hb=>by
      have yz:=Array.all_eq_true'.1 h1.1.1.2 e he
      rw[hb] at yz
      have hlt':e.on<i:=by simpa using yz
      exact ih e.on hlt' (by omega)⟩
     rw[hr] at this
     cases this
  have h1:=p.ok_at hp hoL
  simp only[xM.ok1,Bool.and_eq_true] at h1
  have:L∈Region.ready .any ops listed:=mem_ready.2 ⟨Yl,_,hoL,fun e he hb=>by
   have yz:=Array.all_eq_true'.1 h1.1.1.2 e he
   rw[hb] at yz
   exact hls e.on (by simpa using yz)⟩
  rw[hr] at this
  cases this
 intro fuel
 induction fuel with
 | zero =>
  intro listed a w hz hzl Yl hI hFO
  have:=kR JS hI.size (Yl L zD JS)
  omega
 | succ fuel ih =>
  intro listed a w hz hzl Yl hI hFO
  refine⟨fun hr=>absurd hr (hnil listed a w (Yl L zD JS) hI),fun i hi=>?_⟩
  obtain⟨hu,o,ho,Zc⟩:=mem_ready.1 hi
  have yz:i<ops.size:=(Array.getElem?_eq_some_iff.1 ho).1
  have Qv:=xM.anc_listed hp hI i o ho Zc
  obtain⟨val,own,zy,hk,_⟩:=hI.facts
  by_cases hiL:L<=i
  ·have hls:∀j,j<L->listed.getD j false=true:=fun j hj=>by
    have zdQ:i=L:=by
     rcases Nat.lt_or_ge L i with h | h
     ·exfalso
      obtain⟨o',ho',e,he,hb,hon⟩:=YP hch h yz
      rw[ho] at ho'
      cases ho'
      have h1:=Zc e he hb
      have h2:=Yl e.on (by omega) (by omega)
      have hs:=hI.size
      have h':e.on<listed.size:=by omega
      simp only[Array.getD_eq_getD_getElem?,Array.getElem?_eq_getElem h',Option.getD_some] at h1 h2
      rw[h1] at h2
      cases h2
     ·omega
    subst zdQ
    have WD:=List.all_eq_true.1 hall j (List.mem_range.2 hj)
    simp only[Bool.or_eq_true,beq_iff_eq] at WD
    rcases WD with rfl | WD
    ·exact hzl
    ·exact Qv j (by simpa using WD)
   have HT:=hend a w val own hI.base hFO zy fun j hj=>hk j (by omega) (hls j hj)
   have HA:=QL (P:=P) (Q:=Q) (fun i o ho e he hb=>by
    have h1:=p.ok_at hp ho
    simp only[xM.ok1,Bool.and_eq_true] at h1
    have yz:=Array.all_eq_true'.1 h1.1.1.2 e he
    rw[hb] at yz
    simpa using yz) hch (ops.size - L) L (fuel+1) listed a w (by omega) (XR hI.size (Nat.le_of_lt JS) Yl hz) zD hI.size hls Yl HT
   exact HA.2 i hi
  ·have Kj:∀j∈p.anc.getD i [],j<ops.size:=fun j hj=>by
    have:=Qv j hj
    have hs:=hI.size
    rcases Nat.lt_or_ge j listed.size with h' | h'
    ·omega
    ·simp[Array.getElem?_eq_none h'] at this
   refine wpOp_mono ?_ (hstep i (by omega) a w val own hI.base hFO zy fun j hj=>hk j (Kj j hj) (Qv j hj))
   rintro a' w' ⟨v,rfl,hdo,hF⟩
   refine ih _ _ _ (by have:=kR yz hI.size hu;omega) (qL hzl) (fun k hk1 Jw=>by rw[getD_set_ne true (by omega)];exact Yl k hk1 Jw) ⟨by simp[hI.size],?_,hdo.base,vI hI.frame,Jo val i v,kG own w i,?_,?_,fun f hf=>by cases hf⟩ (by
    have he:qP (ops.extract 0 L) i=qP ops i:=by unfold qP;rw[Array.getElem?_extract,if_pos (by omega),Nat.zero_add]
    rw[<-he]
    exact vI hFO)
   ·intro k ok hok hkl e he hb
    rcases xY hkl with rfl | hkl
    ·rw[ho] at hok
     cases hok
     exact qL (Zc e he hb)
    ·exact qL (hI.down k ok hok hkl e he hb)
   ·intro r hr
    unfold kG
    rw[if_pos (Nat.lt_of_lt_of_le hr hI.base.size)]
    exact zy r hr
   ·intro k hkl hkt
    rcases xY hkt with rfl | hkt
    ·refine⟨fun d hd=>?_,hF⟩
     have h1:=p.ok_at hp ho
     simp only[xM.ok1,Bool.and_eq_true] at h1
     have hod:o.dst=some d:=by simpa [qP,ho] using hd
     have hdl:=h1.1.2
     rw[hod] at hdl
     have Uz:d<a0.tmps.size:=by simpa using hdl
     rw[hd]
     simp only[Act.put,Jo,if_true]
     have hda:d<a.tmps.size:=by rw[hI.frame.size];exact Uz
     simp[hda]
    ·have hok:ops[k]?=some ops[k]:=Array.getElem?_eq_getElem hkl
     have qF:i≠k:=by
      rintro rfl
      have hs:=hI.size
      have h':i<listed.size:=by omega
      simp[h'] at hu hkt
      rw[hu] at hkt
      cases hkt
     refine ZS hp Q8 hok yz qF ?_ hdo (hk k hkl hkt)
     intro hm
     have:=xM.anc_listed hp hI k ops[k] hok (fun e he hb=>hI.down k _ hok hkt e he hb) i hm
     have hs:=hI.size
     have h':i<listed.size:=by omega
     simp[h'] at hu this
     rw[hu] at this
     cases this
theorem U6 {P:Program} {id:Nat} {ops:Array Oper} {Q:QT} {a0:Act} {w0:World} (anc see wr:List (List Nat)) (fs:List (OpF w0 w0.heap.size)) (n:Nat) (m:Nat) (z:Nat) (z0:Value) (hn:ops.size=n+(m+1)) (hch:Yq ops n=true) (hm:P.follows .mixedOrders=true) (hp:(jp anc see wr fs).ok ops a0.tmps.size=true) (hall:(List.range n).all (fun j=>j == z || ((jp anc see wr fs).anc.getD n []).contains j)=true)
 (hzn:z<n) (hs:Region.noSelect ops=true) (hfr:Region.free .any ops (Array.replicate ops.size false) z=true) (hrd:(Region.ready .any ops (Array.replicate ops.size false)).contains z=true) (hna:(match ops[z]? with | some o=>o.after.size == 0 | none=>false)=true)
 (hQ:∀c a w,Q (.panic c) (a.put (qP ops z) z0) w->Q (.panic c) a w) {o0:Oper} (ho0:ops[z]?=some o0) (hy:Yields P ops o0 z0 a0) (hF0:ve fs z (((jp anc see wr fs).see.getD z []).map (Jo (fun _=>undef) z z0)) (fun _=>1000) w0.drew)
 (hstep:∀i,i<n->JP P Q w0 a0 (jp anc see wr fs) ops (ops.extract 0 n) (ve fs) i)
 (hend:∀a w val own,zO w0 w->ju (ops.extract 0 n) a0 a->(∀r,r<w0.heap.size->own r=1000)->(∀i,i<n->wv ops (jp anc see wr fs) (ve fs) val own a w i)->YJ P ops Q (m+1) n a w) :
 (Code.region id ops true).wp P Q a0 w0:=by
 have hzl:z<ops.size:=by omega
 have hzo:ops[z]?=some ops[z]:=Array.getElem?_eq_getElem hzl
 have hdz:qP ops z=ops[z].dst:=by unfold qP;rw[hzo];rfl
 have hfz:qP (ops.extract 0 n) z=qP ops z:=by unfold qP;rw[Array.getElem?_extract,if_pos (by omega),Nat.zero_add]
 have vJ:ops.size=(ops.size - 1)+1:=by omega
 rw[hzo] at hna
 have hna':ops[z].after.size=0:=by simpa using hna
 refine wp_region_any hm ?_
 have H:wpAny P .any ops Q ((ops.size - 1)+1) (Array.replicate ops.size false) a0 w0.drew:=by
  refine wpAny_take hzo hs hfr hrd (by rw[<-hdz];exact hQ) (by rw[hzo] at ho0;cases ho0;exact hy) ?_
  rw[<-hdz]
  refine zaF (z:=z) (jp anc see wr fs) (ve fs) (by omega) hch hp hzn hall (JR anc see wr fs _) hstep (by rw[show ops.size - n=m+1 by omega];exact hend) _ _ _ _ ?_ ?_ ?_ ?_ ?_
  ·have h1:=kR (l:=Array.replicate ops.size false) hzl (by simp) (by simp[hzl])
   have h2:Zf (Array.replicate ops.size false) ops.size<=ops.size:=by
    unfold Zf
    exact Nat.le_trans (List.length_filter_le _ _) (by simp)
   omega
  ·simp[hzl]
  ·intro k h1 h2
   rw[getD_set_ne true (by omega)]
   simp[h2]
  ·refine⟨by simp,?_,(Below.refl _ w0).drew,vI ⟨rfl,rfl,fun _ _=>rfl⟩,Jo (fun _=>undef) z z0,fun _=>1000,fun _ _=>rfl,?_,fun f hf=>by cases hf⟩
   ·intro i o ho hl e he
    rcases xY hl with rfl | hl
    ·rw[hzo] at ho
     cases ho
     rw[Array.eq_empty_of_size_eq_zero hna'] at he
     simp at he
    ·have hi:i<ops.size:=(Array.getElem?_eq_some_iff.1 ho).1
     simp[hi] at hl
   ·intro i hi hl
    rcases xY hl with rfl | hl
    ·refine⟨fun d hd=>?_,hF0⟩
     have h1:=xM.ok_at hp hzo
     simp only[xM.ok1,Bool.and_eq_true] at h1
     have hod:ops[i].dst=some d:=by rw[<-hdz];exact hd
     have hdl:=h1.1.2
     rw[hod] at hdl
     have Uz:d<a0.tmps.size:=by simpa using hdl
     rw[hd]
     simp[Act.put,Jo,Uz]
    ·simp[hi] at hl
  ·rw[<-hfz]
   exact vI ⟨rfl,rfl,fun _ _=>rfl⟩
 rw[<-vJ] at H
 exact H
end Go.Proofs.YtbjgjjkgfnfejaaGreatDoor
