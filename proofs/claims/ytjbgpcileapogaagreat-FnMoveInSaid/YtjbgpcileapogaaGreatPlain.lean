/-
  Plain words for what a program of this project looks like in memory (operations, methods), and how such facts are carried from one world to a later one. Nothing of the translation is used here.
-/
import Derived.Test.YtjbgpcileapogaaGreatAb
import Derived.WalkSpells
import Derived.Deep.OwnRows
import Derived.Deep.LoopGhost
namespace Go.Proofs.YtjbgpcileapogaaGreat
open Go.RowKit
def zR (w:World) (v:Value) (ops:zL):Prop :=
 ∃(a:Option Addr) (zp:Nat),v=.slice a ops.length zp/\ops.length<=maxLen /\
  ∀i,(h:i<ops.length)->∃b o,a=some ⟨b,o,none⟩/\w.cell? ⟨b,o+i * 2,none⟩=some (.int .i64 ops[i].1)/\w.cell? ⟨b,o+i * 2+1,none⟩=some (.int .i64 ops[i].2)
def yy (w:World) (v:Value) (ms:zM):Prop :=
 ∃(a:Option Addr) (zp:Nat),v=.slice a ms.length zp/\ms.length<=maxLen /\
  ∀i,(h:i<ms.length)->∃b o vo,a=some ⟨b,o,none⟩/\w.cell? ⟨b,o+i * 3,none⟩=some (.int .i64 ms[i].1)/\w.cell? ⟨b,o+i * 3+1,none⟩=some (.int .i64 ms[i].2.1) /\
   w.cell? ⟨b,o+i * 3+2,none⟩=some vo/\zR w vo ms[i].2.2
theorem zc {w w':World} (hb:Below w.heap.size w w') {p:Addr} {v:Value} (h:w.cell? p=some v):w'.cell? p=some v:=by
 rw[hb.cell (World.block_lt_of_cell? _ _ h)];exact h
theorem zR.below {w w':World} {v:Value} {ops:zL} (h:zR w v ops) (hb:Below w.heap.size w w'):zR w' v ops:=by
 obtain⟨a,zp,hv,hl,hc⟩:=h
 refine⟨a,zp,hv,hl,fun i hi=>?_⟩
 obtain⟨b,o,ha,h0,h1⟩:=hc i hi
 exact⟨b,o,ha,zc hb h0,zc hb h1⟩
theorem yy.below {w w':World} {v:Value} {ms:zM} (h:yy w v ms) (hb:Below w.heap.size w w'):yy w' v ms:=by
 obtain⟨a,zp,hv,hl,hc⟩:=h
 refine⟨a,zp,hv,hl,fun i hi=>?_⟩
 obtain⟨b,o,vo,ha,h0,h1,h2,h3⟩:=hc i hi
 exact⟨b,o,vo,ha,zc hb h0,zc hb h1,zc hb h2,h3.below hb⟩
theorem zz {w w':World} (hb:Below w.heap.size w w') {b:Nat} {t:TypeId} {n:Nat} {f:Nat->Value} (h:w.rowIs b t n f):w'.rowIs b t n f:=h.of_block (hb.block b h.lt)
def Own (B:Nat) (v:Value):Prop:=∃g l c,v=.slice (some ⟨g,0,none⟩) l c/\B<=g
theorem Own.mono {B B':Nat} {v:Value} (h:Own B v) (hB:B'<=B):Own B' v:=by
 obtain⟨g,l,c,hv,hg⟩:=h
 exact⟨g,l,c,hv,by omega⟩
theorem zR.set {w:World} {v:Value} {ops:zL} {B:Nat} (h:zR w v ops) (ho:Own B v) {p:Addr} (hp:p.block<B) (u:Value):zR (w.setCell p u) v ops:=by
 obtain⟨a,zp,hv,hl,hc⟩:=h
 obtain⟨g,l,c,rfl,hg⟩:=ho
 refine⟨a,zp,hv,hl,fun i hi=>?_⟩
 obtain⟨b,o,ha,h0,h1⟩:=hc i hi
 have hbg:b=g:=by
  rw[ha] at hv
  injection hv with h1 _ _
  injection h1 with h1
  injection h1 with h1 _
  exact h1.symm
 refine⟨b,o,ha,?_,?_⟩
 ·rw[World.cell?_setCell_other _ _ _ _ (fun e=>by have:=congrArg Addr.block e;simp at this;omega)];exact h0
 ·rw[World.cell?_setCell_other _ _ _ _ (fun e=>by have:=congrArg Addr.block e;simp at this;omega)];exact h1
def kQ (B:Nat) (w:World) (v:Value) (ms:zM):Prop :=
 ∃(g zp:Nat),v=.slice (some ⟨g,0,none⟩) ms.length zp/\B<=g/\ms.length<=maxLen /\
  ∀i,(h:i<ms.length)->∃vo,w.cell? ⟨g,0+i * 3,none⟩=some (.int .i64 ms[i].1)/\w.cell? ⟨g,0+i * 3+1,none⟩=some (.int .i64 ms[i].2.1) /\
   w.cell? ⟨g,0+i * 3+2,none⟩=some vo/\zR w vo ms[i].2.2/\Own B vo
theorem kQ.mono {B B':Nat} {w:World} {v:Value} {ms:zM} (h:kQ B w v ms) (hB:B'<=B):kQ B' w v ms:=by
 obtain⟨g,zp,hv,hg,hl,hc⟩:=h
 refine⟨g,zp,hv,by omega,hl,fun i hi=>?_⟩
 obtain⟨vo,h0,h1,h2,h3,h4⟩:=hc i hi
 exact⟨vo,h0,h1,h2,h3,h4.mono hB⟩
theorem kQ.below {B:Nat} {w w':World} {v:Value} {ms:zM} (h:kQ B w v ms) (hb:Below w.heap.size w w'):kQ B w' v ms:=by
 obtain⟨g,zp,hv,hg,hl,hc⟩:=h
 refine⟨g,zp,hv,hg,hl,fun i hi=>?_⟩
 obtain⟨vo,h0,h1,h2,h3,h4⟩:=hc i hi
 exact⟨vo,zc hb h0,zc hb h1,zc hb h2,h3.below hb,h4⟩
theorem kQ.set {B:Nat} {w:World} {v:Value} {ms:zM} (h:kQ B w v ms) {p:Addr} (hp:p.block<B) (u:Value):kQ B (w.setCell p u) v ms:=by
 obtain⟨g,zp,hv,hg,hl,hc⟩:=h
 refine⟨g,zp,hv,hg,hl,fun i hi=>?_⟩
 obtain⟨vo,h0,h1,h2,h3,h4⟩:=hc i hi
 have key:∀o x,w.cell? ⟨g,o,none⟩=some x->(w.setCell p u).cell? ⟨g,o,none⟩=some x:=fun o x hx=>by
  rw[World.cell?_setCell_other _ _ _ _ (fun e=>by have:=congrArg Addr.block e;simp at this;omega)];exact hx
 exact⟨vo,key _ _ h0,key _ _ h1,key _ _ h2,h3.set h4 hp u,h4⟩
structure ZY (w wr:World) (vp:Value) (x t:Int) (vo:Value):Prop where
 p:wr.cell? ⟨w.heap.size,0,none⟩=some vp
 a:wr.cell? ⟨w.heap.size+1,0,none⟩=some (.int .i64 x)
 b:wr.cell? ⟨w.heap.size+1,1,none⟩=some (.int .i64 t)
 c:wr.cell? ⟨w.heap.size+1,2,none⟩=some vo
 below:Below w.heap.size w wr
theorem ZY.new (w:World) (vp:Value) (x t:Int) (vo:Value) (t1 t2:TypeId):ZY w ((w.alloc (.cells #[vp] t1)).alloc (.cells #[.int .i64 x,.int .i64 t,vo] t2)) vp x t vo:=by
 refine⟨?_,?_,?_,?_,(zB _ _).alloc (by simp) _⟩
 all_goals simp[go_sem]
theorem ZY.go {w wr w1:World} {vp:Value} {x t:Int} {vo:Value} (h:ZY w wr vp x t vo) (hb:Below wr.heap.size wr w1):ZY w w1 vp x t vo :=
 ⟨zc hb h.p,zc hb h.a,zc hb h.b,zc hb h.c,h.below.trans (hb.mono h.below.size)⟩
end Go.Proofs.YtjbgpcileapogaaGreat
namespace Go.Proofs.YtjbgpcileapogaaGreat
def yO (n lo hi:Int):Bool:=decide (lo<=n) && decide (n<=hi)
theorem zH {n lo hi:Int}:yO n lo hi=true ↔ lo<=n/\n<=hi:=by simp[yO]
theorem qI {n lo hi:Int}:yO n lo hi=false ↔ ¬(lo<=n/\n<=hi):=by
 rw[<-zH];simp
def qR (nm no:Nat) (t k a:Int):Bool :=
 if k=1 then yO a 0 99
 else if k=2\/k=3 then yO a 0 (t - 1)
 else if k=7\/k=8 then yO a 0 ((no:Int) - 1)
 else if k=9 then yO a 0 ((nm:Int) - 1)
 else if k=13\/k=14 then yO a 0 3
 else yO k 1 18 && (a == 0)
def Qd (nm:Nat) (t:Int) (ops:zL):Bool:=ops.all fun op=>qR nm ops.length t op.1 op.2
def yG (nm:Nat) (m:zP):Bool :=
 yO m.1 0 2 && yO m.2.1 m.1 4 && decide (m.2.2.length<=14) && Qd nm m.2.1 m.2.2
def yt (ms:zM):Bool :=
 yO ms.length 1 4 && ((ms.getD 0 (0,0,[])).1 == 0) && ms.all (yG ms.length)
theorem Ya {α:Type} {l:List α} {p:α->Bool} (h:∀i,(hi:i<l.length)->p l[i]=true):l.all p=true:=by
 rw[List.all_eq_true]
 intro x hx
 obtain⟨i,hi,rfl⟩:=List.getElem_of_mem hx
 exact h i hi
theorem YL {α:Type} {l:List α} {p:α->Bool} {i:Nat} (hi:i<l.length) (h:p l[i]=false):l.all p=false:=by
 rw[List.all_eq_false]
 exact⟨_,List.getElem_mem hi,by simp[h]⟩
theorem KQ {nm:Nat} {t:Int} {ops:zL} (h:∀i,(hi:i<ops.length)->qR nm ops.length t ops[i].1 ops[i].2=true):Qd nm t ops=true:=Ya h
theorem UO {nm:Nat} {t:Int} {ops:zL} {i:Nat} (hi:i<ops.length) (h:qR nm ops.length t ops[i].1 ops[i].2=false):Qd nm t ops=false:=YL hi h
theorem QI {nm:Nat} {x t:Int} {ops:zL} (h1:yO x 0 2=true) (h2:yO t x 4=true) (h3:ops.length<=14) {b:Bool} (h4:Qd nm t ops=b):yG nm (x,t,ops)=b:=by
 simp[yG,h1,h2,h3,h4]
theorem Yt {nm:Nat} {x t:Int} {ops:zL} (h:yO x 0 2=false):yG nm (x,t,ops)=false:=by simp[yG,h]
theorem Yu {nm:Nat} {x t:Int} {ops:zL} (h:yO t x 4=false):yG nm (x,t,ops)=false:=by simp[yG,h]
theorem JF {nm:Nat} {x t:Int} {ops:zL} (h:¬ops.length<=14):yG nm (x,t,ops)=false:=by simp[yG,h]
theorem zdN (nm no:Nat) (t a:Int):qR nm no t 1 a=yO a 0 99:=rfl
theorem zdO (nm no:Nat) (t a:Int):qR nm no t 2 a=yO a 0 (t - 1):=rfl
theorem zdP (nm no:Nat) (t a:Int):qR nm no t 3 a=yO a 0 (t - 1):=rfl
theorem zdQ (nm no:Nat) (t a:Int):qR nm no t 8 a=yO a 0 ((no:Int) - 1):=rfl
theorem zdR (nm no:Nat) (t a:Int):qR nm no t 9 a=yO a 0 ((nm:Int) - 1):=rfl
theorem zc6 (nm no:Nat) (t a:Int):qR nm no t 13 a=yO a 0 3:=rfl
theorem zc7 (nm no:Nat) (t a:Int):qR nm no t 14 a=yO a 0 3:=rfl
theorem QK (nm no:Nat) (t k a:Int) (h1:¬k=1) (h2:¬k=2) (h3:¬k=3) (h7:¬k=7) (h8:¬k=8) (h9:¬k=9) (Vi:¬k=13) (J8:¬k=14):qR nm no t k a=(yO k 1 18 && (a == 0)):=by
 simp[qR,h1,h2,h3,h7,h8,h9,Vi,J8]
theorem UN {nm no:Nat} {t k a:Int} (h:yO k 1 18=false):qR nm no t k a=false:=by
 rw[qI] at h
 rw[QK nm no t k a (by omega) (by omega) (by omega) (by omega) (by omega) (by omega) (by omega) (by omega),qI.2 h]
 rfl
theorem zm {a b:Bool} (h:a=b):Ending.returned (.bool a)=.returned (.bool b):=by rw[h]
def Few (v:Int × Int):Prop:=0<=v.1/\v.1<=2/\0<=v.2/\v.2<1000
end Go.Proofs.YtjbgpcileapogaaGreat
namespace Go.Proofs.YtjbgpcileapogaaGreat
open Go.RowKit
structure xj where
 anc:List (List Nat)
 see:List (List Nat)
 dep:List (List Nat)
 wr:List (List Nat)
abbrev Qq:=List Value->(Nat->Nat)->World->Prop
abbrev QT:=Exit->Act->World->Prop
def qu (ops:Array Oper) (i:Nat):Option Tmp:=(ops[i]?).bind (·.dst)
def xj.ok1 (p:xj) (ops:Array Oper) (n:Nat) (i:Nat) (o:Oper):Bool :=
 (p.anc.getD i []).all (fun j=>o.after.any fun e=>Region.binds .any e && (e.on == j || (p.anc.getD e.on []).contains j)) &&
 (p.see.getD i []).all (fun j=>j == i || (p.anc.getD i []).contains j) &&
 o.after.all (fun e=>!Region.binds .any e || Nat.blt e.on i) &&
 (match o.dst with | some d=>Nat.blt d n | none=>true) &&
 (List.range ops.size).all (fun k=>k == i || (((p.wr.getD k []).all (fun x=>!(p.dep.getD i []).contains x) || (p.anc.getD i []).contains k) && (match o.dst with | some d=>qu ops k != some d | none=>true)))
def xj.ok (p:xj) (ops:Array Oper) (n:Nat):Bool:=(List.range ops.size).all fun i=>match ops[i]? with | some o=>p.ok1 ops n i o | none=>false
structure K3 (W:World) (B:Nat) (D:List Nat) (own own':Nat->Nat) (w w':World):Prop where
 base:Below B W w'
 size:w.heap.size<=w'.heap.size
 mine:∀r,r<w.heap.size->own' r=own r
 blk:∀r,r<w.heap.size->own r∈D->w'.heap[r]?=w.heap[r]?
 row:∀g T n f,own g<900->w.rowIs g T n f->∃f',w'.rowIs g T n f'
def jW (own:Nat->Nat) (w:World) (i:Nat):Nat->Nat:=fun r=>if r<w.heap.size then own r else i
structure Does (W:World) (B:Nat) (Wr:List Nat) (own:Nat->Nat) (w w':World):Prop where
 base:Below B W w'
 size:w.heap.size<=w'.heap.size
 blk:∀r,r<w.heap.size->own r∉Wr->w'.heap[r]?=w.heap[r]?
 row:∀g T n f,own g<900->w.rowIs g T n f->∃f',w'.rowIs g T n f'
theorem Does.keep {W:World} {B:Nat} {Wr D:List Nat} {own:Nat->Nat} {w w':World} {i:Nat} (h:Does W B Wr own w w') (hd:∀x∈Wr,x∉D):K3 W B D own (jW own w i) w w' :=
 ⟨h.base,h.size,fun _ hr=>if_pos hr,fun r hr hD=>h.blk r hr fun hx=>hd _ hx hD,h.row⟩
theorem Does.same {W w:World} {B:Nat} (hb:Below B W w) (own:Nat->Nat) (Wr:List Nat):Does W B Wr own w w:=⟨hb,Nat.le_refl _,fun _ _ _=>rfl,fun _ _ _ f _ h=>⟨f,h⟩⟩
theorem Does.below {W w w':World} {B:Nat} (hBW:B<=W.heap.size) (hb:Below B W w) (h:Below w.heap.size w w') (own:Nat->Nat) (Wr:List Nat):Does W B Wr own w w':=⟨hb.trans (h.mono (Nat.le_trans hBW hb.size)),h.size,fun r hr _=>h.block r hr,fun _ _ _ f _ k=>⟨f,zz h k⟩⟩
theorem Does.trans {W w w' w'':World} {B:Nat} {own:Nat->Nat} {Wr:List Nat} (h:Does W B Wr own w w') (k:Does W B Wr own w' w''):Does W B Wr own w w'' :=
 ⟨k.base,Nat.le_trans h.size k.size,fun r hr hx=>(k.blk r (Nat.lt_of_lt_of_le hr h.size) hx).trans (h.blk r hr hx),fun g T n f h9 hr=>let ⟨f',h'⟩:=h.row g T n f h9 hr;k.row g T n f' h9 h'⟩
structure OpF (W:World) (B:Nat) where
 fact:Qq
 dep:List Nat
 stab:∀l own own' w w',K3 W B dep own own' w w'->fact l own w->fact l own' w'
def Made (W:World) (B:Nat) (own:Nat->Nat) (k:Nat) (w:World) (R:World->Prop):Prop :=
 ∀w'',w.heap.size<=w''.heap.size->Below B W w''->(∀r,r<w.heap.size->own r=k->w''.heap[r]?=w.heap[r]?)->R w''
theorem Made.keep {W:World} {B:Nat} {own own':Nat->Nat} {k:Nat} {w w':World} {R:World->Prop} {D:List Nat} (h:Made W B own k w R) (hk:K3 W B D own own' w w') (hD:k∈D):Made W B own' k w' R:=by
 intro w'' hs hb hr
 refine h w'' (Nat.le_trans hk.size hs) hb fun r hlt ho=>?_
 rw[hr r (Nat.lt_of_lt_of_le hlt hk.size) ((hk.mine r hlt).trans ho)]
 exact hk.blk r hlt (by rw[ho];exact hD)
theorem Made.here {W:World} {B:Nat} {own:Nat->Nat} {k:Nat} {w:World} {R:World->Prop} (h:Made W B own k w R) (hb:Below B W w):R w:=h w zD hb fun _ _ _=>rfl
theorem Made.mono {W:World} {B:Nat} {own:Nat->Nat} {k:Nat} {w:World} {R R':World->Prop} (h:Made W B own k w R) (hR:∀w'',R w''->R' w''):Made W B own k w R':=fun w'' a b c=>hR _ (h w'' a b c)
theorem Made.new {W:World} {B:Nat} {own:Nat->Nat} {k:Nat} {w w':World} {R:World->Prop} (h:∀w'',w'.heap.size<=w''.heap.size->Below B W w''->(∀r,w.heap.size<=r->r<w'.heap.size->w''.heap[r]?=w'.heap[r]?)->R w''):Made W B (jW own w k) k w' R :=
 fun w'' hs hb hr=>h w'' hs hb fun r h1 h2=>hr r h2 (if_neg (Nat.not_lt.2 h1))
structure xI (ops:Array Oper) (a0 a:Act):Prop where
 defers:a.defers=a0.defers
 size:a.tmps.size=a0.tmps.size
 slot:∀d,(∀i,qu ops i≠some d)->a.tmps[d]?=a0.tmps[d]?
def wn (ops:Array Oper) (p:xj) (F:Nat->Qq) (val:Nat->Value) (own:Nat->Nat) (a:Act) (w:World) (i:Nat):Prop :=
 (∀d,qu ops i=some d->a.tmps[d]?.getD undef=val i)/\F i ((p.see.getD i []).map val) own w
structure K6 (W:World) (B:Nat) (own0:Nat->Nat) (inits:List (OpF W B)) (a0:Act) (p:xj) (ops:Array Oper) (F:Nat->Qq) (listed:Array Bool) (a:Act) (w:World):Prop where
 size:listed.size=ops.size
 down:∀i o,ops[i]?=some o->listed.getD i false=true->∀e∈o.after,Region.binds .any e=true->listed.getD e.on false=true
 base:Below B W w
 frame:xI ops a0 a
 facts:∃(val:Nat->Value) (own:Nat->Nat),(∀r,r<W.heap.size->own r=own0 r)/\(∀i,i<ops.size->listed.getD i false=true->wn ops p F val own a w i)/\∀f∈inits,(∀k,k<ops.size->listed.getD k false=true->∀x∈p.wr.getD k [],x∉f.dep)->f.fact [] own w
def Xv (val:Nat->Value) (i:Nat) (v:Value):Nat->Value:=fun j=>if j=i then v else val j
def K7 (P:Program) (Q:QT) (W:World) (a0:Act) (p:xj) (ops:Array Oper) (F:Nat->Qq) (i:Nat):Prop :=
 ∀(a:Act) (w:World) (val:Nat->Value) (own:Nat->Nat),Below W.heap.size W w->xI ops a0 a->(∀r,r<W.heap.size->own r=1000)->(∀j∈p.anc.getD i [],wn ops p F val own a w j) ->
  wpOp P ops Q i (fun a' w'=>∃v,a'=a.put (qu ops i) v/\Does W W.heap.size (p.wr.getD i []) own w w'/\F i ((p.see.getD i []).map (Xv val i v)) (jW own w i) w') a w
theorem xj.ok_at {p:xj} {ops:Array Oper} {n i:Nat} {o:Oper} (h:p.ok ops n=true) (hi:ops[i]?=some o):p.ok1 ops n i o=true:=by
 unfold xj.ok at h
 have hlt:i<ops.size:=(Array.getElem?_eq_some_iff.1 hi).1
 have:=List.all_eq_true.1 h i (List.mem_range.2 hlt)
 rw[hi] at this
 exact this
theorem xj.anc_listed {W:World} {B:Nat} {own0:Nat->Nat} {inits:List (OpF W B)} {a0 a:Act} {w:World} {p:xj} {ops:Array Oper} {F:Nat->Qq} {listed:Array Bool} {n:Nat} (hp:p.ok ops n=true) (hI:K6 W B own0 inits a0 p ops F listed a w) :
 ∀i o,ops[i]?=some o->(∀e∈o.after,Region.binds .any e=true->listed.getD e.on false=true)->∀j∈p.anc.getD i [],listed.getD j false=true:=by
 intro i
 induction i using Nat.strongRecOn with
 | ind i ih =>
  intro o ho hall j hj
  have h1:=p.ok_at hp ho
  simp only[xj.ok1,Bool.and_eq_true] at h1
  have ha:=List.all_eq_true.1 h1.1.1.1.1 j hj
  obtain⟨e,he,hb⟩:=Array.any_eq_true'.1 ha
  simp only[Bool.and_eq_true,Bool.or_eq_true,beq_iff_eq,List.contains_iff_mem] at hb
  have hle:=hall e he hb.1
  have hlt:e.on<i:=by
   have:=Array.all_eq_true'.1 h1.1.1.2 e he
   rw[hb.1] at this
   simpa using this
  rcases hb.2 with rfl | hm
  ·exact hle
  ·have hs:e.on<ops.size:=by
    have:=hI.size
    rcases Nat.lt_or_ge e.on listed.size with h' | h'
    ·omega
    ·simp[Array.getElem?_eq_none h'] at hle
   obtain⟨oe,hoe⟩:∃oe,ops[e.on]?=some oe:=⟨ops[e.on],Array.getElem?_eq_getElem hs⟩
   exact ih e.on hlt oe hoe (fun e' he' hb'=>hI.down e.on oe hoe hle e' he' hb') j hm
theorem zdF {p:xj} {ops:Array Oper} {n i k:Nat} {d:Tmp} {o:Oper} (hp:p.ok ops n=true) (ho:ops[i]?=some o) (hk:k<ops.size) (hne:k≠i) (hd:qu ops i=some d):qu ops k≠some d:=by
 have h1:=p.ok_at hp ho
 simp only[xj.ok1,Bool.and_eq_true] at h1
 have h2:=List.all_eq_true.1 h1.2 k (List.mem_range.2 hk)
 have hod:o.dst=some d:=by simpa [qu,ho] using hd
 simp only[hod,Bool.or_eq_true,beq_iff_eq,Bool.and_eq_true,bne_iff_ne] at h2
 rcases h2 with h2 | h2
 ·exact absurd h2 hne
 ·exact h2.2
theorem wD {W:World} {B:Nat} {p:xj} {ops:Array Oper} {F:Nat->Qq} {val:Nat->Value} {own:Nat->Nat} {a:Act} {w w':World} {i k:Nat} {v:Value} {n:Nat} {oi:Oper} (hp:p.ok ops n=true)
 (YX:∀i,i<ops.size->∀l own own' w w',K3 W B (p.dep.getD i []) own own' w w'->F i l own w->F i l own' w') (hoi:ops[i]?=some oi) (hk:k<ops.size) (hne:k≠i) (hkn:k∉p.anc.getD i [])
 (hdo:Does W B (p.wr.getD k []) own w w') (h:wn ops p F val own a w i):wn ops p F (Xv val k v) (jW own w k) (a.put (qu ops k) v) w' i:=by
 have hi:i<ops.size:=(Array.getElem?_eq_some_iff.1 hoi).1
 refine⟨fun d hd=>?_,?_⟩
 ·have:=h.1 d hd
  have hx:=zdF hp hoi hk hne hd
  rw[show Xv val k v i=val i from if_neg (Ne.symm hne),<-this]
  cases hdk:qu ops k with
  | none=>rfl
  | some e =>
   have hde:e≠d:=fun e'=>hx (by rw[hdk,e'])
   simp only[Act.put]
   simp[hde]
 ·have h1:=p.ok_at hp hoi
  simp only[xj.ok1,Bool.and_eq_true] at h1
  have hs:=List.all_eq_true.1 h1.1.1.1.2
  have hmap:(p.see.getD i []).map (Xv val k v)=(p.see.getD i []).map val:=List.map_congr_left fun j hj=>by
   have:=hs j hj
   simp only[Bool.or_eq_true,beq_iff_eq,List.contains_iff_mem] at this
   refine if_neg ?_
   rintro rfl
   rcases this with e | e
   ·exact hne e
   ·exact hkn e
  rw[hmap]
  refine YX i hi _ _ _ _ _ (hdo.keep fun x hx=>?_) h.2
  have h2:=List.all_eq_true.1 h1.2 k (List.mem_range.2 hk)
  simp only[Bool.or_eq_true,beq_iff_eq,Bool.and_eq_true,List.contains_iff_mem] at h2
  rcases h2 with h2 | h2
  ·exact absurd h2 hne
  ·rcases h2.1 with h3 | h3
   ·simpa using List.all_eq_true.1 h3 x hx
   ·exact absurd h3 hkn
theorem kN {ops:Array Oper} {a0 a:Act} {i:Nat} {v:Value} (h:xI ops a0 a):xI ops a0 (a.put (qu ops i) v):=by
 cases hd:qu ops i with
 | none=>exact h
 | some d =>
  refine⟨h.defers,by simp[Act.put,h.size],fun e he=>?_⟩
  have:d≠e:=fun x=>he i (by rw[hd,x])
  simp only[Act.put]
  rw[Array.getElem?_setIfInBounds_ne this]
  exact h.slot e he
theorem Zl {l:Array Bool} {i:Nat} (h:i<l.size):(l.setIfInBounds i true).getD i false=true:=by simp[h]
theorem xo {l:Array Bool} {i j:Nat} (h:(l.setIfInBounds i true).getD j false=true):j=i\/l.getD j false=true:=by
 by_cases e:j=i
 ·exact .inl e
 ·right
  simp only[Array.getD_eq_getD_getElem?,Array.getElem?_setIfInBounds_ne (Ne.symm e)] at h ⊢
  exact h
theorem qm {l:Array Bool} {i j:Nat} (h:l.getD j false=true):(l.setIfInBounds i true).getD j false=true:=by
 by_cases e:j=i
 ·subst e
  have:j<l.size:=by
   rcases Nat.lt_or_ge j l.size with h' | h'
   ·exact h'
   ·simp[Array.getElem?_eq_none h'] at h
  simp[this]
 ·simp only[Array.getD_eq_getD_getElem?,Array.getElem?_setIfInBounds_ne (Ne.symm e)] at h ⊢
  exact h
def uY (l:Array Bool) (n:Nat):Nat:=((List.range n).filter fun i=>!l.getD i true).length
theorem ke {l:Array Bool} {n i:Nat} (hi:i<n) (hs:l.size=n) (hl:l.getD i true=false):uY (l.setIfInBounds i true) n<uY l n:=by
 unfold uY
 have hsub:((List.range n).filter fun j=>!(l.setIfInBounds i true).getD j true)=((List.range n).filter fun j=>!l.getD j true).filter fun j=>j != i:=by
  rw[List.filter_filter]
  refine List.filter_congr fun j hj=>?_
  by_cases e:j=i
  ·subst e;simp[hs,hi]
  ·simp only[Array.getD_eq_getD_getElem?,Array.getElem?_setIfInBounds_ne (Ne.symm e)]
   simp[e]
 rw[hsub]
 have hmem:i∈(List.range n).filter fun j=>!l.getD j true:=List.mem_filter.2 ⟨List.mem_range.2 hi,by rw[hl];rfl⟩
 exact List.length_filter_lt_length_iff_exists.2 ⟨i,hmem,by simp⟩
def qb {W:World} {B:Nat} (v:Value):OpF W B:=⟨fun l _ _=>l=[v],[],fun _ _ _ _ _ _ h=>h⟩
def wV {W:World} {B:Nat} (A:List Value->Prop):OpF W B:=⟨fun l _ _=>A l,[],fun _ _ _ _ _ _ h=>h⟩
def X2 {W:World} {B:Nat} (k:Nat) {γ:Type} (A:γ->List Value->Prop) (R:γ->World->Prop):OpF W B :=
 ⟨fun l own w=>∃x:γ,A x l/\Made W B own k w (R x),[k],fun _ _ _ _ _ hk ⟨x,hA,hM⟩=>⟨x,hA,hM.keep hk (by simp)⟩⟩
theorem zu {W w:World} {B:Nat} {v x:Value} {own:Nat->Nat} (h:(qb (W:=W) (B:=B) v).fact [x] own w):x=v:=by
 have:[x]=[v]:=h
 injection this
def xG {W:World} {B:Nat} (anc see wr:List (List Nat)) (fs:List (OpF W B)):xj:=⟨anc,see,fs.map (·.dep),wr⟩
def km {W:World} {B:Nat} (fs:List (OpF W B)):Nat->Qq:=fun i=>match fs[i]? with | some f=>f.fact | none=>fun _ _ _=>True
theorem X6 {W:World} {B:Nat} (anc see wr:List (List Nat)) (fs:List (OpF W B)) (n:Nat):∀i,i<n->∀l own own' w w',K3 W B ((xG anc see wr fs).dep.getD i []) own own' w w'->km fs i l own w->km fs i l own' w':=by
 intro i _ l own own' w w' hk h
 unfold km at h ⊢
 have hd:(xG anc see wr fs).dep.getD i []=(match fs[i]? with | some f=>f.dep | none=>[]):=by
  show(fs.map (·.dep)).getD i []=_
  rw[List.getD_eq_getElem?_getD,List.getElem?_map]
  cases fs[i]? <;> rfl
 cases hf:fs[i]? with
 | none=>simp only
 | some f =>
  rw[hf] at h hd
  rw[hd] at hk
  exact f.stab l own own' w w' hk h
theorem qj {p:Nat->Prop}:∀i,i<0->p i:=fun _ h=>absurd h zF
theorem zi {n:Nat} {p:Nat->Prop} (h:∀i,i<n->p i) (hn:p n):∀i,i<n+1->p i:=fun i hi=>by
 rcases Nat.lt_succ_iff_lt_or_eq.1 hi with h' | rfl
 ·exact h i h'
 ·exact hn
section
variable {P:Program} {ops:Array Oper} {Q:QT} {K:Act->World->Prop} {a:Act} {w:World} {i:Nat}
theorem qs {o:Oper} {v:Value} {w':World} (ho:ops[i]?=some o) (hg:Region.wanted o (yielded ops a.tmps)=true) (hr:(execOp a.eval o).run P w=.ok (.value v) w') (hK:K (a.put o.dst v) w'):wpOp P ops Q i K a w:=by
 unfold wpOp
 simp only[ho,hg,if_true]
 left
 unfold Oper.wp
 rw[hr]
 exact hK
theorem xx {o:Oper} {w':World} (ho:ops[i]?=some o) (hg:Region.wanted o (yielded ops a.tmps)=true) (hr:(execOp a.eval o).run P w=.ok .skip w') (hK:K (a.put o.dst undef) w'):wpOp P ops Q i K a w:=by
 unfold wpOp
 simp only[ho,hg,if_true]
 left
 unfold Oper.wp
 rw[hr]
 exact hK
theorem zav {o:Oper} {f:FuncId} {args:Array Value} {w':World} (ho:ops[i]?=some o) (hg:Region.wanted o (yielded ops a.tmps)=true) (hr:(execOp a.eval o).run P w=.ok (.enter f args) w') (hK:Calls P f args w' fun e w''=>∃v,e=.returned v/\K (a.put o.dst v) w''):wpOp P ops Q i K a w:=by
 unfold wpOp
 simp only[ho,hg,if_true]
 left
 unfold Oper.wp
 rw[hr]
 refine hK.mono ?_
 rintro e w'' ⟨v,rfl,hk⟩
 exact hk
end
section
variable {P:Program} {ops:Array Oper} {Q:QT} {W:World} {B:Nat} {p:xj} {F:Nat->Qq} {a:Act} {w:World} {i:Nat} {val:Nat->Value} {own:Nat->Nat}
theorem zs {o:Oper} {v:Value} (hB:Below B W w) (ho:ops[i]?=some o:=by exact rfl) (hg:Region.wanted o (yielded ops a.tmps)=true:=by exact rfl) (hr:(execOp a.eval o).run P w=.ok (.value v) w:=by unfold execOp;go_simp) (hF:F i ((p.see.getD i []).map (Xv val i v)) (jW own w i) w:=by exact rfl):
 wpOp P ops Q i (fun a' w'=>∃v,a'=a.put (qu ops i) v/\Does W B (p.wr.getD i []) own w w'/\F i ((p.see.getD i []).map (Xv val i v)) (jW own w i) w') a w :=
 qs ho hg hr ⟨v,by simp[qu,ho],Does.same hB _ _,hF⟩
theorem zda (hBW:B<=W.heap.size) {o:Oper} {v:Value} {w':World} (hB:Below B W w) (ho:ops[i]?=some o) (hg:Region.wanted o (yielded ops a.tmps)=true) (hr:(execOp a.eval o).run P w=.ok (.value v) w') (hb:Below w.heap.size w w') (hF:F i ((p.see.getD i []).map (Xv val i v)) (jW own w i) w') :
 wpOp P ops Q i (fun a' w'=>∃v,a'=a.put (qu ops i) v/\Does W B (p.wr.getD i []) own w w'/\F i ((p.see.getD i []).map (Xv val i v)) (jW own w i) w') a w :=
 qs ho hg hr ⟨v,by simp[qu,ho],Does.below hBW hB hb _ _,hF⟩
theorem zcA (hBW:B<=W.heap.size) {o:Oper} {f:FuncId} {args:Array Value} (hB:Below B W w) (ho:ops[i]?=some o) (hg:Region.wanted o (yielded ops a.tmps)=true) (hr:(execOp a.eval o).run P w=.ok (.enter f args) w)
 (hc:Calls P f args w fun e w'=>∃v,e=.returned v/\Below w.heap.size w w'/\F i ((p.see.getD i []).map (Xv val i v)) (jW own w i) w') :
 wpOp P ops Q i (fun a' w'=>∃v,a'=a.put (qu ops i) v/\Does W B (p.wr.getD i []) own w w'/\F i ((p.see.getD i []).map (Xv val i v)) (jW own w i) w') a w:=by
 refine zav ho hg hr (hc.mono ?_)
 rintro e w' ⟨v,rfl,hb,hF⟩
 exact⟨v,rfl,v,by simp[qu,ho],Does.below hBW hB hb _ _,hF⟩
theorem uN {o:Oper} {v:Value} {w':World} (hB:Below W.heap.size W w) (ho:ops[i]?=some o) (hg:Region.wanted o (yielded ops a.tmps)=true) (hr:(execOp a.eval o).run P w=.ok (.value v) w') (hb:Below w.heap.size w w') (hF:F i ((p.see.getD i []).map (Xv val i v)) (jW own w i) w') :
 wpOp P ops Q i (fun a' w'=>∃v,a'=a.put (qu ops i) v/\Does W W.heap.size (p.wr.getD i []) own w w'/\F i ((p.see.getD i []).map (Xv val i v)) (jW own w i) w') a w:=zda zD hB ho hg hr hb hF
theorem jg {o:Oper} {f:FuncId} {args:Array Value} (hB:Below W.heap.size W w) (ho:ops[i]?=some o) (hg:Region.wanted o (yielded ops a.tmps)=true) (hr:(execOp a.eval o).run P w=.ok (.enter f args) w)
 (hc:Calls P f args w fun e w'=>∃v,e=.returned v/\Below w.heap.size w w'/\F i ((p.see.getD i []).map (Xv val i v)) (jW own w i) w') :
 wpOp P ops Q i (fun a' w'=>∃v,a'=a.put (qu ops i) v/\Does W W.heap.size (p.wr.getD i []) own w w'/\F i ((p.see.getD i []).map (Xv val i v)) (jW own w i) w') a w:=zcA zD hB ho hg hr hc
theorem xI.at {a0:Act} {d:Nat} {v:Value} (h:xI ops a0 a) (hd:(List.range ops.size).all (fun i=>qu ops i != some d)=true) (hv:a0.tmps[d]?=some v):a.tmps[d]?.getD undef=v:=by
 rw[h.slot d ?_,hv]
 ·rfl
 ·intro i
  rcases Nat.lt_or_ge i ops.size with hi | hi
  ·simpa using List.all_eq_true.1 hd i (List.mem_range.2 hi)
  ·simp[qu,Array.getElem?_eq_none hi]
end
theorem yB {x y:Value} (h:[x]=[y]):x=y:=by injection h
def YC (w:World) (b:Nat):Nat->List Value->World
 | _,[]=>w
 | o,x :: xs=>YC (w.setCell ⟨b,o,none⟩ x) b (o+1) xs
theorem zR.of_block {w w':World} {b o n c:Nat} {l:zL} (h:zR w (.slice (some ⟨b,o,none⟩) n c) l) (hb:w'.heap[b]?=w.heap[b]?):zR w' (.slice (some ⟨b,o,none⟩) n c) l:=by
 obtain⟨a,zp,hv,hl,hc⟩:=h
 refine⟨a,zp,hv,hl,fun i hi=>?_⟩
 obtain⟨b',o',ha,h0,h1⟩:=hc i hi
 have ha':=ha
 subst ha
 injection hv with e1 e2 e3
 injection e1 with e1
 injection e1 with e1 e4 e5
 subst e1
 refine⟨_,_,rfl,?_,?_⟩
 ·rw[<-h0];exact World.cell?_of_block hb
 ·rw[<-h1];exact World.cell?_of_block hb
theorem kX {a:Act} {t:Array Value} {d:List Deferred} (h1:a.tmps=t) (h2:a.defers=d):a={tmps:=t,defers:=d}:=by
 cases a
 simp only at h1 h2
 subst h1 h2
 rfl
theorem Qy (tm:Array Value) {n:Nat} (hn:tm.size=n):∃u:Nat->Value,tm=((List.range n).map u).toArray/\∀i,u i=tm[i]?.getD undef:=by
 refine⟨fun i=>tm[i]?.getD undef,?_,fun _=>rfl⟩
 subst hn
 refine Array.ext (by simp) fun i h1 h2=>?_
 simp[h1]
end Go.Proofs.YtjbgpcileapogaaGreat
