/-
  What is seen of a heap, by the model: l11Has, l11Refs, l11Found, l11Names, l11Copy.
-/
import Derived.Test.YtbjgjjkgfnfejaaGreatDoorHNew
import Derived.Test.YtbjgjjkgfnfejaaGreatDoorQB
namespace Go.Proofs.YtbjgjjkgfnfejaaGreatDoor
set_option maxHeartbeats 4000000
set_option maxRecDepth 100000
open Go.RowKit
def tabN (n:Nat) (ps:List Nat):List Int:=(List.range n).map fun(p:Nat)=>zfh ps p
def Jn (x0 x1:Value):Nat->Value:=fun i=>if i=0 then x0 else x1
theorem xJ (w:World) (t:TypeId) (x0 x1:Value):(w.alloc (.cells #[x0,x1] t)).rowIs w.heap.size t 2 (Jn x0 x1) :=
 ⟨_,Go.Deep.blk_alloc_new _ _,rfl,fun i hi=>by match i,hi with | 0,_=>rfl | 1,_=>rfl⟩
theorem zZ {w:World} {g:Nat} {t:TypeId} {x0 x1:Value} (h:w.rowIs g t 2 (Jn x0 x1)):(w.cell? (zH g 0)=some x0/\w.cell? (zH g 1)=some x1)/\(w.frozen? (zH g 0)=false/\w.frozen? (zH g 1)=false) :=
 ⟨⟨h.cell (i:=0) (by decide),h.cell (i:=1) (by decide)⟩,h.frozen 0,h.frozen 1⟩
theorem uO {w:World} {g:Nat} {t:TypeId} {x0 x1:Value} (h:w.rowIs g t 2 (Jn x0 x1)) (v:Value):(w.setCell (zH g 0) v).rowIs g t 2 (Jn v x1) :=
 (h.set 0 v).congr fun i hi=>by match i,hi with | 0,_=>rfl | 1,_=>rfl
structure Ord (A:Nat->Prop) (B bo n:Nat) (ps:List Nat) (vp vn:Value) (w:World):Prop where
 le:B<=bo
 box:w.rowIs bo 108 2 (Jn vp vn)
 p:yf B w vp (nums ps)
 n:yf B w vn (tabN n ps)
 pb:vp.ownBlock≠some bo
 nb:vn.ownBlock≠some bo
 pn:∀g,vp.ownBlock=some g->vn.ownBlock≠some g
 av:∀g,A g->g≠bo/\g<w.heap.size/\vp.ownBlock≠some g/\vn.ownBlock≠some g
structure Came (A:Nat->Prop) (B:Nat) (w w':World):Prop where
 b:Below B w w'
 a:∀g,A g->w'.heap[g]?=w.heap[g]?
theorem Came.refl (A:Nat->Prop) (B:Nat) (w:World):Came A B w w:=⟨zS,fun _ _=>rfl⟩
theorem Came.trans {A:Nat->Prop} {B:Nat} {a b c:World} (h:Came A B a b) (k:Came A B b c):Came A B a c :=
 ⟨h.b.trans k.b,fun g hg=>(k.a g hg).trans (h.a g hg)⟩
theorem Ord.alloc {A:Nat->Prop} {B bo n:Nat} {ps:List Nat} {vp vn:Value} {w:World} (h:Ord A B bo n ps vp vn w) (o:Obj):Ord A B bo n ps vp vn (w.alloc o) :=
 have hb:=zR w o
 ⟨h.le,yp hb h.box,h.p.below hb,h.n.below hb,h.pb,h.nb,h.pn,fun g hg=>⟨(h.av g hg).1,by have:=(h.av g hg).2.1;simp;omega,(h.av g hg).2.2⟩⟩
theorem Came.alloc {A:Nat->Prop} {B:Nat} {w w':World} (h:Came A B w w') (hb:B<=w'.heap.size) (hA:∀g,A g->g<w'.heap.size) (o:Obj):Came A B w (w'.alloc o) :=
 ⟨h.b.alloc hb o,fun g hg=>(Below.heap_alloc _ _ _ (hA g hg)).trans (h.a g hg)⟩
theorem zd6 {α β:Type} {f:α->β} {l:List α} {k:Nat} (h:k<l.length):(l.take k).map f ++ [f l[k]]=(l.take (k+1)).map f:=by
 rw[List.take_add_one,List.getElem?_eq_getElem h,List.map_append]
 rfl
theorem uu (v:Value) (xs:yH) (w:World) (h:yo w v xs) (hl:xs.length<=1000) :
 Calls Tryz.prog 46 #[v] w fun e w'=>∃v',e=.returned v'/\zk w.heap.size w' v' xs/\zO w w':=by
 obtain⟨a,c,rfl,hlm,hc⟩:=id h
 have hnil:∀(W:World) (a:Option Addr) (n c:Nat),(binOp .eql 32 (.slice a n c) (zQ)).run Tryz.prog W=.ok (.bool a.isNone) W:=fun W a n c=>Lib.run_eql_slice_nil W _ _ a n c 0 0 Tryz.underlying32
 cases a with
 | none =>
  have hx:xs=[]:=by
   cases xs with
   | nil=>rfl
   | cons y t=>obtain⟨b,o,e,_⟩:=hc 0 (by simp);cases e
  subst hx
  go_enter Tryz.func46,Tryz.ntmps46
  go_wp2
  go_ret
  exact⟨_,rfl,zk.nil _ _,zS⟩
 | some ad =>
  have N1:=zR w (.cells #[] 86)
  have mk:=zk.made (B:=w.heap.size) (w:=w) (e:=86) zD
  have h1:=h.below N1
  go_enter Tryz.func46,Tryz.ntmps46
  go_wp2_with (at_builtin;refine Za _ (by rfl) _ _ (by rfl) w.heap.size _ _ [] xs (by rfl) (by rfl) mk h1 (by simp;omega) N1.size ?_;intro v2 w2 yN qA yL;rw[List.nil_append] at yN)
  have B2:=N1.grown qA N1.size (fun q e=>(mk.lt q e).1)
  clear qA yL
  go_ret
  exact⟨_,rfl,yN,B2⟩
theorem zk.set1 {B:Nat} {w:World} {g off n cap:Nat} {xs:yH} (h:zk B w (zK g off n cap) xs) (i:Nat) (hi:i<xs.length) (y:Int) :
 zk B (w.setCell (zH g (off+i * 2+1)) (zI y)) (zK g off n cap) (xs.set i (xs[i].1,y)):=by
 obtain⟨⟨hc,hd⟩,_⟩:=h.cell hi
 rcases h with⟨h,_⟩ | ⟨g',off',cap',hv,hB,hg,hl,hm,hsp,hx⟩
 ·cases h
 ·cases hv
  refine .inr ⟨g,off,cap,by simp,hB,by simp[World.setCell];exact hg,by simpa using hl,hm,fun j hj=>?_,fun j hj=>?_⟩
  ·rw[World.frozen?_setCell]
   refine⟨?_,(hsp j hj).2⟩
   by_cases e:j=i * 2+1
   ·subst e;rw[show off+(i * 2+1)=off+i * 2+1 by omega,World.cell?_setCell_same _ _ _ hd];rfl
   ·rw[World.cell?_setCell_other _ _ _ _ (fun q=>by have:=congrArg Addr.off q;simp at this;omega)];exact(hsp j hj).1
  ·rw[List.length_set] at hj
   by_cases e:j=i
   ·subst e
    rw[List.getElem_set_self]
    refine⟨?_,World.cell?_setCell_same _ _ _ hd⟩
    rw[World.cell?_setCell_other _ _ _ _ (fun q=>by have:=congrArg Addr.off q;simp at this)];exact hc
   ·rw[List.getElem_set_ne (Ne.symm e),World.cell?_setCell_other _ _ _ _ (fun q=>by have:=congrArg Addr.off q;simp at this;omega),World.cell?_setCell_other _ _ _ _ (fun q=>by have:=congrArg Addr.off q;simp at this;omega)]
    exact hx j hj
theorem Ord.below {A:Nat->Prop} {B bo n:Nat} {ps:List Nat} {vp vn:Value} {w w':World} (h:Ord A B bo n ps vp vn w) (hb:zO w w'):Ord A B bo n ps vp vn w' :=
 ⟨h.le,yp hb h.box,h.p.below hb,h.n.below hb,h.pb,h.nb,h.pn,fun g hg=>⟨(h.av g hg).1,Nat.lt_of_lt_of_le (h.av g hg).2.1 hb.size,(h.av g hg).2.2⟩⟩
theorem Ord.set {A:Nat->Prop} {B bo n:Nat} {ps:List Nat} {vp vn:Value} {w:World} (h:Ord A B bo n ps vp vn w) {p:Addr} (u:Value) (h1:bo≠p.block) (h2:vp.ownBlock≠some p.block) (h3:vn.ownBlock≠some p.block):Ord A B bo n ps vp vn (w.setCell p u) :=
 ⟨h.le,h.box.of_block (Below.heap_setCell _ _ _ _ h1),h.p.set_other u h2,h.n.set_other u h3,h.pb,h.nb,h.pn,fun g hg=>⟨(h.av g hg).1,by simp[World.setCell];exact(h.av g hg).2.1,(h.av g hg).2.2⟩⟩
theorem QX (w:World) (t:TypeId) (x:Value):(w.alloc (.cells #[x] t)).rowIs w.heap.size t 1 (fun _=>x) :=
 ⟨_,Go.Deep.blk_alloc_new _ _,rfl,fun i hi=>by match i,hi with | 0,_=>rfl⟩
theorem zaj {h:Hp} {j:Nat} (hn:h.now=j) (c:Cl):setH h c={h with za:=h.za.set j c}:=by
 unfold setH
 rw[hn,Int.toNat_natCast]
theorem zaz (w:World) (a:Option Addr) (n cap k:Nat) (hk:k<=n):(Instr.slice 32 (.slice a n cap) (some (zI (k:Int))) none none).run Tryz.prog w=.ok (sliced a k n cap 2) w:=by
 have hs:∀w,(sizeOf (Tryz.prog.elem 32)).run Tryz.prog w=.ok 2 w:=fun w=>by kernel_rfl
 rw[run_slice_l w 32 a n cap (by kernel_rfl) .i64 k (by omega) (by omega)]
 simp[hs,Result.andThen]
theorem zez (w:World) (a:Option Addr) (n cap k:Nat) (hk:k<=cap):(Instr.slice 32 (.slice a n cap) none (some (zI (k:Int))) none).run Tryz.prog w=.ok (sliced a 0 k cap 2) w:=by
 have hs:∀w,(sizeOf (Tryz.prog.elem 32)).run Tryz.prog w=.ok 2 w:=fun w=>by kernel_rfl
 rw[run_slice_h w 32 a n cap (by kernel_rfl) .i64 k (by omega) (by omega)]
 simp[hs,Result.andThen]
theorem zk.piece {B:Nat} {w:World} {a:Option Addr} {n cap:Nat} {xs:yH} (h:zk B w (.slice a n cap) xs) {l k:Nat} (hl:l<=k) (hk:k<=xs.length):yo w (sliced a l k cap 2) ((xs.take k).drop l)/\k<=cap:=by
 rcases h with⟨h0,rfl⟩ | ⟨g,off,cp,hv,hB,hg,hlc,hc,hsp,hx⟩
 ·injection h0 with e1 e2 e3
  subst e1 e2 e3
  obtain rfl:k=0:=by simpa using hk
  obtain rfl:l=0:=by omega
  exact⟨⟨_,_,rfl,by simp,fun i hi=>absurd hi (by simp)⟩,Nat.le_refl _⟩
 ·injection hv with e1 e2 e3
  subst e1 e2 e3
  refine⟨?_,by omega⟩
  have hlen:((xs.take k).drop l).length=k - l:=by simp;omega
  by_cases e:l=cap
  ·have hkl:k - l=0:=by omega
   have hn:(xs.take k).drop l=[]:=List.eq_nil_of_length_eq_zero (by omega)
   rw[hn]
   unfold sliced
   exact⟨_,_,by rw[List.length_nil,<-hkl],by simp,fun i hi=>absurd hi (by simp)⟩
  ·unfold sliced
   refine⟨_,_,by rw[hlen],by rw[hlen];unfold maxLen at *;omega,fun i hi=>?_⟩
   rw[hlen] at hi
   have K3:l+i<xs.length:=by omega
   obtain⟨y0,y1⟩:=hx (l+i) K3
   refine⟨g,off+l * 2,?_,?_,?_⟩
   ·rw[if_neg (by omega)]
    simp[Addr.add]
   ·rw[show off+l * 2+i * 2=off+(l+i) * 2 by omega,y0]
    simp
   ·rw[show off+l * 2+i * 2+1=off+(l+i) * 2+1 by omega,y1]
    simp
theorem zk.cutTo {B:Nat} {w:World} {a:Option Addr} {n cap:Nat} {xs:yH} (h:zk B w (.slice a n cap) xs) {k:Nat} (hk:k<=xs.length):zk B w (.slice a k cap) (xs.take k):=by
 rcases h with⟨h0,rfl⟩ | ⟨g,off,cp,hv,hB,hg,hlc,hc,hsp,hx⟩
 ·injection h0 with e1 e2 e3
  subst e1 e2 e3
  obtain rfl:k=0:=by simpa using hk
  exact .inl ⟨rfl,by simp⟩
 ·injection hv with e1 e2 e3
  subst e1 e2 e3
  have hl:(xs.take k).length=k:=by simp;omega
  refine .inr ⟨g,off,cap,by rw[hl],hB,hg,by omega,hc,hsp,fun i hi=>?_⟩
  have hi':i<xs.length:=by omega
  rw[List.getElem_take]
  exact hx i hi'
theorem Zi {ms:Ms} (hp:yr ms=true) (kk a:Int):(0<=(yv ms kk a).1/\(yv ms kk a).1<=2)/\0<=(yv ms kk a).2/\(yv ms kk a).2<=1:=by
 unfold yv
 split
 ·split
  ·rename_i q
   rw[zF] at q
   have hq:a.toNat<ms.length:=by omega
   rw[yn hq]
   have:=(jR hp hq).args
   simp only[]
   omega
  ·decide
 ·simp only[]
  unfold tk lv
  refine⟨?_,?_⟩
  ·split
   ·decide
   ·split <;> decide
  ·split <;> decide
theorem KP {ms:Ms} {h:Hp} {j m pc:Nat} (hn:h.now=j) (hj:j<h.za.length) (hm:h.za[j].m=m) (hpc:h.za[j].pc=pc) (wX:m<ms.length) (hl:ms[m].2.2.length<=pc):qH ms h={h with code:=2}:=by
 unfold qH
 simp only[xO hn hj,hm,hpc,Int.toNat_natCast,yn wX]
 rw[if_pos (by omega)]
 rfl
theorem VX {ms:Ms} {h:Hp} {j m pc:Nat} (hj:j<h.za.length) (hm:h.za[j].m=m) (hpc:h.za[j].pc=pc) (wX:m<ms.length) (hpl:pc<ms[m].2.2.length):qV ms h.za[j]=ms[m].2.2[pc]:=by
 unfold qV
 rw[hm,hpc,Int.toNat_natCast,Int.toNat_natCast,yn wX,yn hpl]
theorem Xj {ms:Ms} {h:Hp} {j m pc:Nat} (hn:h.now=j) (hj:j<h.za.length) (hm:h.za[j].m=m) (hpc:h.za[j].pc=pc) (wX:m<ms.length) (hpl:pc<ms[m].2.2.length) {kk a t l:Int} (ho:ms[m].2.2[pc]=(kk,a)) (ht:yv ms kk a=(t,l)) :
 qH ms h=if(h.za[j].zf.length:Int) - t<0\/6<(h.za[j].zf.length:Int) - t+l then {h with code:=2}
  else if qK kk (h.za[j].zf.drop ((h.za[j].zf.length:Int) - t).toNat)=false then {h with code:=2}
  else doH ms {h with za:=h.za.set j {h.za[j] with zf:=h.za[j].zf.take ((h.za[j].zf.length:Int) - t).toNat,pc:=(pc:Int)+1}} kk a (h.za[j].zf.drop ((h.za[j].zf.length:Int) - t).toNat):=by
 unfold qH
 simp only[xO hn hj,VX hj hm hpc wX hpl,ho,ht]
 rw[hm,Int.toNat_natCast,yn wX,if_neg (by rw[hpc];omega),zaj hn,hpc]
 rfl
theorem Wq {ms:Ms} {h:Hp} {j m pc:Nat} (hg:Good ms h) (hc:h.code=0) (hn:h.now=j) (hj:j<h.za.length) (hm:h.za[j].m=m) (hpc:h.za[j].pc=pc) (wX:m<ms.length) (hpl:pc<ms[m].2.2.length) {kk a t l:Int} (ho:ms[m].2.2[pc]=(kk,a)) (ht:yv ms kk a=(t,l))
 (h2:¬((h.za[j].zf.length:Int) - t<0\/6<(h.za[j].zf.length:Int) - t+l)) (h3:qK kk (h.za[j].zf.drop ((h.za[j].zf.length:Int) - t).toNat)=true) :
 jX ms {h with za:=h.za.set j {h.za[j] with zf:=h.za[j].zf.take ((h.za[j].zf.length:Int) - t).toNat,pc:=(pc:Int)+1}} j kk a (h.za[j].zf.drop ((h.za[j].zf.length:Int) - t).toNat):=by
 have h1:¬((ms.getD (yJ h).m.toNat (0,0,[])).2.2.length:Int)<=(yJ h).pc:=by
  rw[xO hn hj,hm,Int.toNat_natCast,yn wX,hpc]
  omega
 have e:qV ms (yJ h)=(kk,a):=by rw[xO hn hj,VX hj hm hpc wX hpl,ho]
 obtain⟨j',d⟩:=hg.doing hc h1 (by rw[e];simp only[];rw[ht,xO hn hj];exact h2) (by rw[e];simp only[];rw[ht,xO hn hj];exact h3)
 rw[e] at d
 simp only[] at d
 rw[ht,xO hn hj,zaj hn,hpc] at d
 have hjj:j'=j:=by have:=d.now;simp only[] at this;omega
 subst hjj
 exact d
def qX (L:yF) (i:Nat) (f:ki) (b:jg):yF :=
 {L with zd:=L.zd.set i ⟨(L.zd.getD i ⟨-1,[]⟩).base,(L.zd.getD i ⟨-1,[]⟩).zh.dropLast⟩,ze:=if f.twin=-1 then L.ze else L.ze.set f.twin.toNat ⟨-1,0,f.body,-1⟩,zj:=L.zj.set f.body {b with zf:=[],zv:=true}}
theorem jB.pop {L:yF} {h:Hp} (s:jB 0 0 L h) {i:Nat} (hi:i<L.zd.length) {f:ki} {b:jg} {c:Cl} (qF:L.zd[i].zh.getLast?=some f) (hb:L.zj[f.body]?=some b) (hc:h.za[f.body]?=some c) (now born code:Int) (zm:yH) :
 jB 0 0 (qX L i f b) ⟨h.za.set f.body (um c),now,born,zm,code⟩:=by
 have hg:L.zd.getD i ⟨-1,[]⟩=L.zd[i]:=by simp[hi]
 obtain⟨m,hm⟩:∃m,L.zd[i].zh.length=m+1:=by
  cases e:L.zd[i].zh with
  | nil=>rw[e] at qF;cases qF
  | cons x l=>exact⟨l.length,rfl⟩
 have hlast:L.fr i m=some f:=by
  unfold yF.fr
  rw[List.getElem?_eq_getElem hi]
  show L.zd[i].zh[m]?=some f
  rw[List.getLast?_eq_getElem?,hm] at qF
  exact qF
 have hfr:∀i' k,(qX L i f b).fr i' k=if i'=i/\k=m then none else L.fr i' k:=fun i' k=>by
  unfold qX
  rw[hg]
  have:=vH (L:=L) (p:=⟨L.zd[i].base,L.zd[i].zh.dropLast⟩) hi i' k
  refine Eq.trans ?_ (this.trans ?_)
  ·rfl
  ·by_cases e:i'=i
   ·subst e
    rw[if_pos rfl]
    unfold yF.fr
    rw[List.getElem?_eq_getElem hi]
    show L.zd[i'].zh.dropLast[k]?=_
    rw[List.dropLast_eq_take]
    by_cases e2:k=m
    ·refine Eq.trans (List.getElem?_eq_none (by rw[List.length_take];omega)) ?_
     rw[if_pos (show i'=i'/\k=m from ⟨rfl,e2⟩)]
    ·rw[if_neg (show ¬(i'=i'/\k=m) from fun x=>e2 x.2)]
     by_cases e3:k<L.zd[i'].zh.length - 1
     ·exact List.getElem?_take_of_lt e3
     ·exact(List.getElem?_eq_none (by rw[List.length_take];omega)).trans (List.getElem?_eq_none (by omega)).symm
   ·rw[if_neg e,if_neg (fun x=>e x.1)]
 have fo:∀i' k g,(qX L i f b).fr i' k=some g->L.fr i' k=some g/\¬(i'=i/\k=m):=fun i' k g hg'=>by
  rw[hfr] at hg'
  by_cases e:i'=i/\k=m
  ·rw[if_pos e] at hg';cases hg'
  ·rw[if_neg e] at hg';exact⟨hg',e⟩
 have bn:∀i' k g,(qX L i f b).fr i' k=some g->g.body≠f.body:=fun i' k g hg' e=>(fo i' k g hg').2 (s.fi i' k g i m f (fo i' k g hg').1 (yP _ _) hlast (yP _ _) e)
 have hbase:∀i':Nat,((qX L i f b).zd[i']?).map (fun p:wh=>p.base)=(L.zd[i']?).map (fun p:wh=>p.base):=fun i'=>by
  show((L.zd.set i _)[i']?).map _=_
  by_cases e:i=i'
  ·subst e
   rw[List.getElem?_set_self hi,List.getElem?_eq_getElem hi,hg]
   rfl
  ·rw[List.getElem?_set_ne e]
 -- its twin
 have tw:∀(q:Nat) (t:kN),(qX L i f b).ze[q]?=some t->(L.ze[q]?=some t/\f.twin≠(q:Int))\/(f.twin=(q:Int)/\t=⟨-1,0,f.body,-1⟩/\∃sx,L.ze[q]?=some ⟨(i:Int),(m:Int),f.body,sx⟩):=fun q t h1=>by
  have h1':(if f.twin=-1 then L.ze else L.ze.set f.twin.toNat ⟨-1,0,f.body,-1⟩)[q]?=some t:=h1
  rcases(s.fb i m f hlast (yP _ _)).2 with e | ⟨j,sx,e1,e2⟩
  ·rw[if_pos e] at h1'
   exact .inl ⟨h1',by omega⟩
  ·rw[if_neg (by omega),e1,Int.toNat_natCast] at h1'
   rcases jv h1' with⟨rfl,rfl,_⟩ | ⟨hq,h2⟩
   ·exact .inr ⟨e1,rfl,sx,e2⟩
   ·exact .inl ⟨h2,by omega⟩
 have hE:qo L.ze (qX L i f b).ze:=by
  show qo L.ze (if f.twin=-1 then L.ze else L.ze.set f.twin.toNat ⟨-1,0,f.body,-1⟩)
  rcases(s.fb i m f hlast (yP _ _)).2 with e | ⟨j,sx,e1,e2⟩
  ·rw[if_pos e];exact qo.refl _
  ·rw[if_neg (by omega),e1,Int.toNat_natCast]
   exact qo.set _ _ _ _ e2 rfl
 have hl:(qX L i f b).ze.length=L.ze.length:=by
  show(if f.twin=-1 then L.ze else L.ze.set f.twin.toNat ⟨-1,0,f.body,-1⟩).length=_
  split <;> simp
 have tb:∀(q:Nat) (t:kN),(qX L i f b).ze[q]?=some t->∃t',L.ze[q]?=some t'/\t'.body=t.body:=fun q t h1=>by
  rcases tw q t h1 with⟨h2,_⟩ | ⟨_,rfl,sx,h2⟩
  ·exact⟨t,h2,rfl⟩
  ·exact⟨_,h2,rfl⟩
 have hbl:(qX L i f b).zj.length=L.zj.length:=List.length_set
 have hbel:∀i' k g,(qX L i f b).fr i' k=some g->qx (qX L i f b) i' k=qx L i' k:=fun i' k g hg'=>jW (L:=L) (L':=qX L i f b) hE s.ba (fun _=>hbase i') fun q e=>by
  rw[hfr,if_neg]
  rintro⟨rfl,rfl⟩
  obtain⟨_,hk,_⟩:=yF.fr_some (fo i' k g hg').1
  omega
 have other:∀(k:Nat) (x:Cl),k≠f.body->(h.za.set f.body (um c))[k]?=some x->h.za[k]?=some x:=fun k x hk hx=>by
  rcases jv hx with⟨e,_⟩ | ⟨_,h2⟩
  ·exact absurd e hk
  ·exact h2
 refine⟨fun i' k g hg' P=>?_,fun q t h1=>?_,fun a d g a' d' g' h1 P1 h2 P2 e=>s.fi a d g a' d' g' (fo _ _ _ h1).1 P1 (fo _ _ _ h2).1 P2 e,fun q t q' t' h1 h2 e=>?_,fun a d g q t hg' P h1 hx=>?_,fun i' p hp=>?_,fun q t h1 hx=>?_,fun a d g y hg' P hy=>?_,?_,fun q y hy=>?_,fun a d g y hg' P hy=>?_,fun q t y h1 hx hy=>?_⟩
 ·obtain⟨h1,h2⟩:=fo i' k g hg'
  rw[hbl]
  refine⟨(s.fb i' k g h1 P).1,(s.fb i' k g h1 P).2.imp id fun⟨q,sx,e1,e2⟩=>⟨q,sx,e1,?_⟩⟩
  show(if f.twin=-1 then L.ze else L.ze.set f.twin.toNat ⟨-1,0,f.body,-1⟩)[q]?=_
  split
  ·exact e2
  ·rename_i hft
   rw[List.getElem?_set_ne]
   ·exact e2
   ·intro e3
    rcases(s.fb i m f hlast (yP _ _)).2 with e | ⟨j,sx',q1,q2⟩
    ·exact hft e
    ·rw[q1,Int.toNat_natCast] at e3
     subst e3
     rw[e2] at q2
     injection q2 with q2
     injection q2 with q3 q4
     exact h2 ⟨by omega,by omega⟩
 ·rw[hbl]
  rcases tw q t h1 with⟨h2,hq⟩ | ⟨_,rfl,sx,h2⟩
  ·refine⟨(s.tb q t h2).1,(s.tb q t h2).2.imp id fun⟨a,d,g,e1,e2,e3,e4⟩=>⟨a,d,g,?_,e2,e3,e4⟩⟩
   rw[hfr,if_neg]
   ·exact e1
   ·rintro⟨rfl,rfl⟩
    rw[hlast] at e1
    cases e1
    exact hq e3
  ·exact⟨(s.tb q _ h2).1,.inl rfl⟩
 ·obtain⟨t1,a1,b1⟩:=tb q t h1
  obtain⟨t2,a2,b2⟩:=tb q' t' h2
  exact s.ti q t1 q' t2 a1 a2 (by rw[b1,b2];exact e)
 ·rcases tw q t h1 with⟨h2,hq⟩ | ⟨_,rfl,sx,h2⟩
  ·exact s.tf a d g q t (fo _ _ _ hg').1 P h2 hx
  ·exact fun e=>bn a d g hg' e.symm
 ·rw[hl]
  have:=hbase i'
  rw[hp] at this
  cases hq:L.zd[i']? with
  | none=>rw[hq] at this;cases this
  | some p' =>
   rw[hq] at this
   have e:p.base=p'.base:=by injection this
   rw[e]
   exact s.ba i' p' hq
 ·rw[hl]
  rcases tw q t h1 with⟨h2,hq⟩ | ⟨_,rfl,sx,h2⟩
  ·exact s.se q t h2 hx
  ·exact .inl rfl
 ·rcases jv hy with⟨e,_⟩ | ⟨_,h2⟩
  ·exact absurd e (bn a d g hg')
  ·exact s.al a d g y (fo _ _ _ hg').1 P h2
 ·rw[hbl];exact List.length_set.trans s.n
 ·have hck:f.body<h.za.length:=(List.getElem?_eq_some_iff.1 hc).1
  rcases jv hy with⟨rfl,rfl,_⟩ | ⟨hq,h2⟩
  ·refine⟨um c,List.getElem?_set_self hck,?_⟩
   obtain⟨c',e1,e2⟩:=s.c _ b hb
   rw[hc] at e1
   cases e1
   have e3:=e2.ext hE
   exact⟨e3.m,e3.pc,rfl,e3.zg,rfl,e3.vt,fun v hv=>by cases hv⟩
  ·obtain⟨x,e1,e2⟩:=s.c q y h2
   exact⟨x,by rw[List.getElem?_set_ne (fun e=>hq e.symm)];exact e1,e2.ext hE⟩
 ·rw[hbel a d g hg']
  exact s.fs a d g y (fo _ _ _ hg').1 P (other _ _ (bn a d g hg') hy)
 ·rcases tw q t h1 with⟨h2,hq⟩ | ⟨_,rfl,sx,h2⟩
  ·rw[wd hE (s.se q t h2 hx)]
   by_cases e:t.body=f.body
   ·exact absurd e (s.tf i m f q t hlast (yP _ _) h2 hx)
   ·exact s.ts q t y h2 hx (other _ _ e hy)
  ·rcases jv hy with⟨_,rfl,_⟩ | ⟨e,_⟩
   ·rfl
   ·exact absurd rfl e
theorem zbS {cs:List Cl} {f f':Nat} {a:Int} {l l':List Nat} (h:qz cs f a=some l) (h':qz cs f' a=some l'):l=l':=by
 have h1:=Z0 l f (l.length+l'.length) a h (by omega)
 have h2:=Z0 l' f' (l.length+l'.length) a h' (by omega)
 rw[h1] at h2
 exact Option.some.inj h2
theorem Xn {cs:List Cl}:∀(l:List Nat) (f:Nat) (a:Int) (k:Nat),qz cs f a=some l->k∈l->∃(hk:k<cs.length) (f':Nat) (t:List Nat),qz cs f' cs[k].zi=some t/\t.length<l.length
 | [],_,_,_,_,hk=>by cases hk
 | x :: l,f,a,k,h,hk=>by
  by_cases ha:a<0
  ·rw[qn ha] at h;cases h
  ·obtain⟨g,n,hn,t,rfl,rfl,e,hd,ht⟩:=qS h (by omega)
   cases e
   rcases List.mem_cons.1 hk with rfl | hk
   ·exact⟨hn,g,_,ht,by simp⟩
   ·obtain⟨h1,f',t',h2,h3⟩:=Xn l g _ k ht hk
    exact⟨h1,f',t',h2,by simp;omega⟩
theorem qG.noCaller {cs:List Cl} {now:Int} {l:List Nat} (h:qG cs now l) {k:Nat} (hk:k<cs.length) (hd:cs[k].zv=false):0<=now->cs[k].zi≠now:=fun h0 e=>by
 obtain⟨f,hf⟩:=h.ch
 obtain⟨_,f',t,h1,h2⟩:=Xn l f now k hf (h.all k hk hd)
 rw[e] at h1
 rw[zbS hf h1] at h2
 omega
theorem Wt:∀(l A:List Int),l.Nodup->(∀k∈l,k∈A)->l.length<=A.length
 | [],_,_,_=>Nat.zero_le _
 | x :: l,A,hn,hA=>by
  have hx:x∈A:=hA x (List.mem_cons_self ..)
  obtain⟨Z5,Km⟩:=List.nodup_cons.1 hn
  have:=Wt l (A.erase x) Km fun k hk=>(List.mem_erase_of_ne (show k≠x from fun e=>Z5 (by rw[<-e];exact hk))).2 (hA k (List.mem_cons_of_mem _ hk))
  rw[List.length_erase_of_mem hx] at this
  have h0:0<A.length:=List.length_pos_of_mem hx
  simp only[List.length_cons]
  omega
theorem zek {m:Mc} (h:kh m=true) {x:Int} (hx:x∈m.order):0<=x/\x<(m.zd.length:Int):=by
 unfold kh at h
 rw[Bool.and_eq_true_iff] at h
 have hl:m.order.length=m.zd.length:=by simpa using h.1
 have ha:=List.all_eq_true.1 h.2
 by_cases hr:0<=x/\x<(m.zd.length:Int)
 ·exact hr
 ·exfalso
  have hnd:((List.range m.zd.length).map fun i:Nat=>(i:Int)).Nodup:=by
   refine List.Pairwise.map _ (fun a b hab e=>hab (by omega)) List.nodup_range
  have hmem:∀k∈(List.range m.zd.length).map fun i:Nat=>(i:Int),k∈m.order:=fun k hk=>by
   obtain⟨i,hi,rfl⟩:=List.mem_map.1 hk
   simpa using ha i hi
  have hnx:x∉(List.range m.zd.length).map fun i:Nat=>(i:Int):=fun hk=>by
   obtain⟨i,hi,rfl⟩:=List.mem_map.1 hk
   exact hr ⟨by omega,by have:=List.mem_range.1 hi;omega⟩
  have:=Wt (x :: (List.range m.zd.length).map fun i:Nat=>(i:Int)) m.order (List.nodup_cons.2 ⟨hnx,hnd⟩) (fun k hk=>by
   rcases List.mem_cons.1 hk with rfl | hk
   ·exact hx
   ·exact hmem k hk)
  simp at this
  omega
theorem YN {B:Nat} {w0 w:World} (h:Below B w0 w) (n:Nat):Below B w0 (w.drewN n):=⟨h.os,h.tape,h.output,h.size,h.block⟩
def Pg.none:Pg:=⟨-1,[]⟩
def pgAt (m:Mc) (i:Int):Pg:=m.zd.getD i.toNat Pg.none
theorem kX {m:Mc} {k:Nat} (h:k<m.zd.length):pgAt m (k:Int)=m.zd[k]:=by simp[pgAt,h]
def JF (m:Mc):Bool:=m.now == -1 || (m.now == m.order.getD (m.order.length - 1) 0 && decide (0<(pgAt m m.now).zh.length))
theorem zcU (vp vo vt vs:Value) (m:Mc) (w:World) (h:ql w vp vo vt vs m) (ho:kh m=true) (UD:1<=m.zd.length) :
 Calls Tryz.prog 60 #[.agg (zE vp vo vt vs m).toArray] w fun e w'=>e=.returned (.bool (JF m))/\zO w w':=by
 have HLEQ:Hid (m.order.length=m.zd.length):=by show _=_;unfold kh at ho;rw[Bool.and_eq_true_iff] at ho;simpa using ho.1
 have HIN:Hid (∀x∈m.order,0<=x/\x<(m.zd.length:Int)):=fun x hx=>zek ho hx
 clear ho
 obtain⟨ap,cp,qI,hlp,hcp⟩:=id h.p
 obtain⟨ao,co,j5,hlo,hco⟩:=id h.o
 obtain⟨at',ct,jz,hlt',hct⟩:=id h.t
 obtain⟨as',cs,km⟩:=h.s.shape
 subst qI j5 jz km
 unfold zE
 unfold maxLen at hlp hlo
 go_enter Tryz.func60,Tryz.ntmps60
 go_upto_region 1 with fail
 refine ym (fun W=>zO w W/\Bx W w.heap.size 34 [.int .i64 m.cells,.slice ap m.zd.length cp,.slice ao m.order.length co,.int .i64 m.now,.slice at' m.ze.length ct,.int .i64 m.born,.slice as' m.zm.length cs,.int .i64 m.code]) ⟨zR _ _,Bx.new w _ _⟩ ?_
 rintro W ⟨hb,hm⟩
 obtain⟨⟨m0,m1,m2,m3,m4,m5,m6,m7⟩,_⟩:=uk hm
 by_cases uZ:m.now=-1
 ·have HE:Hid (JF m=true):=by show _=_;unfold JF;rw[uZ];rfl
  rw[uZ] at m3
  go_wp2
  go_ret
  exact⟨zo HE.out.symm,hb⟩
 have qF:(m.now == -1)=false:=by simpa using uZ
 obtain⟨q,hq⟩:∃q,m.order.length=q+1:=⟨m.order.length - 1,by have:=HLEQ.out;omega⟩
 have hql:q<m.order.length:=by omega
 obtain⟨b,o,hao,c0⟩:=hco q hql
 subst hao
 have d0:=zc hb c0
 have HL:Hid (m.order.getD (m.order.length - 1) 0=m.order[q]):=by show _=_;rw[hq];simp[hql]
 have hrng:=HIN.out _ (List.getElem_mem hql)
 obtain⟨last,hla⟩:∃l,m.order[q]=l:=⟨_,rfl⟩
 rw[hla] at HL d0 hrng
 have hq1:((m.order.length:Int)) - 1=(q:Int):=by omega
 have hqz:(q:Int)<(m.order.length:Int):=by omega
 have hwq:IntKind.i64.wrap ((m.order.length:Int) - 1)=(q:Int):=by rw[IntKind.wrap_i64];omega
 have hbl:b<w.heap.size:=World.block_lt_of_cell? _ _ c0
 clear hla c0 hco hq hq1
 obtain⟨k,hk⟩:=Int.eq_ofNat_of_zero_le hrng.1
 subst hk
 have hkl:k<m.zd.length:=by omega
 obtain⟨b2,o2,vf,hap,xE⟩:=hcp k hkl
 subst hap
 obtain⟨af,cf,Q9⟩:=xE.f.shape
 have e1:=zc hb xE.c1
 rw[Q9] at e1
 obtain⟨nf,hnf⟩:∃nf,m.zd[k].zh.length=nf:=⟨_,rfl⟩
 have HPG:Hid ((pgAt m (k:Int)).zh.length=nf):=by show _=_;rw[kX hkl,hnf]
 rw[hnf] at e1
 clear hnf xE hcp Q9
 have uW:(k:Int)<(m.zd.length:Int):=by omega
 by_cases hnl:m.now=(k:Int)
 ·have HE:Hid (JF m=decide (0<nf)):=by show _=_;unfold JF;rw[qF,HL.out,hnl,HPG.out];simp
  rw[hnl] at m3 qF
  go_wp2_with fail
  go_quiet (fail)
  go_wp2
  go_ret
  exact⟨zo HE.out.symm,YN hb _⟩
 ·have HE:Hid (JF m=false):=by show _=_;unfold JF;rw[qF,HL.out];simp[hnl]
  have hnl2:(m.now == (k:Int))=false:=by simpa using hnl
  go_wp2_with fail
  go_quiet (fail)
  go_wp2
  go_ret
  exact⟨zo HE.out.symm,YN hb _⟩
def frB (m:Mc) (i k:Int):Bool:=qC i 0 ((m.zd.length:Int) - 1) && qC k 0 (((pgAt m i).zh.length:Int) - 1)
theorem zcb {m:Mc} {i:Int} (h:qC i 0 ((m.zd.length:Int) - 1)=true):∃k:Nat,i=(k:Int)/\k<m.zd.length:=by
 have:=zF.1 h
 obtain⟨k,rfl⟩:=Int.eq_ofNat_of_zero_le this.1
 exact⟨k,rfl,by omega⟩
theorem WK (vp vo vt vs:Value) (m:Mc) (i k:Int) (w:World) (h:ql w vp vo vt vs m) :
 Calls Tryz.prog 110 #[.agg (zE vp vo vt vs m).toArray,zI i,zI k] w fun e w'=>e=.returned (.bool (frB m i k))/\zO w w':=by
 obtain⟨ap,cp,qI,hlp,hcp⟩:=id h.p
 obtain⟨ao,co,j5,hlo,hco⟩:=id h.o
 obtain⟨at',ct,jz,hlt',hct⟩:=id h.t
 obtain⟨as',cs,km⟩:=h.s.shape
 subst qI j5 jz km
 unfold zE
 go_enter Tryz.func110,Tryz.ntmps110
 go_upto_region 1 with fail
 refine ym (fun W=>zO w W/\Bx W w.heap.size 34 [.int .i64 m.cells,.slice ap m.zd.length cp,.slice ao m.order.length co,.int .i64 m.now,.slice at' m.ze.length ct,.int .i64 m.born,.slice as' m.zm.length cs,.int .i64 m.code]) ⟨zR _ _,Bx.new w _ _⟩ ?_
 rintro W ⟨hb,hm⟩
 obtain⟨⟨m0,m1,m2,m3,m4,m5,m6,m7⟩,_⟩:=uk hm
 obtain⟨f,hf⟩:∃f,qC i 0 ((m.zd.length:Int) - 1)=f:=⟨_,rfl⟩
 have HP:=yc i m.zd.length W
 rw[hf] at HP
 go_wp2_with fail
 refine HP.mono ?_
 rintro e W1 ⟨rfl,hw⟩
 obtain rfl:=hw.symm
 clear hw HP
 cases f
 ·have HE:Hid (frB m i k=false):=by show _=_;unfold frB;rw[hf];rfl
  go_wp2
  go_ret
  exact⟨zo HE.out.symm,hb⟩
 obtain⟨j,rfl,hj⟩:=zcb hf
 obtain⟨b2,o2,vf,hap,xE⟩:=hcp j hj
 subst hap
 obtain⟨af,cf,Q9⟩:=xE.f.shape
 have e1:=zc hb xE.c1
 rw[Q9] at e1
 have hjz:(j:Int)<(m.zd.length:Int):=by omega
 have HE:Hid (frB m (j:Int) k=qC k 0 ((m.zd[j].zh.length:Int) - 1)):=by show _=_;unfold frB;rw[hf,kX hj];rfl
 clear hf hcp xE Q9
 go_wp2_with fail
 refine(yc _ _ _).mono ?_
 rintro e W1 ⟨rfl,hw⟩
 obtain rfl:=hw.symm
 clear hw
 go_wp2
 go_ret
 exact⟨zo HE.out.symm,hb⟩
def kx (c:Cl):Bool:=c.m == 0 && c.pc == 0 && decide (c.zg.length=0) && decide (c.zf.length=0) && c.zi == 0 && !c.zv
theorem JC (c:Cl) (vt vs:Value) (w:World) (ht:yo w vt c.zg) (hs:yo w vs c.zf) :
 Calls Tryz.prog 111 #[.agg #[zI c.m,zI c.pc,vt,vs,zI c.zi,.bool c.zv]] w fun e w'=>e=.returned (.bool (kx c))/\zO w w':=by
 obtain⟨a1,c1,e1,hl1,_⟩:=ht
 obtain⟨a2,c2,e2,hl2,_⟩:=hs
 subst e1 e2
 have hB:∀o,zO w (w.alloc o):=fun o=>zR _ _
 go_enter Tryz.func111,Tryz.ntmps111
 by_cases h0:c.m=0
 case neg =>
  have HE:Hid (kx c=false):=by show _=_;unfold kx;simp[h0]
  have e:(c.m == 0)=false:=by simpa using h0
  go_wp2
  go_ret
  exact⟨zo HE.out.symm,hB _⟩
 by_cases h1:c.pc=0
 case neg =>
  have HE:Hid (kx c=false):=by show _=_;unfold kx;simp[h1]
  have e:(c.pc == 0)=false:=by simpa using h1
  go_wp2
  go_ret
  exact⟨zo HE.out.symm,hB _⟩
 by_cases h2:c.zg.length=0
 case neg =>
  have HE:Hid (kx c=false):=by show _=_;unfold kx;simp[h2]
  go_wp2
  go_ret
  exact⟨zo HE.out.symm,hB _⟩
 by_cases h3:c.zf.length=0
 case neg =>
  have HE:Hid (kx c=false):=by show _=_;unfold kx;simp[h3]
  go_wp2
  go_ret
  exact⟨zo HE.out.symm,hB _⟩
 by_cases h4:c.zi=0
 case neg =>
  have HE:Hid (kx c=false):=by show _=_;unfold kx;simp[h4]
  have e:(c.zi == 0)=false:=by simpa using h4
  go_wp2
  go_ret
  exact⟨zo HE.out.symm,hB _⟩
 have HE:Hid (kx c=!c.zv):=by show _=_;unfold kx;simp[h0,h1,h2,h3,h4]
 go_wp2
 go_ret
 exact⟨zo HE.out.symm,hB _⟩
def Tw.none:Tw:=⟨-1,0,⟨0,0,[],[],0,false⟩⟩
def uR (m:Mc) (i:Int):Tw:=m.ze.getD i.toNat Tw.none
theorem Zl {m:Mc} {k:Nat} (h:k<m.ze.length):uR m (k:Int)=m.ze[k]:=by simp[uR,h]
theorem zch {m:Mc} {i:Int} (h:qC i 0 ((m.ze.length:Int) - 1)=true):∃k:Nat,i=(k:Int)/\k<m.ze.length:=by
 have:=zF.1 h
 obtain⟨k,rfl⟩:=Int.eq_ofNat_of_zero_le this.1
 exact⟨k,rfl,by omega⟩
def vY (m:Mc) (p:Pg):Bool :=
 p.base == -1 || (decide (p.zh.length≠0) && qC p.base 0 ((m.ze.length:Int) - 1) && ((uR m p.base).page == -1 || (qC (uR m p.base).page 0 ((m.zd.length:Int) - 1) && (uR m p.base).place == ((pgAt m (uR m p.base).page).zh.length:Int) - 1)))
theorem zaK (vp vo vt vs:Value) (m:Mc) (p:Pg) (af:Option Addr) (cf:Nat) (w:World) (h:ql w vp vo vt vs m) (hsm:∀i,(hi:i<m.zd.length)->m.zd[i].zh.length<=1099511627776) :
 Calls Tryz.prog 109 #[.agg (zE vp vo vt vs m).toArray,.agg #[zI p.base,.slice af p.zh.length cf]] w fun e w'=>e=.returned (.bool (vY m p))/\zO w w':=by
 obtain⟨ap,cp,qI,hlp,hcp⟩:=id h.p
 obtain⟨ao,co,j5,hlo,hco⟩:=id h.o
 obtain⟨at',ct,jz,hlt',hct⟩:=id h.t
 obtain⟨as',cs,km⟩:=h.s.shape
 subst qI j5 jz km
 unfold zE
 have HSM:Hid (∀i,(hi:i<m.zd.length)->m.zd[i].zh.length<=1099511627776):=hsm
 clear hsm
 go_enter Tryz.func109,Tryz.ntmps109
 go_upto_region 1 with fail
 refine ym (fun W=>zO w W/\Bx W w.heap.size 34 [.int .i64 m.cells,.slice ap m.zd.length cp,.slice ao m.order.length co,.int .i64 m.now,.slice at' m.ze.length ct,.int .i64 m.born,.slice as' m.zm.length cs,.int .i64 m.code]/\Bx W (w.heap.size+1) 78 [.int .i64 p.base,.slice af p.zh.length cf]) ⟨(zR _ _).alloc (by simp) _,(Bx.new w _ _).alloc _,Bx.newAt _ _ _ (by simp)⟩ ?_
 rintro W ⟨hb,hm,hx⟩
 obtain⟨⟨m0,m1,m2,m3,m4,m5,m6,m7⟩,_⟩:=uk hm
 have x0:=hx.cell 0 rfl
 have x1:=hx.cell 1 rfl
 by_cases qa:p.base=-1
 ·have HE:Hid (vY m p=true):=by show _=_;unfold vY;rw[qa];rfl
  rw[qa] at x0
  go_wp2
  go_ret
  exact⟨zo HE.out.symm,hb⟩
 have hbe:(p.base == -1)=false:=by simpa using qa
 by_cases hf0:p.zh.length=0
 ·have HE:Hid (vY m p=false):=by show _=_;unfold vY;rw[hbe,hf0];rfl
  rw[hf0] at x1
  go_wp2
  go_ret
  exact⟨zo HE.out.symm,hb⟩
 have hfz:¬((p.zh.length:Int)=0):=by omega
 obtain⟨f,hf⟩:∃f,qC p.base 0 ((m.ze.length:Int) - 1)=f:=⟨_,rfl⟩
 have HP:=yc p.base m.ze.length W
 rw[hf] at HP
 go_wp2_with fail
 refine HP.mono ?_
 rintro e W1 ⟨rfl,hw⟩
 obtain rfl:=hw.symm
 clear hw HP
 cases f
 ·have HE:Hid (vY m p=false):=by show _=_;unfold vY;rw[hbe,hf];simp
  go_wp2
  go_ret
  exact⟨zo HE.out.symm,hb⟩
 obtain⟨j,hj,hjl⟩:=zch hf
 have HB0:Hid (vY m p=((uR m p.base).page == -1 || (qC (uR m p.base).page 0 ((m.zd.length:Int) - 1) && (uR m p.base).place == ((pgAt m (uR m p.base).page).zh.length:Int) - 1))):=by show _=_;unfold vY;rw[hbe,hf];simp[hf0]
 rw[hj] at x0 HB0 hbe
 rw[Zl hjl] at HB0
 obtain⟨b,o,vt,vs,hat,YY⟩:=hct j hjl
 subst hat
 obtain⟨d0,d1,d2,d3,d4,d5,d6,d7,dt,ds⟩:=YY.below hb
 obtain⟨a1,k1,e1⟩:=dt.shape
 obtain⟨a2,k2,e2⟩:=ds.shape
 rw[e1] at d4
 rw[e2] at d5
 have hjz:(j:Int)<(m.ze.length:Int):=by omega
 have zb:=hb.size
 have lm:=hm.lt
 clear hf hct YY dt ds e1 e2 hj qa
 obtain⟨T,hT⟩:∃T,m.ze[j]=T:=⟨_,rfl⟩
 rw[hT] at d0 d1 d2 d3 d4 d5 d6 d7 HB0
 clear hT
 go_upto_region 6 with fail
 refine ym (fun W'=>zO W W'/\Bx W' W.heap.size 124 [.int .i64 T.page,.int .i64 T.place,.int .i64 T.left.m,.int .i64 T.left.pc,.slice a1 T.left.zg.length k1,.slice a2 T.left.zf.length k2,.int .i64 T.left.zi,.bool T.left.zv]) ⟨zR _ _,Bx.new _ _ _⟩ ?_
 rintro W2 ⟨t2,y2⟩
 have yL:=hb.trans (t2.mono zb)
 have QP:=hm.below t2
 clear hb hm hx t2 zb lm d0 d1 d2 d3 d4 d5 d6 d7 m0 m1 m2 m3 m4 m5 m6 m7 x0 x1
 obtain⟨⟨m0,m1,m2,m3,m4,m5,m6,m7⟩,_⟩:=uk QP
 have y0:=y2.cell 0 rfl
 have y1:=y2.cell 1 rfl
 by_cases hpn:T.page=-1
 ·have HE:Hid (vY m p=true):=by rw[HB0.out,hpn];rfl
  rw[hpn] at y0
  go_wp2
  go_ret
  exact⟨zo HE.out.symm,yL⟩
 have hpe:(T.page == -1)=false:=by simpa using hpn
 obtain⟨f,hf⟩:∃f,qC T.page 0 ((m.zd.length:Int) - 1)=f:=⟨_,rfl⟩
 have HP:=fun W=>yc T.page m.zd.length W
 rw[hf] at HP
 cases f
 ·have HE:Hid (vY m p=false):=by rw[HB0.out,hpe,hf];rfl
  clear HB0 hf
  go_wp2_with fail
  go_quiet ((go_at_call 58;exact Calls.quiet_of_same (HP _)))
  go_wp2
  go_ret
  exact⟨zo HE.out.symm,YN yL _⟩
 obtain⟨i,hi,hil⟩:=zcb hf
 rw[hi] at HB0 y0 HP hf hpe
 rw[kX hil,hf,hpe] at HB0
 obtain⟨b2,o2,vf,hap,xE⟩:=hcp i hil
 subst hap
 obtain⟨ag,cg,Q9⟩:=xE.f.shape
 have g1:=zc yL xE.c1
 rw[Q9] at g1
 have hnb:=HSM.out i hil
 obtain⟨nf,hnf⟩:∃nf,m.zd[i].zh.length=nf:=⟨_,rfl⟩
 rw[hnf] at g1 HB0 hnb
 have hiz:(i:Int)<(m.zd.length:Int):=by omega
 have hwn:IntKind.i64.wrap ((nf:Int) - 1)=(nf:Int) - 1:=by rw[IntKind.wrap_i64];omega
 have HE:Hid (vY m p=(T.place == (nf:Int) - 1)):=by rw[HB0.out];rfl
 clear HB0 hf hcp xE Q9 hnf hi hpn
 go_wp2_with fail
 go_quiet ((go_at_call 58;exact Calls.quiet_of_same (HP _)))
 go_wp2
 go_ret
 exact⟨zo HE.out.symm,YN yL _⟩
end Go.Proofs.YtbjgjjkgfnfejaaGreatDoor
