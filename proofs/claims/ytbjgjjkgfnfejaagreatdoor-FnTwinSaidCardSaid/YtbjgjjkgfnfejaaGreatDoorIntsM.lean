/-
  Rows of numbers in memory of one's own: read, written, resliced, more behind them.
-/
import Derived.Test.YtbjgjjkgfnfejaaGreatDoorRFV
import Derived.Deep.AppendLies
import Derived.BigQuiet
namespace Go.Proofs.YtbjgjjkgfnfejaaGreatDoor
open Go.RowKit
def yf (B:Nat) (w:World) (v:Value) (xs:List Int):Prop :=
 (v=zQ/\xs=[]) \/
 ∃(g off cap:Nat),v=zK g off xs.length cap/\B<=g/\g<w.heap.size/\xs.length<=cap/\cap<=maxLen /\
  (∀i,i<cap->(w.cell? (zH g (off+i))).isSome=true/\w.frozen? (zH g (off+i))=false) /\
  ∀i,(h:i<xs.length)->w.cell? (zH g (off+i))=some (zI xs[i])
theorem yf.nil (B:Nat) (w:World):yf B w (zQ) []:=.inl ⟨rfl,rfl⟩
theorem yf.form {B:Nat} {w:World} {v:Value} {xs:List Int} (h:yf B w v xs) (hx:0<xs.length):∃g off cap,v=zK g off xs.length cap/\B<=g/\g<w.heap.size:=by
 rcases h with⟨_,rfl⟩ | ⟨g,off,cap,hv,hB,hg,_⟩
 ·simp at hx
 ·exact⟨g,off,cap,hv,hB,hg⟩
theorem yf.slice {B:Nat} {w:World} {v:Value} {xs:List Int} (h:yf B w v xs):∃a cap,v=.slice a xs.length cap/\xs.length<=maxLen:=by
 rcases h with⟨rfl,rfl⟩ | ⟨g,off,cap,hv,hB,hg,hl,hc,_⟩
 ·exact⟨none,0,rfl,by simp⟩
 ·exact⟨_,cap,hv,by omega⟩
theorem yf.mono {B B':Nat} {w:World} {v:Value} {xs:List Int} (h:yf B w v xs) (hB:B'<=B):yf B' w v xs:=by
 rcases h with h | ⟨g,off,cap,hv,hg,r⟩
 ·exact .inl h
 ·exact .inr ⟨g,off,cap,hv,by omega,r⟩
theorem yf.lt {B:Nat} {w:World} {v:Value} {xs:List Int} (h:yf B w v xs):∀k,v.ownBlock=some k->B<=k/\k<w.heap.size:=by
 intro k hk
 rcases h with⟨rfl,_⟩ | ⟨g,off,cap,rfl,hB,hg,_⟩
 ·simp[Value.ownBlock] at hk
 ·simp[Value.ownBlock] at hk
  omega
theorem yf.kept {B:Nat} {w w':World} {v:Value} {xs:List Int} (h:yf B w v xs) (vJ:w.heap.size<=w'.heap.size) (hb:∀g,v.ownBlock=some g->w'.heap[g]?=w.heap[g]?):yf B w' v xs:=by
 rcases h with h | ⟨g,off,cap,rfl,hB,hg,hl,hc,hsp,hx⟩
 ·exact .inl h
 ·have hbk:=hb g rfl
  refine .inr ⟨g,off,cap,rfl,hB,by omega,hl,hc,fun i hi=>?_,fun i hi=>?_⟩
  ·rw[World.cell?_of_block (a:=⟨g,off+i,none⟩) hbk,World.frozen?_of_block (a:=⟨g,off+i,none⟩) hbk];exact hsp i hi
  ·rw[World.cell?_of_block (a:=⟨g,off+i,none⟩) hbk];exact hx i hi
theorem yf.below {B:Nat} {w w':World} {v:Value} {xs:List Int} (h:yf B w v xs) (hb:zO w w'):yf B w' v xs :=
 h.kept hb.size fun g hg=>hb.block g (h.lt g hg).2
theorem yf.set_other {B:Nat} {w:World} {v:Value} {xs:List Int} (h:yf B w v xs) {p:Addr} (u:Value) (hp:v.ownBlock≠some p.block):yf B (w.setCell p u) v xs :=
 h.kept (by simp[World.setCell]) fun g hg=>Below.heap_setCell _ _ _ _ (fun e=>hp (by rw[hg,e]))
theorem yf.cell {B:Nat} {w:World} {g off n cap:Nat} {xs:List Int} (h:yf B w (zK g off n cap) xs) {i:Nat} (hi:i<xs.length):w.cell? (zH g (off+i))=some (zI xs[i])/\w.frozen? (zH g (off+i))=false:=by
 rcases h with⟨h,_⟩ | ⟨g',off',cap',hv,_,_,hl,_,hsp,hx⟩
 ·cases h
 ·cases hv
  exact⟨hx i hi,(hsp i (by omega)).2⟩
theorem yf.set {B:Nat} {w:World} {g off n cap:Nat} {xs:List Int} (h:yf B w (zK g off n cap) xs) (i:Nat) (hi:i<xs.length) (x:Int) :
 yf B (w.setCell (zH g (off+i)) (zI x)) (zK g off n cap) (xs.set i x):=by
 have hc:=(h.cell hi).1
 rcases h with⟨h,_⟩ | ⟨g',off',cap',hv,hB,hg,hl,hm,hsp,hx⟩
 ·cases h
 ·cases hv
  refine .inr ⟨g,off,cap,by simp,hB,by simp[World.setCell];exact hg,by simpa using hl,hm,fun j hj=>?_,fun j hj=>?_⟩
  ·rw[World.frozen?_setCell]
   refine⟨?_,(hsp j hj).2⟩
   by_cases e:j=i
   ·subst e;rw[World.cell?_setCell_same _ _ _ hc];rfl
   ·rw[World.cell?_setCell_other _ _ _ _ (fun q=>by have:=congrArg Addr.off q;simp at this;omega)];exact(hsp j hj).1
  ·rw[List.length_set] at hj
   by_cases e:j=i
   ·subst e;rw[World.cell?_setCell_same _ _ _ hc];simp
   ·rw[World.cell?_setCell_other _ _ _ _ (fun q=>by have:=congrArg Addr.off q;simp at this;omega),hx j hj]
    simp[Ne.symm e]
theorem vy (M:List Int):(M.map fun x=>Value.int .i64 x).length=M.length:=by simp
def zk (B:Nat) (w:World) (v:Value) (ops:yH):Prop :=
 (v=zQ/\ops=[]) \/
 ∃(g off cap:Nat),v=zK g off ops.length cap/\B<=g/\g<w.heap.size/\ops.length<=cap/\cap<=maxLen /\
  (∀i,i<cap * 2->(w.cell? (zH g (off+i))).isSome=true/\w.frozen? (zH g (off+i))=false) /\
  ∀i,(h:i<ops.length)->w.cell? (zH g (off+i * 2))=some (zI ops[i].1)/\w.cell? (zH g (off+i * 2+1))=some (zI ops[i].2)
theorem zk.nil (B:Nat) (w:World):zk B w (zQ) []:=.inl ⟨rfl,rfl⟩
theorem zk.form {B:Nat} {w:World} {v:Value} {xs:yH} (h:zk B w v xs) (hx:0<xs.length):∃g off cap,v=zK g off xs.length cap/\B<=g/\g<w.heap.size:=by
 rcases h with⟨_,rfl⟩ | ⟨g,off,cap,hv,hB,hg,_⟩
 ·simp at hx
 ·exact⟨g,off,cap,hv,hB,hg⟩
theorem zk.slice {B:Nat} {w:World} {v:Value} {xs:yH} (h:zk B w v xs):∃a cap,v=.slice a xs.length cap/\xs.length<=maxLen:=by
 rcases h with⟨rfl,rfl⟩ | ⟨g,off,cap,hv,hB,hg,hl,hc,_⟩
 ·exact⟨none,0,rfl,by simp⟩
 ·exact⟨_,cap,hv,by omega⟩
theorem zk.at {B:Nat} {w:World} {v:Value} {xs:yH} (h:zk B w v xs):yo w v xs:=by
 rcases h with⟨rfl,rfl⟩ | ⟨g,off,cap,rfl,hB,hg,hl,hc,hsp,hx⟩
 ·exact⟨none,0,rfl,Nat.zero_le _,fun i hi=>absurd hi yB⟩
 ·exact⟨_,cap,rfl,by omega,fun i hi=>⟨g,off,rfl,(hx i hi).1,(hx i hi).2⟩⟩
theorem zk.mono {B B':Nat} {w:World} {v:Value} {xs:yH} (h:zk B w v xs) (hB:B'<=B):zk B' w v xs:=by
 rcases h with h | ⟨g,off,cap,hv,hg,r⟩
 ·exact .inl h
 ·exact .inr ⟨g,off,cap,hv,by omega,r⟩
theorem zk.lt {B:Nat} {w:World} {v:Value} {xs:yH} (h:zk B w v xs):∀k,v.ownBlock=some k->B<=k/\k<w.heap.size:=by
 intro k hk
 rcases h with⟨rfl,_⟩ | ⟨g,off,cap,rfl,hB,hg,_⟩
 ·simp[Value.ownBlock] at hk
 ·simp[Value.ownBlock] at hk
  omega
theorem zk.kept {B:Nat} {w w':World} {v:Value} {xs:yH} (h:zk B w v xs) (vJ:w.heap.size<=w'.heap.size) (hb:∀g,v.ownBlock=some g->w'.heap[g]?=w.heap[g]?):zk B w' v xs:=by
 rcases h with h | ⟨g,off,cap,rfl,hB,hg,hl,hc,hsp,hx⟩
 ·exact .inl h
 ·have hbk:=hb g rfl
  refine .inr ⟨g,off,cap,rfl,hB,by omega,hl,hc,fun i hi=>?_,fun i hi=>?_⟩
  ·rw[World.cell?_of_block (a:=⟨g,off+i,none⟩) hbk,World.frozen?_of_block (a:=⟨g,off+i,none⟩) hbk];exact hsp i hi
  ·rw[World.cell?_of_block (a:=⟨g,off+i * 2,none⟩) hbk,World.cell?_of_block (a:=⟨g,off+i * 2+1,none⟩) hbk];exact hx i hi
theorem zk.below {B:Nat} {w w':World} {v:Value} {xs:yH} (h:zk B w v xs) (hb:zO w w'):zk B w' v xs :=
 h.kept hb.size fun g hg=>hb.block g (h.lt g hg).2
theorem zk.set_other {B:Nat} {w:World} {v:Value} {xs:yH} (h:zk B w v xs) {p:Addr} (u:Value) (hp:v.ownBlock≠some p.block):zk B (w.setCell p u) v xs :=
 h.kept (by simp[World.setCell]) fun g hg=>Below.heap_setCell _ _ _ _ (fun e=>hp (by rw[hg,e]))
theorem zk.cell {B:Nat} {w:World} {g off n cap:Nat} {xs:yH} (h:zk B w (zK g off n cap) xs) {i:Nat} (hi:i<xs.length) :
 (w.cell? (zH g (off+i * 2))=some (zI xs[i].1)/\w.cell? (zH g (off+i * 2+1))=some (zI xs[i].2))/\w.frozen? (zH g (off+i * 2))=false/\w.frozen? (zH g (off+i * 2+1))=false:=by
 rcases h with⟨h,_⟩ | ⟨g',off',cap',hv,_,_,hl,_,hsp,hx⟩
 ·cases h
 ·cases hv
  refine⟨hx i hi,(hsp (i * 2) (by omega)).2,?_⟩
  have:=(hsp (i * 2+1) (by omega)).2
  rwa [<-Nat.add_assoc] at this
theorem zk.set {B:Nat} {w:World} {g off n cap:Nat} {xs:yH} (h:zk B w (zK g off n cap) xs) (i:Nat) (hi:i<xs.length) (x y:Int) :
 zk B ((w.setCell (zH g (off+i * 2)) (zI x)).setCell (zH g (off+i * 2+1)) (zI y)) (zK g off n cap) (xs.set i (x,y)):=by
 obtain⟨⟨hc,hd⟩,_⟩:=h.cell hi
 rcases h with⟨h,_⟩ | ⟨g',off',cap',hv,hB,hg,hl,hm,hsp,hx⟩
 ·cases h
 ·cases hv
  have hd':(w.setCell (zH g (off+i * 2)) (zI x)).cell? (zH g (off+i * 2+1))=some (zI xs[i].2):=by
   rw[World.cell?_setCell_other _ _ _ _ (fun q=>by have:=congrArg Addr.off q;simp at this)];exact hd
  refine .inr ⟨g,off,cap,by simp,hB,by simp[World.setCell];exact hg,by simpa using hl,hm,fun j hj=>?_,fun j hj=>?_⟩
  ·rw[World.frozen?_setCell,World.frozen?_setCell]
   refine⟨?_,(hsp j hj).2⟩
   by_cases e:j=i * 2+1
   ·subst e;rw[show off+(i * 2+1)=off+i * 2+1 by omega,World.cell?_setCell_same _ _ _ hd'];rfl
   ·rw[World.cell?_setCell_other _ _ _ _ (fun q=>by have:=congrArg Addr.off q;simp at this;omega)]
    by_cases e2:j=i * 2
    ·subst e2;rw[World.cell?_setCell_same _ _ _ hc];rfl
    ·rw[World.cell?_setCell_other _ _ _ _ (fun q=>by have:=congrArg Addr.off q;simp at this;omega)];exact(hsp j hj).1
  ·rw[List.length_set] at hj
   by_cases e:j=i
   ·subst e
    refine⟨?_,?_⟩
    ·rw[World.cell?_setCell_other _ _ _ _ (fun q=>by have:=congrArg Addr.off q;simp at this),World.cell?_setCell_same _ _ _ hc];simp
    ·rw[World.cell?_setCell_same _ _ _ hd'];simp
   ·have h1:∀u v:Value,((w.setCell (zH g (off+i * 2)) u).setCell (zH g (off+i * 2+1)) v).cell? (zH g (off+j * 2))=w.cell? (zH g (off+j * 2)):=fun u v=>by
     rw[World.cell?_setCell_other _ _ _ _ (fun q=>by have:=congrArg Addr.off q;simp at this;omega),World.cell?_setCell_other _ _ _ _ (fun q=>by have:=congrArg Addr.off q;simp at this;omega)]
    have h2:∀u v:Value,((w.setCell (zH g (off+i * 2)) u).setCell (zH g (off+i * 2+1)) v).cell? (zH g (off+j * 2+1))=w.cell? (zH g (off+j * 2+1)):=fun u v=>by
     rw[World.cell?_setCell_other _ _ _ _ (fun q=>by have:=congrArg Addr.off q;simp at this;omega),World.cell?_setCell_other _ _ _ _ (fun q=>by have:=congrArg Addr.off q;simp at this;omega)]
    rw[h1,h2,List.getElem_set_ne (Ne.symm e)]
    exact hx j hj
structure Wr (T:Nat->Prop) (w w':World):Prop where
 os:w'.os=w.os
 tape:w'.tape=w.tape
 output:w'.output=w.output
 size:w.heap.size<=w'.heap.size
 block:∀k,k<w.heap.size->¬T k->w'.heap[k]?=w.heap[k]?
 fr:∀p:Addr,p.block<w.heap.size->w'.frozen? p=w.frozen? p
theorem Wr.refl (T:Nat->Prop) (w:World):Wr T w w:=⟨rfl,rfl,rfl,Nat.le_refl _,fun _ _ _=>rfl,fun _ _=>rfl⟩
theorem Wr.set {T:Nat->Prop} {w w':World} (h:Wr T w w') {p:Addr} (hp:T p.block) (u:Value):Wr T w (w'.setCell p u) :=
 ⟨h.os,h.tape,h.output,by simp[World.setCell];exact h.size,fun k hk hT=>(Below.heap_setCell _ _ _ _ (fun e=>hT (by rw[e];exact hp))).trans (h.block k hk hT),fun q hq=>by rw[World.frozen?_setCell];exact h.fr q hq⟩
theorem Wr.trans {T:Nat->Prop} {a b c:World} (h:Wr T a b) (k:Wr T b c):Wr T a c :=
 ⟨k.os.trans h.os,k.tape.trans h.tape,k.output.trans h.output,Nat.le_trans h.size k.size,fun q hq hT=>(k.block q (Nat.lt_of_lt_of_le hq h.size) hT).trans (h.block q hq hT),fun p hp=>(k.fr p (Nat.lt_of_lt_of_le hp h.size)).trans (h.fr p hp)⟩
theorem Wr.mono {T T':Nat->Prop} {a b:World} (h:Wr T a b) (hT:∀k,T k->T' k):Wr T' a b :=
 ⟨h.os,h.tape,h.output,h.size,fun q hq hn=>h.block q hq (fun t=>hn (hT q t)),h.fr⟩
theorem Wr.cell {T:Nat->Prop} {a b:World} (h:Wr T a b) {p:Addr} {v:Value} (hc:a.cell? p=some v) (hp:¬T p.block):b.cell? p=some v:=by
 rw[World.cell?_of_block (a:=p) (h.block _ (World.block_lt_of_cell? _ _ hc) hp)];exact hc
theorem Wr.pair {T:Nat->Prop} {B:Nat} {a b:World} {v:Value} {xs:yH} (h:Wr T a b) (hr:zk B a v xs) (hT:∀g,v.ownBlock=some g->¬T g):zk B b v xs :=
 hr.kept h.size fun g hg=>h.block g (hr.lt g hg).2 (hT g hg)
theorem Wr.below {T:Nat->Prop} {B:Nat} {w0 a b:World} (h:Wr T a b) (hb:Below B w0 a) (h0:B<=w0.heap.size) (hT:∀k,T k->B<=k):Below B w0 b :=
 ⟨h.os.trans hb.os,h.tape.trans hb.tape,h.output.trans hb.output,Nat.le_trans hb.size h.size,fun k hk=>(h.block k (by have:=hb.size;omega) (fun t=>by have:=hT k t;omega)).trans (hb.block k hk)⟩
def lst (V:Nat->Value × Value) (q:Nat):Value:=if q % 2=0 then(V (q / 2)).1 else(V (q / 2)).2
theorem zff (V:Nat->Value × Value) (i:Nat):lst V (i * 2)=(V i).1:=by
 unfold lst
 rw[if_pos (by omega),show i * 2 / 2=i by omega]
theorem zfg (V:Nat->Value × Value) (i:Nat):lst V (i * 2+1)=(V i).2:=by
 unfold lst
 rw[if_neg (by omega),show(i * 2+1) / 2=i by omega]
structure xo (B:Nat) (w:World) (v:Value) (cs:List Cl) (V:Nat->Value × Value):Prop where
 row:(v=zQ/\cs=[])\/∃(g off cap:Nat),v=zK g off cs.length cap/\B<=g/\g<w.heap.size/\cs.length<=cap/\cap<=maxLen /\
  (∀i,i<cap * 6->(w.cell? (zH g (off+i))).isSome=true/\w.frozen? (zH g (off+i))=false) /\
  ∀i,(h:i<cs.length)->w.cell? (zH g (off+i * 6))=some (zI cs[i].m)/\w.cell? (zH g (off+i * 6+1))=some (zI cs[i].pc)/\w.cell? (zH g (off+i * 6+2))=some (V i).1 /\
   w.cell? (zH g (off+i * 6+3))=some (V i).2/\w.cell? (zH g (off+i * 6+4))=some (zI cs[i].zi)/\w.cell? (zH g (off+i * 6+5))=some (.bool cs[i].zv)
 lists:∀i,(h:i<cs.length)->zk B w (V i).1 cs[i].zg/\zk B w (V i).2 cs[i].zf
 apart:∀q,q<cs.length * 2->∀g,(lst V q).ownBlock=some g->v.ownBlock≠some g/\∀q',q'<cs.length * 2->q'≠q->(lst V q').ownBlock≠some g
def ZH (v:Value) (n:Nat) (V:Nat->Value × Value) (g:Nat):Prop:=v.ownBlock=some g\/∃q,q<n * 2/\(lst V q).ownBlock=some g
theorem xo.shape {B:Nat} {w:World} {v:Value} {cs:List Cl} {V:Nat->Value × Value} (h:xo B w v cs V):∃a cap,v=.slice a cs.length cap/\cs.length<=maxLen:=by
 rcases h.row with⟨rfl,rfl⟩ | ⟨g,off,cap,hv,hB,hg,hl,hc,_⟩
 ·exact⟨none,0,rfl,by simp⟩
 ·exact⟨_,cap,hv,by omega⟩
theorem xo.form {B:Nat} {w:World} {v:Value} {cs:List Cl} {V:Nat->Value × Value} (h:xo B w v cs V) (hx:0<cs.length):∃g off cap,v=zK g off cs.length cap/\B<=g/\g<w.heap.size:=by
 rcases h.row with⟨_,rfl⟩ | ⟨g,off,cap,hv,hB,hg,_⟩
 ·simp at hx
 ·exact⟨g,off,cap,hv,hB,hg⟩
theorem xo.at {B:Nat} {w:World} {v:Value} {cs:List Cl} {V:Nat->Value × Value} (h:xo B w v cs V):jD w v cs:=by
 rcases h.row with⟨rfl,rfl⟩ | ⟨g,off,cap,rfl,hB,hg,hl,hc,hsp,hx⟩
 ·exact jD.nil w
 ·refine⟨_,cap,rfl,by omega,fun i hi=>?_⟩
  obtain⟨c0,c1,c2,c3,c4,c5⟩:=hx i hi
  exact⟨g,off,_,_,rfl,c0,c1,c2,c3,c4,c5,(h.lists i hi).1.at,(h.lists i hi).2.at⟩
theorem xo.lt {B:Nat} {w:World} {v:Value} {cs:List Cl} {V:Nat->Value × Value} (h:xo B w v cs V) {g:Nat} (hg:ZH v cs.length V g):B<=g/\g<w.heap.size:=by
 rcases hg with hg | ⟨q,hq,hg⟩
 ·rcases h.row with⟨rfl,_⟩ | ⟨g',off,cap,rfl,hB,hg',_⟩
  ·simp[Value.ownBlock] at hg
  ·simp[Value.ownBlock] at hg
   omega
 ·have hi:q / 2<cs.length:=by omega
  rcases Nat.mod_two_eq_zero_or_one q with hm | hm
  ·rw[show q=q / 2 * 2 by omega,zff] at hg
   exact(h.lists _ hi).1.lt g hg
  ·rw[show q=q / 2 * 2+1 by omega,zfg] at hg
   exact(h.lists _ hi).2.lt g hg
theorem xo.kept {B:Nat} {w w':World} {v:Value} {cs:List Cl} {V:Nat->Value × Value} (h:xo B w v cs V) (vJ:w.heap.size<=w'.heap.size) (hb:∀g,ZH v cs.length V g->w'.heap[g]?=w.heap[g]?):xo B w' v cs V:=by
 refine⟨?_,fun i hi=>?_,h.apart⟩
 ·rcases h.row with hn | ⟨g,off,cap,rfl,hB,hg,hl,hc,hsp,hx⟩
  ·exact .inl hn
  ·have hbk:=hb g (.inl rfl)
   have hc':∀o,w'.cell? (zH g o)=w.cell? (zH g o):=fun o=>World.cell?_of_block (a:=⟨g,o,none⟩) hbk
   have hf':∀o,w'.frozen? (zH g o)=w.frozen? (zH g o):=fun o=>World.frozen?_of_block (a:=⟨g,o,none⟩) hbk
   refine .inr ⟨g,off,cap,rfl,hB,by omega,hl,hc,fun i hi=>?_,fun i hi=>?_⟩
   ·rw[hc',hf'];exact hsp i hi
   ·rw[hc',hc',hc',hc',hc',hc'];exact hx i hi
 ·refine⟨(h.lists i hi).1.kept vJ fun g hg=>hb g (.inr ⟨i * 2,by omega,by rw[zff];exact hg⟩),(h.lists i hi).2.kept vJ fun g hg=>hb g (.inr ⟨i * 2+1,by omega,by rw[zfg];exact hg⟩)⟩
theorem xo.below {B:Nat} {w w':World} {v:Value} {cs:List Cl} {V:Nat->Value × Value} (h:xo B w v cs V) (hb:zO w w'):xo B w' v cs V :=
 h.kept hb.size fun _ hg=>hb.block _ (h.lt hg).2
structure qZ (B:Nat) (w:World) (vc vs:Value) (h:Hp) (V:Nat->Value × Value):Prop where
 c:xo B w vc h.za V
 s:zk B w vs h.zm
 apart:∀g,vs.ownBlock=some g->¬ZH vc h.za.length V g
def J0 (vc vs:Value) (n:Nat) (V:Nat->Value × Value) (g:Nat):Prop:=vs.ownBlock=some g\/ZH vc n V g
theorem qZ.at {B:Nat} {w:World} {vc vs:Value} {h:Hp} {V:Nat->Value × Value} (k:qZ B w vc vs h V):wu w vc vs h:=⟨k.c.at,k.s.at⟩
theorem qZ.lt {B:Nat} {w:World} {vc vs:Value} {h:Hp} {V:Nat->Value × Value} (k:qZ B w vc vs h V) {g:Nat} (hg:J0 vc vs h.za.length V g):B<=g/\g<w.heap.size:=by
 rcases hg with hg | hg
 ·exact k.s.lt g hg
 ·exact k.c.lt hg
theorem qZ.kept {B:Nat} {w w':World} {vc vs:Value} {h:Hp} {V:Nat->Value × Value} (k:qZ B w vc vs h V) (vJ:w.heap.size<=w'.heap.size) (hb:∀g,J0 vc vs h.za.length V g->w'.heap[g]?=w.heap[g]?):qZ B w' vc vs h V :=
 ⟨k.c.kept vJ fun g hg=>hb g (.inr hg),k.s.kept vJ fun g hg=>hb g (.inl hg),k.apart⟩
theorem qZ.below {B:Nat} {w w':World} {vc vs:Value} {h:Hp} {V:Nat->Value × Value} (k:qZ B w vc vs h V) (hb:zO w w'):qZ B w' vc vs h V :=
 k.kept hb.size fun _ hg=>hb.block _ (k.lt hg).2
structure Fr where
 m:Int
 pc:Int
 twin:Int
 zg:yH
 zf:yH
structure Pg where
 base:Int
 zh:List Fr
structure Tw where
 page:Int
 place:Int
 left:Cl
structure Mc where
 cells:Int
 zd:List Pg
 order:List Int
 now:Int
 ze:List Tw
 born:Int
 zm:yH
 code:Int
def vU (w:World) (v:Value) (xs:List Int):Prop :=
 ∃(a:Option Addr) (cap:Nat),v=.slice a xs.length cap/\xs.length<=maxLen/\∀i,(h:i<xs.length)->∃b o,a=some ⟨b,o,none⟩/\w.cell? (zH b (o+i))=some (zI xs[i])
theorem vU.below {w w':World} {v:Value} {xs:List Int} (h:vU w v xs) (hb:zO w w'):vU w' v xs:=by
 obtain⟨a,cap,hv,hl,hc⟩:=h
 refine⟨a,cap,hv,hl,fun i hi=>?_⟩
 obtain⟨b,o,ha,h0⟩:=hc i hi
 exact⟨b,o,ha,zc hb h0⟩
theorem vU.shape {w:World} {v:Value} {xs:List Int} (h:vU w v xs):∃a c,v=.slice a xs.length c:=by
 obtain⟨a,c,hv,_⟩:=h
 exact⟨a,c,hv⟩
theorem yf.at {B:Nat} {w:World} {v:Value} {xs:List Int} (h:yf B w v xs):vU w v xs:=by
 rcases h with⟨rfl,rfl⟩ | ⟨g,off,cap,rfl,_,_,hl,hm,_,hx⟩
 ·exact⟨none,0,rfl,Nat.zero_le _,fun _ hi=>absurd hi yB⟩
 ·exact⟨_,cap,rfl,by omega,fun i hi=>⟨g,off,rfl,hx i hi⟩⟩
structure FrAt (w:World) (b o:Nat) (vt vs:Value) (f:Fr):Prop where
 c0:w.cell? (zH b o)=some (zI f.m)
 c1:w.cell? (zH b (o+1))=some (zI f.pc)
 c2:w.cell? (zH b (o+2))=some (zI f.twin)
 c3:w.cell? (zH b (o+3))=some vt
 c4:w.cell? (zH b (o+4))=some vs
 t:yo w vt f.zg
 s:yo w vs f.zf
theorem FrAt.below {w w':World} {b o:Nat} {vt vs:Value} {f:Fr} (h:FrAt w b o vt vs f) (hb:zO w w'):FrAt w' b o vt vs f :=
 ⟨zc hb h.c0,zc hb h.c1,zc hb h.c2,zc hb h.c3,zc hb h.c4,h.t.below hb,h.s.below hb⟩
def vj (w:World) (v:Value) (fs:List Fr):Prop :=
 ∃(a:Option Addr) (cap:Nat),v=.slice a fs.length cap/\fs.length<=maxLen /\
  ∀i,(h:i<fs.length)->∃b o vt vs,a=some ⟨b,o,none⟩/\FrAt w b (o+i * 5) vt vs fs[i]
theorem vj.below {w w':World} {v:Value} {fs:List Fr} (h:vj w v fs) (hb:zO w w'):vj w' v fs:=by
 obtain⟨a,cap,hv,hl,hc⟩:=h
 refine⟨a,cap,hv,hl,fun i hi=>?_⟩
 obtain⟨b,o,vt,vs,ha,h0⟩:=hc i hi
 exact⟨b,o,vt,vs,ha,h0.below hb⟩
theorem vj.shape {w:World} {v:Value} {fs:List Fr} (h:vj w v fs):∃a c,v=.slice a fs.length c:=by
 obtain⟨a,c,hv,_⟩:=h
 exact⟨a,c,hv⟩
theorem vj.nil (w:World):vj w (zQ) []:=⟨none,0,rfl,Nat.zero_le _,fun _ hi=>absurd hi yB⟩
structure zdi (w:World) (b o:Nat) (vf:Value) (p:Pg):Prop where
 c0:w.cell? (zH b o)=some (zI p.base)
 c1:w.cell? (zH b (o+1))=some vf
 f:vj w vf p.zh
theorem zdi.below {w w':World} {b o:Nat} {vf:Value} {p:Pg} (h:zdi w b o vf p) (hb:zO w w'):zdi w' b o vf p:=⟨zc hb h.c0,zc hb h.c1,h.f.below hb⟩
def wZ (w:World) (v:Value) (ps:List Pg):Prop :=
 ∃(a:Option Addr) (cap:Nat),v=.slice a ps.length cap/\ps.length<=maxLen/\∀i,(h:i<ps.length)->∃b o vf,a=some ⟨b,o,none⟩/\zdi w b (o+i * 2) vf ps[i]
theorem wZ.below {w w':World} {v:Value} {ps:List Pg} (h:wZ w v ps) (hb:zO w w'):wZ w' v ps:=by
 obtain⟨a,cap,hv,hl,hc⟩:=h
 refine⟨a,cap,hv,hl,fun i hi=>?_⟩
 obtain⟨b,o,vf,ha,h0⟩:=hc i hi
 exact⟨b,o,vf,ha,h0.below hb⟩
theorem wZ.shape {w:World} {v:Value} {ps:List Pg} (h:wZ w v ps):∃a c,v=.slice a ps.length c:=by
 obtain⟨a,c,hv,_⟩:=h
 exact⟨a,c,hv⟩
structure TwAt (w:World) (b o:Nat) (vt vs:Value) (x:Tw):Prop where
 c0:w.cell? (zH b o)=some (zI x.page)
 c1:w.cell? (zH b (o+1))=some (zI x.place)
 c2:w.cell? (zH b (o+2))=some (zI x.left.m)
 c3:w.cell? (zH b (o+3))=some (zI x.left.pc)
 c4:w.cell? (zH b (o+4))=some vt
 c5:w.cell? (zH b (o+5))=some vs
 c6:w.cell? (zH b (o+6))=some (zI x.left.zi)
 c7:w.cell? (zH b (o+7))=some (.bool x.left.zv)
 t:yo w vt x.left.zg
 s:yo w vs x.left.zf
theorem TwAt.below {w w':World} {b o:Nat} {vt vs:Value} {t:Tw} (h:TwAt w b o vt vs t) (hb:zO w w'):TwAt w' b o vt vs t :=
 ⟨zc hb h.c0,zc hb h.c1,zc hb h.c2,zc hb h.c3,zc hb h.c4,zc hb h.c5,zc hb h.c6,zc hb h.c7,h.t.below hb,h.s.below hb⟩
def vX (w:World) (v:Value) (ts:List Tw):Prop :=
 ∃(a:Option Addr) (cap:Nat),v=.slice a ts.length cap/\ts.length<=maxLen/\∀i,(h:i<ts.length)->∃b o vt vs,a=some ⟨b,o,none⟩/\TwAt w b (o+i * 8) vt vs ts[i]
theorem vX.below {w w':World} {v:Value} {ts:List Tw} (h:vX w v ts) (hb:zO w w'):vX w' v ts:=by
 obtain⟨a,cap,hv,hl,hc⟩:=h
 refine⟨a,cap,hv,hl,fun i hi=>?_⟩
 obtain⟨b,o,vt,vs,ha,h0⟩:=hc i hi
 exact⟨b,o,vt,vs,ha,h0.below hb⟩
theorem vX.shape {w:World} {v:Value} {ts:List Tw} (h:vX w v ts):∃a c,v=.slice a ts.length c:=by
 obtain⟨a,c,hv,_⟩:=h
 exact⟨a,c,hv⟩
theorem vX.nil (w:World):vX w (zQ) []:=⟨none,0,rfl,Nat.zero_le _,fun _ hi=>absurd hi yB⟩
def zE (vp vo vt vs:Value) (m:Mc):List Value:=[zI m.cells,vp,vo,zI m.now,vt,zI m.born,vs,zI m.code]
structure ql (w:World) (vp vo vt vs:Value) (m:Mc):Prop where
 p:wZ w vp m.zd
 o:vU w vo m.order
 t:vX w vt m.ze
 s:yo w vs m.zm
theorem ql.below {w w':World} {vp vo vt vs:Value} {m:Mc} (h:ql w vp vo vt vs m) (hb:zO w w'):ql w' vp vo vt vs m:=⟨h.p.below hb,h.o.below hb,h.t.below hb,h.s.below hb⟩
structure Mc.small (m:Mc):Prop where
 zd:m.zd.length<=1048576
 zh:∀i,(hi:i<m.zd.length)->m.zd[i].zh.length<=1048576
 ze:m.ze.length<=1048576
 order:m.order.length<=1048576
 zm:m.zm.length<=1048576
 zg:∀i,(hi:i<m.zd.length)->∀j,(hj:j<m.zd[i].zh.length)->m.zd[i].zh[j].zg.length<=1048576/\m.zd[i].zh[j].zf.length<=1048576
 left:∀i,(hi:i<m.ze.length)->m.ze[i].left.small
def Bx (w:World) (g:Nat) (t:TypeId) (l:List Value):Prop:=w.rowIs g t l.length fun i=>l.getD i undef
theorem Bx.new (w:World) (t:TypeId) (l:List Value):Bx (w.alloc (.cells l.toArray t)) w.heap.size t l :=
 ⟨_,Go.Deep.blk_alloc_new _ _,by simp,fun i hi=>by simp[hi]⟩
theorem Bx.lt {w:World} {g:Nat} {t:TypeId} {l:List Value} (h:Bx w g t l):g<w.heap.size:=World.rowIs.lt h
theorem Bx.cell {w:World} {g:Nat} {t:TypeId} {l:List Value} (h:Bx w g t l) (i:Nat) {v:Value} (hi:l[i]?=some v):w.cell? (zH g i)=some v:=by
 obtain⟨hl,hv⟩:=List.getElem?_eq_some_iff.1 hi
 have:=World.rowIs.cell h (i:=i) hl
 rw[this]
 simp[hl,hv]
theorem Bx.frozen {w:World} {g:Nat} {t:TypeId} {l:List Value} (h:Bx w g t l) (i:Nat):w.frozen? (zH g i)=false:=World.rowIs.frozen h i
theorem Bx.set {w:World} {g:Nat} {t:TypeId} {l:List Value} (h:Bx w g t l) (i:Nat) (v:Value):Bx (w.setCell (zH g i) v) g t (l.set i v):=by
 unfold Bx
 rw[List.length_set]
 refine(World.rowIs.set h i v).congr fun j hj=>?_
 by_cases e:j=i
 ·subst e;simp[hj]
 ·simp[e,List.getElem?_set_ne (Ne.symm e)]
theorem Bx.other {w:World} {g k o:Nat} {t:TypeId} {l:List Value} (h:Bx w g t l) (hk:g≠k) (v:Value):Bx (w.setCell (zH k o) v) g t l:=World.rowIs.of_block h (Below.heap_setCell _ _ _ _ hk)
theorem Bx.below {w w':World} {g:Nat} {t:TypeId} {l:List Value} (h:Bx w g t l) (hb:zO w w'):Bx w' g t l:=yp hb h
theorem Bx.kept {w w':World} {g:Nat} {t:TypeId} {l:List Value} (h:Bx w g t l) (hb:w'.heap[g]?=w.heap[g]?):Bx w' g t l:=World.rowIs.of_block h hb
theorem Bx.alloc {w:World} {g:Nat} {t:TypeId} {l:List Value} (h:Bx w g t l) (o:Obj):Bx (w.alloc o) g t l:=h.below (zR _ _)
theorem Bx.drew {w:World} {g:Nat} {t:TypeId} {l:List Value} (h:Bx w g t l):Bx w.drew g t l:=h
theorem Bx.grown {w w':World} {g:Nat} {t:TypeId} {l:List Value} {q:Option Nat} (h:Bx w g t l) (hg:w.grownBy w' q) (hq:q≠some g):Bx w' g t l:=h.kept (hg.block _ h.lt fun e=>hq e.symm)
theorem Bx.newAt (w:World) (t:TypeId) (l:List Value) {g:Nat} (hg:w.heap.size=g):Bx (w.alloc (.cells l.toArray t)) g t l:=hg ▸ Bx.new w t l
theorem ym {P:Program} {c:Code} {K:Exit->Act->World->Prop} {a:Act} {W:World} (F:World->Prop) (hF:F W) (h:∀W',F W'->Code.wp P c K a W'):Code.wp P c K a W:=h W hF
theorem xU {P:Program} {fn:Func} {R:Ending->World->Prop} {e:Exit} {a:Act} {W:World} (F:World->Prop) (hF:F W) (h:∀W',F W'->bodyPost P fn R e a W'):bodyPost P fn R e a W:=h W hF
theorem wD {X:Exit->Act->World->Prop} {e:Exit} {a:Act} {W:World} (F:World->Prop) (hF:F W) (h:∀W',F W'->X e a W'):X e a W:=h W hF
theorem Wr.refl1 (g:Nat) (w:World):Wr (fun k=>k=g) w w:=Wr.refl _ _
theorem Wr.set1 {g o:Nat} {w w':World} (h:Wr (fun k=>k=g) w w') (u:Value):Wr (fun k=>k=g) w (w'.setCell (zH g o) u):=h.set (p:=zH g o) rfl u
theorem Wr.bx {T:Nat->Prop} {w w':World} {g:Nat} {t:TypeId} {l:List Value} (h:Wr T w w') (hx:Bx w g t l) (hT:¬T g):Bx w' g t l:=hx.kept (h.block _ hx.lt hT)
theorem Wr.ints {T:Nat->Prop} {B:Nat} {w w':World} {v:Value} {xs:List Int} (h:Wr T w w') (hr:yf B w v xs) (hT:∀g,v.ownBlock=some g->¬T g):yf B w' v xs:=hr.kept h.size fun g e=>h.block g (hr.lt g e).2 (hT g e)
theorem Wr.below1 {g B:Nat} {w0 a b:World} (h:Wr (fun k=>k=g) a b) (hb:Below B w0 a) (h0:B<=w0.heap.size) (hg:B<=g):Below B w0 b:=h.below hb h0 fun _ e=>e ▸ hg
theorem uk {w:World} {g:Nat} {t:TypeId} {x0 x1 x2 x3 x4 x5 x6 x7:Value} (h:Bx w g t [x0,x1,x2,x3,x4,x5,x6,x7]) :
 (w.cell? (zH g 0)=some x0/\w.cell? (zH g 1)=some x1/\w.cell? (zH g 2)=some x2/\w.cell? (zH g 3)=some x3/\w.cell? (zH g 4)=some x4/\w.cell? (zH g 5)=some x5/\w.cell? (zH g 6)=some x6/\w.cell? (zH g 7)=some x7) /\
 (w.frozen? (zH g 0)=false/\w.frozen? (zH g 1)=false/\w.frozen? (zH g 2)=false/\w.frozen? (zH g 3)=false/\w.frozen? (zH g 4)=false/\w.frozen? (zH g 5)=false/\w.frozen? (zH g 6)=false/\w.frozen? (zH g 7)=false) :=
 ⟨⟨h.cell 0 rfl,h.cell 1 rfl,h.cell 2 rfl,h.cell 3 rfl,h.cell 4 rfl,h.cell 5 rfl,h.cell 6 rfl,h.cell 7 rfl⟩,h.frozen 0,h.frozen 1,h.frozen 2,h.frozen 3,h.frozen 4,h.frozen 5,h.frozen 6,h.frozen 7⟩
theorem Yf {w:World} {g:Nat} {t:TypeId} {x0 x1 x2 x3 x4 x5 x6 x7 x8 x9:Value} (h:Bx w g t [x0,x1,x2,x3,x4,x5,x6,x7,x8,x9]) :
 (w.cell? (zH g 0)=some x0/\w.cell? (zH g 1)=some x1/\w.cell? (zH g 2)=some x2/\w.cell? (zH g 3)=some x3/\w.cell? (zH g 4)=some x4/\w.cell? (zH g 5)=some x5/\w.cell? (zH g 6)=some x6/\w.cell? (zH g 7)=some x7/\w.cell? (zH g 8)=some x8/\w.cell? (zH g 9)=some x9) /\
 (w.frozen? (zH g 0)=false/\w.frozen? (zH g 1)=false/\w.frozen? (zH g 2)=false/\w.frozen? (zH g 3)=false/\w.frozen? (zH g 4)=false/\w.frozen? (zH g 5)=false/\w.frozen? (zH g 6)=false/\w.frozen? (zH g 7)=false/\w.frozen? (zH g 8)=false/\w.frozen? (zH g 9)=false) :=
 ⟨⟨h.cell 0 rfl,h.cell 1 rfl,h.cell 2 rfl,h.cell 3 rfl,h.cell 4 rfl,h.cell 5 rfl,h.cell 6 rfl,h.cell 7 rfl,h.cell 8 rfl,h.cell 9 rfl⟩,h.frozen 0,h.frozen 1,h.frozen 2,h.frozen 3,h.frozen 4,h.frozen 5,h.frozen 6,h.frozen 7,h.frozen 8,h.frozen 9⟩
theorem uA {P:Program} {t ty e:TypeId} {i:TypeInfo} {B:Nat} (ht:P.underlying t=some (.slice e)) (hi:P.info? e=some i) (hz:i.zero=some (zI 0)) (hs:i.size=1) (hby:i.bytes=8)
 {w:World} {v:Value} {L:List Int} (zy:yf B w v L) (ad:Addr) (m c:Nat) (M:List Int) (hm:M.length=m) (hnews:∀j,(h:j<M.length)->w.cell? (ad.add j)=some (zI M[j]))
 (hpos:0<m\/∃a n k,v=.slice (some a) n k) (hL:L.length+m<=3000000) (hB:B<=w.heap.size) :
 ∃g off cap w',(Builtin.append_ #[t,t] ty #[v,.slice (some ad) m c]).run P w=.ok (zK g off (L.length+m) cap) w' /\
  yf B w' (zK g off (L.length+m) cap) (L ++ M)/\w.grownBy w' v.ownBlock/\(v.ownBlock=some g\/g=w.heap.size):=by
 have hnews':∀j u,(M.map fun x=>Value.int .i64 x)[j]?=some u->w.cell? (ad.add j)=some u:=by
  intro j u hu
  rw[List.getElem?_map] at hu
  by_cases hj:j<M.length
  ·rw[List.getElem?_eq_getElem hj] at hu
   rw[hnews j hj]
   simpa using hu
  ·rw[List.getElem?_eq_none (by omega)] at hu;simp at hu
 have h1:∀u∈(M.map fun x=>Value.int .i64 x),u.oneCell'=true:=by
  intro u hu
  simp at hu
  obtain⟨x,_,rfl⟩:=hu
  rfl
 have Yv:∀(xs:List Int) (k:Nat) (W:World) (q:Nat),W.heap.size=w.heap.size->xs.length=q->q<=k->k<=maxLen ->
  yf B (W.alloc (.cells ((xs.map fun x=>Value.int .i64 x).toArray ++ Builtin.zeroCells (Value.int .i64 0).cells (k - q)) e)) (zK w.heap.size 0 q k) xs:=by
  intro xs k W q hW hq hqk hk
  subst hq
  have WI:(Builtin.zeroCells (Value.int .i64 0).cells (k - xs.length)).size=k - xs.length:=by
   simp[Builtin.zeroCells,Value.cells]
  have hblk:(W.alloc (.cells ((xs.map fun x=>Value.int .i64 x).toArray ++ Builtin.zeroCells (Value.int .i64 0).cells (k - xs.length)) e)).heap[w.heap.size]?=some (.cells ((xs.map fun x=>Value.int .i64 x).toArray ++ Builtin.zeroCells (Value.int .i64 0).cells (k - xs.length)) e):=by
   rw[<-hW];exact Go.Deep.blk_alloc_new _ _
  refine .inr ⟨w.heap.size,0,k,rfl,hB,by simp[hW],hqk,hk,fun j hj=>?_,fun j hj=>?_⟩
  ·refine⟨?_,?_⟩
   ·rw[Nat.zero_add,cell_of_row _ _ _ _ _ _ hblk]
    rw[Array.getElem?_eq_getElem (by simp[WI];omega)];rfl
   ·simp[World.frozen?,hblk]
  ·rw[Nat.zero_add,cell_of_row _ _ _ _ _ _ hblk]
   simp[Array.getElem?_append,hj]
 rcases zy with⟨rfl,rfl⟩ | ⟨g,off,cap,rfl,hBg,hg,hl,hmx,hsp,hx⟩
 ·have hm0:0<m:=by
   rcases hpos with h | ⟨_,_,_,h⟩
   ·exact h
   ·cases h
  have hr:=run_append_nil (P:=P) w t ty e i _ ht hi hz ad m c _ (by simp[hs,hm]) hnews' hm0 (by simp at hL;omega) (by simp at hL;rw[hby];omega)
  refine⟨w.heap.size,0,grownCap w m 0 e,_,by simpa using hr,?_,?_,.inr rfl⟩
  ·have:=Yv M (grownCap w m 0 e) w.drew m rfl hm (grownCap_ge _ _ _ _) (grownCap_le_maxLen _ _ _ _ (by simp at hL;unfold maxLen;omega))
   simpa using this
  ·exact⟨rfl,rfl,rfl,Nat.le_of_lt (by rw[World.size_alloc];exact Nat.lt_succ_self _),fun k hk _=>Below.heap_alloc w.drew _ k hk⟩
 ·by_cases hroom:L.length+m<=cap
  ·have hc:∀j,j<(M.map fun x=>Value.int .i64 x).length->(w.cell? (zH g (off+L.length * i.size+j))).isSome=true:=fun j hj=>by
    rw[vy] at hj
    have:=(hsp (L.length+j) (by omega)).1
    rwa [hs,Nat.mul_one,Nat.add_assoc]
   have hf:∀j,j<(M.map fun x=>Value.int .i64 x).length->w.frozen? (zH g (off+L.length * i.size+j))=false:=fun j hj=>by
    rw[vy] at hj
    have:=(hsp (L.length+j) (by omega)).2
    rwa [hs,Nat.mul_one,Nat.add_assoc]
   have hr:=run_append_room_cells (P:=P) w t ty e i ht hi g off L.length cap ad m c _ (by simp[hs,hm]) hnews' h1 hroom hc hf
   rw[hs,Nat.mul_one] at hr hc
   have hszc:(w.setCells g (off+L.length) (M.map fun x=>Value.int .i64 x)).heap.size=w.heap.size:=by
    have key:∀(vs:List Value) (o:Nat) (W:World),(W.setCells g o vs).heap.size=W.heap.size:=by
     intro vs
     induction vs with
     | nil=>intro o W;rfl
     | cons v r ih=>intro o W;rw[World.setCells,ih];simp[World.setCell]
    exact key _ _ _
   have hoth:∀k,k≠g->(w.setCells g (off+L.length) (M.map fun x=>Value.int .i64 x)).heap[k]?=w.heap[k]?:=by
    have key:∀(vs:List Value) (o:Nat) (W:World) (k:Nat),k≠g->(W.setCells g o vs).heap[k]?=W.heap[k]?:=by
     intro vs
     induction vs with
     | nil=>intro o W k _;rfl
     | cons v r ih=>intro o W k hk;rw[World.setCells,ih _ _ _ hk];exact Below.heap_setCell _ _ _ _ hk
    exact key _ _ _
   have hwt:(w.setCells g (off+L.length) (M.map fun x=>Value.int .i64 x)).os=w.os/\(w.setCells g (off+L.length) (M.map fun x=>Value.int .i64 x)).tape=w.tape/\(w.setCells g (off+L.length) (M.map fun x=>Value.int .i64 x)).output=w.output:=by
    have key:∀(vs:List Value) (o:Nat) (W:World),(W.setCells g o vs).os=W.os/\(W.setCells g o vs).tape=W.tape/\(W.setCells g o vs).output=W.output:=by
     intro vs
     induction vs with
     | nil=>intro o W;exact⟨rfl,rfl,rfl⟩
     | cons v r ih=>intro o W;rw[World.setCells];exact ih _ _
    exact key _ _ _
   refine⟨g,off,cap,_,hr,.inr ⟨g,off,cap,by simp[hm],hBg,by rw[hszc];exact hg,by simp[hm];omega,hmx,fun j hj=>?_,fun j hj=>?_⟩,⟨hwt.1,hwt.2.1,hwt.2.2,by rw[hszc];exact Nat.le_refl _,fun k _ hk=>hoth k (fun e=>hk (by rw[e];rfl))⟩,.inl rfl⟩
   ·rw[World.frozen?_setCells]
    refine⟨?_,(hsp j hj).2⟩
    by_cases hin:L.length<=j/\j<L.length+M.length
    ·have:=World.cell?_setCells_in g (M.map fun x=>Value.int .i64 x) (off+L.length) w hc (j - L.length) (by simp;omega)
     rw[show off+L.length+(j - L.length)=off+j by omega] at this
     rw[this];rfl
    ·rw[World.cell?_setCells_out g _ _ _ _ (fun _ _=>by simp;omega)]
     exact(hsp j hj).1
   ·rw[List.length_append] at hj
    by_cases hin:j<L.length
    ·rw[World.cell?_setCells_out g _ _ _ _ (fun _ _=>by simp;omega),hx j hin]
     simp[hin]
    ·have:=World.cell?_setCells_in g (M.map fun x=>Value.int .i64 x) (off+L.length) w hc (j - L.length) (by simp;omega)
     rw[show off+L.length+(j - L.length)=off+j by omega] at this
     rw[this]
     simp[List.getElem_append,hin]
  ·have hr:=run_append_grow (P:=P) w t ty e i _ ht hi hz ⟨g,off,none⟩ L.length cap (L.map fun x=>Value.int .i64 x) (by simp[hs]) (fun j u hu=>by
    rw[List.getElem?_map] at hu
    by_cases hj:j<L.length
    ·rw[List.getElem?_eq_getElem hj] at hu
     rw[Addr.add_lit,hx j hj]
     simpa using hu
    ·rw[List.getElem?_eq_none (by omega)] at hu;simp at hu)
    ad m c _ (by simp[hs,hm]) hnews' (by omega) (by omega) (growslice_fits (by omega) (by rw[hby];omega))
   refine⟨w.heap.size,0,grownCap w (L.length+m) cap e,_,hr,?_,?_,.inr rfl⟩
   ·have:=Yv (L ++ M) (grownCap w (L.length+m) cap e) w.drew (L.length+m) rfl (by simp[hm]) (grownCap_ge _ _ _ _) (grownCap_le_maxLen _ _ _ _ (by unfold maxLen;omega))
    simpa using this
   ·exact⟨rfl,rfl,rfl,Nat.le_of_lt (by rw[World.size_alloc];exact Nat.lt_succ_self _),fun k hk _=>Below.heap_alloc w.drew _ k hk⟩
theorem QS {P:Program} {t e:TypeId} {i:TypeInfo} {B:Nat} (ht:P.underlying t=some (.slice e)) (hi:P.info? e=some i) (hz:i.zero=some (zI 0)) (vJ:i.size=1) (hby:i.bytes=8)
 {ops:Array Oper} {rest:List Oper} {o:Oper} {act:Act} {Q:Exit->Act->World->Prop} (w:World) (hgd:o.guard=none) (s x:Operand)
 (ho:o.op=.call {callee:=.builtin .append,args:=#[s,x],argTypes:=#[t,t]}) (v:Value) (L:List Int) (hs:act.eval s=v) (zy:yf B w v L) (ad:Addr) (m c:Nat) (M:List Int) (hm:M.length=m)
 (hx:act.eval x=.slice (some ad) m c) (hnews:∀j,(h:j<M.length)->w.cell? (ad.add j)=some (zI M[j])) (hpos:0<m\/∃a n k,v=.slice (some a) n k) (hL:L.length+m<=3000000) (hB:B<=w.heap.size)
 (h:∀g off cap w',yf B w' (zK g off (L.length+m) cap) (L ++ M)->w.grownBy w' v.ownBlock->(v.ownBlock=some g\/g=w.heap.size) ->
  wpList P ops Q rest (act.put o.dst (zK g off (L.length+m) cap)) w') :
 wpList P ops Q (o :: rest) act w:=by
 obtain⟨g,off,cap,w',hr,h2,h3,h4⟩:=uA (P:=P) (ty:=o.type) ht hi hz vJ hby zy ad m c M hm hnews hpos hL hB
 refine wpList_plain hgd fun K hK=>?_
 unfold Oper.wp execOp
 simp only[ho,resolve,invoke,builtin,Sem.run_bind,Sem.run_pure,Result.andThen_ok,List.map_toArray,List.map_cons,List.map_nil,hs,hx,hr]
 exact hK _ _ (h g off cap w' h2 h3 h4)
theorem XX {P:Program} {t e:TypeId} {i:TypeInfo} {B:Nat} (ht:P.underlying t=some (.slice e)) (hi:P.info? e=some i) (hz:i.zero=some (zI 0)) (vJ:i.size=1) (hby:i.bytes=8)
 {ops:Array Oper} {rest:List Oper} {o:Oper} {act:Act} {Q:Exit->Act->World->Prop} (w:World) (hgd:o.guard=none) (s x:Operand)
 (ho:o.op=.call {callee:=.builtin .append,args:=#[s,x],argTypes:=#[t,t]}) (v:Value) (L:List Int) (hs:act.eval s=v) (zy:yf B w v L) (k:Int) (H c:Nat) (hH:w.heap.size=H)
 (hx:act.eval x=zK H 0 1 c) (hL:L.length<=2900000) (hB:B<=H)
 (h:∀g off cap w',yf B w' (zK g off (L.length+1) cap) (L ++ [k])->w.grownBy w' v.ownBlock->(v.ownBlock=some g\/H<=g)->g<w'.heap.size ->
  wpList P ops Q rest (act.put o.dst (zK g off (L.length+1) cap)) w') :
 wpList P ops Q (o :: rest) act (w.alloc (.cells #[.int .i64 k] e)):=by
 subst hH
 refine QS ht hi hz vJ hby _ hgd s x ho v L hs (zy.below (zR _ _)) ⟨w.heap.size,0,none⟩ 1 c [k] rfl hx (fun j hj=>?_) (.inl (by omega)) (by omega) (by simp;omega) fun g off cap w' h1 h2 h3=>?_
 ·obtain rfl:j=0:=by simpa using hj
  simp[Addr.add_lit,go_sem]
 ·have hA:=World.grownBy_alloc w (.cells #[.int .i64 k] e) v.ownBlock
  refine h g off cap w' h1 ⟨h2.os.trans hA.os,h2.tape.trans hA.tape,h2.output.trans hA.output,Nat.le_trans hA.size h2.size,fun i hi hn=>(h2.block i (Nat.lt_of_lt_of_le hi hA.size) hn).trans (hA.block i hi hn)⟩ ?_ (h1.lt g rfl).2
  rcases h3 with h3 | h3
  ·exact .inl h3
  ·right;rw[h3];simp
def xl (w:World) (b:Nat) (xs:List Value):Prop :=
 ∃es clock,w.heap[b]?=some (.map es clock)/\es.size=xs.length/\∀i,(h:i<xs.length)->∃e,es[i]?=some e/\e.key=zI i/\e.val=xs[i]
theorem xl.lt {w:World} {b:Nat} {xs:List Value} (h:xl w b xs):b<w.heap.size:=by
 obtain⟨es,clock,hb,_⟩:=h
 exact(Array.getElem?_eq_some_iff.1 hb).1
theorem xl.kept {w w':World} {b:Nat} {xs:List Value} (h:xl w b xs) (hb:w'.heap[b]?=w.heap[b]?):xl w' b xs:=by
 obtain⟨es,clock,h0,r⟩:=h
 exact⟨es,clock,hb.trans h0,r⟩
theorem xl.below {w w':World} {b:Nat} {xs:List Value} (h:xl w b xs) (hb:zO w w'):xl w' b xs:=h.kept (hb.block b h.lt)
theorem xl.made (w:World):xl (w.alloc (.map #[] 0)) w.heap.size []:=⟨#[],0,Go.Deep.blk_alloc_new _ _,rfl,fun _ h=>absurd h yB⟩
theorem xl.keys {xs:List Value} {es:Array MapEntry} (hs:es.size=xs.length) (he:∀i,(h:i<xs.length)->∃e,es[i]?=some e/\e.key=zI i/\e.val=xs[i]):∀x∈es.toList,MapKept.IsKey (.int .i64) x.key:=by
 intro x hx
 obtain⟨i,hi,rfl⟩:=List.getElem_of_mem hx
 have hi':i<xs.length:=by rw[<-hs];simpa using hi
 obtain⟨e,h1,h2,_⟩:=he i hi'
 have K3:i<es.size:=by simpa using hi
 rw[Array.getElem?_eq_getElem K3] at h1
 have:es.toList[i]=e:=by simpa using h1
 rw[this,h2]
 rfl
theorem xl.found {xs:List Value} {es:Array MapEntry} (hs:es.size=xs.length) (he:∀i,(h:i<xs.length)->∃e,es[i]?=some e/\e.key=zI i/\e.val=xs[i]) {k:Nat} (hk:k<xs.length):Instr.findNow (.int .i64) (zI k) es.toList 0=some (some (k,xs[k])):=by
 rcases MapKept.findNow_spec (d:=.int .i64) (k:=zI k) rfl es.toList 0 (xl.keys hs he) with⟨_,h2⟩ | ⟨j,e,h1,h2,h3⟩
 ·obtain⟨e,q1,q2,_⟩:=he k hk
  exact absurd q2 (h2 e (by
   have:es.toList[k]?=some e:=by simpa using q1
   exact List.mem_of_getElem? this))
 ·have hj:j<xs.length:=by
   rw[<-hs]
   have:=(List.getElem?_eq_some_iff.1 h2).1
   simpa using this
  obtain⟨e',q1,q2,q3⟩:=he j hj
  have:es[j]?=some e:=by simpa using h2
  rw[q1] at this
  injection this with this
  subst this
  rw[q2] at h3
  injection h3 with _ h4
  have:j=k:=by exact_mod_cast h4
  subst this
  rw[h1,q3]
  simp
theorem xl.missed {xs:List Value} {es:Array MapEntry} (hs:es.size=xs.length) (he:∀i,(h:i<xs.length)->∃e,es[i]?=some e/\e.key=zI i/\e.val=xs[i]):Instr.findNow (.int .i64) (zI xs.length) es.toList 0=some none:=by
 rcases MapKept.findNow_spec (d:=.int .i64) (k:=zI xs.length) rfl es.toList 0 (xl.keys hs he) with⟨h1,_⟩ | ⟨j,e,h1,h2,h3⟩
 ·exact h1
 ·have hj:j<xs.length:=by
   rw[<-hs]
   have:=(List.getElem?_eq_some_iff.1 h2).1
   simpa using this
  obtain⟨e',q1,q2,q3⟩:=he j hj
  have:es[j]?=some e:=by simpa using h2
  rw[q1] at this
  injection this with this
  subst this
  rw[q2] at h3
  injection h3 with _ h4
  have:j=xs.length:=by exact_mod_cast h4
  omega
variable {P:Program} {t kt et:TypeId}
theorem xl.look {w:World} {b:Nat} {xs:List Value} (ht:P.underlying t=some (.map kt et)) (hk:P.underlying kt=some (.int .i64)) (h:xl w b xs) {k:Nat} (yz:k<xs.length) :
 (Instr.lookup t (.map (some b)) (zI k) false).run P w=.ok xs[k] w:=by
 obtain⟨es,clock,hb,hs,he⟩:=h
 have h1:=xl.found hs he yz
 simp[Instr.lookup,run_underlying ht,MapKept.run_getObj_map hb,MapKept.run_checkKey hk (show MapKept.IsKey (.int .i64) (zI (k:Int)) from rfl),MapKept.run_findKey hk h1,Result.andThen]
theorem xl.len {w:World} {b:Nat} {xs:List Value} (ht:P.underlying t=some (.map (P.mapKeyOf t) (P.mapElemOf t))) (h:xl w b xs) (ty:TypeId):(Builtin.len_ #[t] ty #[.map (some b)]).run P w=.ok (goInt xs.length) w:=by
 obtain⟨es,clock,hb,hs,_⟩:=h
 rw[run_len_map w t ty b es clock ht hb,hs]
theorem Q6 (w:World) (b:Nat) (o:Obj):w.grownBy {w with heap:=w.heap.setIfInBounds b o} (some b) :=
 ⟨rfl,rfl,rfl,by simp,fun k _ qF=>by
  have:k≠b:=fun e=>qF (by rw[e])
  simp[Ne.symm this]⟩
theorem xl.put {w:World} {b:Nat} {xs:List Value} (ht:P.underlying t=some (.map kt et)) (hk:P.underlying kt=some (.int .i64)) (h:xl w b xs) {k:Nat} (yz:k<xs.length) (v:Value) :
 ∃w',(Instr.mapUpdate t (.map (some b)) (zI k) v).run P w=.ok () w'/\xl w' b (xs.set k v)/\w.grownBy w' (some b):=by
 obtain⟨es,clock,hb,hs,he⟩:=h
 have h1:=xl.found hs he yz
 obtain⟨e0,q1,q2,q3⟩:=he k yz
 have hbl:=(Array.getElem?_eq_some_iff.1 hb).1
 refine⟨{w with heap:=w.heap.setIfInBounds b (.map (es.modify k fun e=>{e with key:=zI k,val:=v}) clock)},?_,?_,Q6 _ _ _⟩
 ·simp[Instr.mapUpdate,run_underlying ht,MapKept.run_getObj_map hb,MapKept.run_checkKey hk (show MapKept.IsKey (.int .i64) (zI (k:Int)) from rfl),MapKept.run_findKey hk h1,q1,q2,MapKept.run_keyThatStays (show MapKept.IsKey (.int .i64) (zI (k:Int)) from rfl),MapKept.run_setObj_map _ hb,Result.andThen]
 ·refine⟨es.modify k fun e=>{e with key:=zI k,val:=v},clock,by simp[hbl],by simp[hs],fun i hi=>?_⟩
  have hi':i<xs.length:=by simpa using hi
  obtain⟨e,p1,p2,p3⟩:=he i hi'
  by_cases e1:i=k
  ·subst e1
   refine⟨{e with key:=zI i,val:=v},by rw[Array.getElem?_modify];simp[p1],rfl,by simp⟩
  ·refine⟨e,by rw[Array.getElem?_modify];simp[Ne.symm e1,p1],p2,by rw[p3,List.getElem_set_ne (Ne.symm e1)]⟩
theorem xl.push {w:World} {b:Nat} {xs:List Value} (ht:P.underlying t=some (.map kt et)) (hk:P.underlying kt=some (.int .i64)) (h:xl w b xs) (v:Value) :
 ∃w',(Instr.mapUpdate t (.map (some b)) (zI xs.length) v).run P w=.ok () w'/\xl w' b (xs ++ [v])/\w.grownBy w' (some b):=by
 obtain⟨es,clock,hb,hs,he⟩:=h
 have h1:=xl.missed hs he
 have hbl:=(Array.getElem?_eq_some_iff.1 hb).1
 refine⟨{w with heap:=w.heap.setIfInBounds b (.map (es.push {key:=zI xs.length,val:=v,born:=clock}) (clock+1))},?_,?_,Q6 _ _ _⟩
 ·simp[Instr.mapUpdate,run_underlying ht,MapKept.run_getObj_map hb,MapKept.run_checkKey hk (show MapKept.IsKey (.int .i64) (zI (xs.length:Int)) from rfl),MapKept.run_findKey hk h1,MapKept.run_setObj_map _ hb,Result.andThen]
 ·refine⟨es.push {key:=zI xs.length,val:=v,born:=clock},clock+1,by simp[hbl],by simp[hs],fun i hi=>?_⟩
  have hi':i<xs.length+1:=by simpa using hi
  by_cases e1:i=xs.length
  ·subst e1
   refine⟨{key:=zI xs.length,val:=v,born:=clock},by rw[<-hs];simp,rfl,by simp⟩
  ·obtain⟨e,p1,p2,p3⟩:=he i (by omega)
   exact⟨e,by rw[Array.getElem?_push,if_neg (by omega)];exact p1,p2,by rw[p3,List.getElem_append_left (by omega)]⟩
end Go.Proofs.YtbjgjjkgfnfejaaGreatDoor
