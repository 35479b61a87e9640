/-
  Rows of numbers in memory of one's own: read, written, resliced, more behind them.
-/
import Derived.Deep.AppendLies
import Derived.BigQuiet
import Derived.Test.YtjbgpcileapogaaGreatRFT
namespace Go.Proofs.YtjbgpcileapogaaGreat
open Go.RowKit
def zO (B:Nat) (w:World) (v:Value) (xs:List Int):Prop :=
 (v=.slice none 0 0/\xs=[]) \/
 ∃(g off zp:Nat),v=.slice (some ⟨g,off,none⟩) xs.length zp/\B<=g/\g<w.heap.size/\xs.length<=zp/\zp<=maxLen /\
  (∀i,i<zp->(w.cell? ⟨g,off+i,none⟩).isSome=true/\w.frozen? ⟨g,off+i,none⟩=false) /\
  ∀i,(h:i<xs.length)->w.cell? ⟨g,off+i,none⟩=some (.int .i64 xs[i])
theorem zO.nil (B:Nat) (w:World):zO B w (.slice none 0 0) []:=.inl ⟨rfl,rfl⟩
theorem zO.form {B:Nat} {w:World} {v:Value} {xs:List Int} (h:zO B w v xs) (hx:0<xs.length):∃g off zp,v=.slice (some ⟨g,off,none⟩) xs.length zp/\B<=g/\g<w.heap.size:=by
 rcases h with⟨_,rfl⟩ | ⟨g,off,zp,hv,hB,hg,_⟩
 ·simp at hx
 ·exact⟨g,off,zp,hv,hB,hg⟩
theorem zO.slice {B:Nat} {w:World} {v:Value} {xs:List Int} (h:zO B w v xs):∃a zp,v=.slice a xs.length zp/\xs.length<=maxLen:=by
 rcases h with⟨rfl,rfl⟩ | ⟨g,off,zp,hv,hB,hg,hl,hc,_⟩
 ·exact⟨none,0,rfl,by simp⟩
 ·exact⟨_,zp,hv,by omega⟩
theorem zO.mono {B B':Nat} {w:World} {v:Value} {xs:List Int} (h:zO B w v xs) (hB:B'<=B):zO B' w v xs:=by
 rcases h with h | ⟨g,off,zp,hv,hg,r⟩
 ·exact .inl h
 ·exact .inr ⟨g,off,zp,hv,by omega,r⟩
theorem zO.lt {B:Nat} {w:World} {v:Value} {xs:List Int} (h:zO B w v xs):∀k,v.ownBlock=some k->B<=k/\k<w.heap.size:=by
 intro k hk
 rcases h with⟨rfl,_⟩ | ⟨g,off,zp,rfl,hB,hg,_⟩
 ·simp[Value.ownBlock] at hk
 ·simp[Value.ownBlock] at hk
  omega
theorem zO.kept {B:Nat} {w w':World} {v:Value} {xs:List Int} (h:zO B w v xs) (hsz:w.heap.size<=w'.heap.size) (hb:∀g,v.ownBlock=some g->w'.heap[g]?=w.heap[g]?):zO B w' v xs:=by
 rcases h with h | ⟨g,off,zp,rfl,hB,hg,hl,hc,hsp,hx⟩
 ·exact .inl h
 ·have hbk:=hb g rfl
  refine .inr ⟨g,off,zp,rfl,hB,by omega,hl,hc,fun i hi=>?_,fun i hi=>?_⟩
  ·rw[World.cell?_of_block (a:=⟨g,off+i,none⟩) hbk,World.frozen?_of_block (a:=⟨g,off+i,none⟩) hbk];exact hsp i hi
  ·rw[World.cell?_of_block (a:=⟨g,off+i,none⟩) hbk];exact hx i hi
theorem zO.below {B:Nat} {w w':World} {v:Value} {xs:List Int} (h:zO B w v xs) (hb:Below w.heap.size w w'):zO B w' v xs :=
 h.kept hb.size fun g hg=>hb.block g (h.lt g hg).2
theorem zO.set_other {B:Nat} {w:World} {v:Value} {xs:List Int} (h:zO B w v xs) {p:Addr} (u:Value) (hp:v.ownBlock≠some p.block):zO B (w.setCell p u) v xs :=
 h.kept (by simp[World.setCell]) fun g hg=>Below.heap_setCell _ _ _ _ (fun e=>hp (by rw[hg,e]))
theorem zO.cell {B:Nat} {w:World} {g off n zp:Nat} {xs:List Int} (h:zO B w (.slice (some ⟨g,off,none⟩) n zp) xs) {i:Nat} (hi:i<xs.length):w.cell? ⟨g,off+i,none⟩=some (.int .i64 xs[i])/\w.frozen? ⟨g,off+i,none⟩=false:=by
 rcases h with⟨h,_⟩ | ⟨g',off',cap',hv,_,_,hl,_,hsp,hx⟩
 ·cases h
 ·cases hv
  exact⟨hx i hi,(hsp i (by omega)).2⟩
theorem zO.set {B:Nat} {w:World} {g off n zp:Nat} {xs:List Int} (h:zO B w (.slice (some ⟨g,off,none⟩) n zp) xs) (i:Nat) (hi:i<xs.length) (x:Int) :
 zO B (w.setCell ⟨g,off+i,none⟩ (.int .i64 x)) (.slice (some ⟨g,off,none⟩) n zp) (xs.set i x):=by
 have hc:=(h.cell hi).1
 rcases h with⟨h,_⟩ | ⟨g',off',cap',hv,hB,hg,hl,hm,hsp,hx⟩
 ·cases h
 ·cases hv
  refine .inr ⟨g,off,zp,by simp,hB,by simp[World.setCell];exact hg,by simpa using hl,hm,fun j hj=>?_,fun j hj=>?_⟩
  ·rw[World.frozen?_setCell]
   refine⟨?_,(hsp j hj).2⟩
   by_cases e:j=i
   ·subst e;rw[World.cell?_setCell_same _ _ _ hc];rfl
   ·rw[World.cell?_setCell_other _ _ _ _ (fun q=>by have:=congrArg Addr.off q;simp at this;omega)];exact(hsp j hj).1
  ·rw[List.length_set] at hj
   by_cases e:j=i
   ·subst e;rw[World.cell?_setCell_same _ _ _ hc];simp
   ·rw[World.cell?_setCell_other _ _ _ _ (fun q=>by have:=congrArg Addr.off q;simp at this;omega),hx j hj]
    simp[Ne.symm e]
theorem xS (M:List Int):(M.map fun x=>Value.int .i64 x).length=M.length:=by simp
theorem XP {P:Program} {t ty e:TypeId} {i:TypeInfo} {B:Nat} (ht:P.underlying t=some (.slice e)) (hi:P.info? e=some i) (hz:i.zero=some (.int .i64 0)) (hs:i.size=1) (hby:i.bytes=8)
 {w:World} {v:Value} {L:List Int} (zx:zO B w v L) (ad:Addr) (m c:Nat) (M:List Int) (hm:M.length=m) (hnews:∀j,(h:j<M.length)->w.cell? (ad.add j)=some (.int .i64 M[j]))
 (hpos:0<m\/∃a n k,v=.slice (some a) n k) (hL:L.length+m<=1000000) (hB:B<=w.heap.size) :
 ∃g off zp w',(Builtin.append_ #[t,t] ty #[v,.slice (some ad) m c]).run P w=.ok (.slice (some ⟨g,off,none⟩) (L.length+m) zp) w' /\
  zO B w' (.slice (some ⟨g,off,none⟩) (L.length+m) zp) (L ++ M)/\w.grownBy w' v.ownBlock/\(v.ownBlock=some g\/g=w.heap.size):=by
 have hnews':∀j u,(M.map fun x=>Value.int .i64 x)[j]?=some u->w.cell? (ad.add j)=some u:=by
  intro j u hu
  rw[List.getElem?_map] at hu
  by_cases hj:j<M.length
  ·rw[List.getElem?_eq_getElem hj] at hu
   rw[hnews j hj]
   simpa using hu
  ·rw[List.getElem?_eq_none (by omega)] at hu;simp at hu
 have h1:∀u∈(M.map fun x=>Value.int .i64 x),u.oneCell'=true:=by
  intro u hu
  simp at hu
  obtain⟨x,_,rfl⟩:=hu
  rfl
 have uD:∀(xs:List Int) (k:Nat) (W:World) (q:Nat),W.heap.size=w.heap.size->xs.length=q->q<=k->k<=maxLen ->
  zO B (W.alloc (.cells ((xs.map fun x=>Value.int .i64 x).toArray ++ Builtin.zeroCells (Value.int .i64 0).cells (k - q)) e)) (.slice (some ⟨w.heap.size,0,none⟩) q k) xs:=by
  intro xs k W q hW hq hqk hk
  subst hq
  have hsz0:(Builtin.zeroCells (Value.int .i64 0).cells (k - xs.length)).size=k - xs.length:=by
   simp[Builtin.zeroCells,Value.cells]
  have hblk:(W.alloc (.cells ((xs.map fun x=>Value.int .i64 x).toArray ++ Builtin.zeroCells (Value.int .i64 0).cells (k - xs.length)) e)).heap[w.heap.size]?=some (.cells ((xs.map fun x=>Value.int .i64 x).toArray ++ Builtin.zeroCells (Value.int .i64 0).cells (k - xs.length)) e):=by
   rw[<-hW];exact Go.Deep.blk_alloc_new _ _
  refine .inr ⟨w.heap.size,0,k,rfl,hB,by simp[hW],hqk,hk,fun j hj=>?_,fun j hj=>?_⟩
  ·refine⟨?_,?_⟩
   ·rw[Nat.zero_add,cell_of_row _ _ _ _ _ _ hblk]
    rw[Array.getElem?_eq_getElem (by simp[hsz0];omega)];rfl
   ·simp[World.frozen?,hblk]
  ·rw[Nat.zero_add,cell_of_row _ _ _ _ _ _ hblk]
   simp[Array.getElem?_append,hj]
 rcases zx with⟨rfl,rfl⟩ | ⟨g,off,zp,rfl,hBg,hg,hl,hmx,hsp,hx⟩
 ·have hm0:0<m:=by
   rcases hpos with h | ⟨_,_,_,h⟩
   ·exact h
   ·cases h
  have hr:=run_append_nil (P:=P) w t ty e i _ ht hi hz ad m c _ (by simp[hs,hm]) hnews' hm0 (by simp at hL;omega) (by simp at hL;rw[hby];omega)
  refine⟨w.heap.size,0,grownCap w m 0 e,_,by simpa using hr,?_,?_,.inr rfl⟩
  ·have:=uD M (grownCap w m 0 e) w.drew m rfl hm (grownCap_ge _ _ _ _) (grownCap_le_maxLen _ _ _ _ (by simp at hL;unfold maxLen;omega))
   simpa using this
  ·exact⟨rfl,rfl,rfl,Nat.le_of_lt (by rw[World.size_alloc];exact Nat.lt_succ_self _),fun k hk _=>Below.heap_alloc w.drew _ k hk⟩
 ·by_cases hroom:L.length+m<=zp
  ·have hc:∀j,j<(M.map fun x=>Value.int .i64 x).length->(w.cell? ⟨g,off+L.length * i.size+j,none⟩).isSome=true:=fun j hj=>by
    rw[xS] at hj
    have:=(hsp (L.length+j) (by omega)).1
    rwa [hs,Nat.mul_one,Nat.add_assoc]
   have hf:∀j,j<(M.map fun x=>Value.int .i64 x).length->w.frozen? ⟨g,off+L.length * i.size+j,none⟩=false:=fun j hj=>by
    rw[xS] at hj
    have:=(hsp (L.length+j) (by omega)).2
    rwa [hs,Nat.mul_one,Nat.add_assoc]
   have hr:=run_append_room_cells (P:=P) w t ty e i ht hi g off L.length zp ad m c _ (by simp[hs,hm]) hnews' h1 hroom hc hf
   rw[hs,Nat.mul_one] at hr hc
   have zcc:(w.setCells g (off+L.length) (M.map fun x=>Value.int .i64 x)).heap.size=w.heap.size:=by
    have key:∀(vs:List Value) (o:Nat) (W:World),(W.setCells g o vs).heap.size=W.heap.size:=by
     intro vs
     induction vs with
     | nil=>intro o W;rfl
     | cons v r ih=>intro o W;rw[World.setCells,ih];simp[World.setCell]
    exact key _ _ _
   have hoth:∀k,k≠g->(w.setCells g (off+L.length) (M.map fun x=>Value.int .i64 x)).heap[k]?=w.heap[k]?:=by
    have key:∀(vs:List Value) (o:Nat) (W:World) (k:Nat),k≠g->(W.setCells g o vs).heap[k]?=W.heap[k]?:=by
     intro vs
     induction vs with
     | nil=>intro o W k _;rfl
     | cons v r ih=>intro o W k hk;rw[World.setCells,ih _ _ _ hk];exact Below.heap_setCell _ _ _ _ hk
    exact key _ _ _
   have hwt:(w.setCells g (off+L.length) (M.map fun x=>Value.int .i64 x)).os=w.os/\(w.setCells g (off+L.length) (M.map fun x=>Value.int .i64 x)).tape=w.tape/\(w.setCells g (off+L.length) (M.map fun x=>Value.int .i64 x)).output=w.output:=by
    have key:∀(vs:List Value) (o:Nat) (W:World),(W.setCells g o vs).os=W.os/\(W.setCells g o vs).tape=W.tape/\(W.setCells g o vs).output=W.output:=by
     intro vs
     induction vs with
     | nil=>intro o W;exact⟨rfl,rfl,rfl⟩
     | cons v r ih=>intro o W;rw[World.setCells];exact ih _ _
    exact key _ _ _
   refine⟨g,off,zp,_,hr,.inr ⟨g,off,zp,by simp[hm],hBg,by rw[zcc];exact hg,by simp[hm];omega,hmx,fun j hj=>?_,fun j hj=>?_⟩,⟨hwt.1,hwt.2.1,hwt.2.2,by rw[zcc];exact Nat.le_refl _,fun k _ hk=>hoth k (fun e=>hk (by rw[e];rfl))⟩,.inl rfl⟩
   ·rw[World.frozen?_setCells]
    refine⟨?_,(hsp j hj).2⟩
    by_cases hin:L.length<=j/\j<L.length+M.length
    ·have:=World.cell?_setCells_in g (M.map fun x=>Value.int .i64 x) (off+L.length) w hc (j - L.length) (by simp;omega)
     rw[show off+L.length+(j - L.length)=off+j by omega] at this
     rw[this];rfl
    ·rw[World.cell?_setCells_out g _ _ _ _ (fun _ _=>by simp;omega)]
     exact(hsp j hj).1
   ·rw[List.length_append] at hj
    by_cases hin:j<L.length
    ·rw[World.cell?_setCells_out g _ _ _ _ (fun _ _=>by simp;omega),hx j hin]
     simp[hin]
    ·have:=World.cell?_setCells_in g (M.map fun x=>Value.int .i64 x) (off+L.length) w hc (j - L.length) (by simp;omega)
     rw[show off+L.length+(j - L.length)=off+j by omega] at this
     rw[this]
     simp[List.getElem_append,hin]
  ·have hr:=run_append_grow (P:=P) w t ty e i _ ht hi hz ⟨g,off,none⟩ L.length zp (L.map fun x=>Value.int .i64 x) (by simp[hs]) (fun j u hu=>by
    rw[List.getElem?_map] at hu
    by_cases hj:j<L.length
    ·rw[List.getElem?_eq_getElem hj] at hu
     rw[Addr.add_lit,hx j hj]
     simpa using hu
    ·rw[List.getElem?_eq_none (by omega)] at hu;simp at hu)
    ad m c _ (by simp[hs,hm]) hnews' (by omega) (by omega) (growslice_fits (by omega) (by rw[hby];omega))
   refine⟨w.heap.size,0,grownCap w (L.length+m) zp e,_,hr,?_,?_,.inr rfl⟩
   ·have:=uD (L ++ M) (grownCap w (L.length+m) zp e) w.drew (L.length+m) rfl (by simp[hm]) (grownCap_ge _ _ _ _) (grownCap_le_maxLen _ _ _ _ (by unfold maxLen;omega))
    simpa using this
   ·exact⟨rfl,rfl,rfl,Nat.le_of_lt (by rw[World.size_alloc];exact Nat.lt_succ_self _),fun k hk _=>Below.heap_alloc w.drew _ k hk⟩
theorem V7 {P:Program} {t e:TypeId} {i:TypeInfo} {B:Nat} (ht:P.underlying t=some (.slice e)) (hi:P.info? e=some i) (hz:i.zero=some (.int .i64 0)) (hsz:i.size=1) (hby:i.bytes=8)
 {ops:Array Oper} {rest:List Oper} {o:Oper} {act:Act} {Q:Exit->Act->World->Prop} (w:World) (hgd:o.guard=none) (s x:Operand)
 (ho:o.op=.call {callee:=.builtin .append,args:=#[s,x],argTypes:=#[t,t]}) (v:Value) (L:List Int) (hs:act.eval s=v) (zx:zO B w v L) (ad:Addr) (m c:Nat) (M:List Int) (hm:M.length=m)
 (hx:act.eval x=.slice (some ad) m c) (hnews:∀j,(h:j<M.length)->w.cell? (ad.add j)=some (.int .i64 M[j])) (hpos:0<m\/∃a n k,v=.slice (some a) n k) (hL:L.length+m<=1000000) (hB:B<=w.heap.size)
 (h:∀g off zp w',zO B w' (.slice (some ⟨g,off,none⟩) (L.length+m) zp) (L ++ M)->w.grownBy w' v.ownBlock->(v.ownBlock=some g\/g=w.heap.size) ->
  wpList P ops Q rest (act.put o.dst (.slice (some ⟨g,off,none⟩) (L.length+m) zp)) w') :
 wpList P ops Q (o :: rest) act w:=by
 obtain⟨g,off,zp,w',hr,h2,h3,h4⟩:=XP (P:=P) (ty:=o.type) ht hi hz hsz hby zx ad m c M hm hnews hpos hL hB
 refine wpList_plain hgd fun K hK=>?_
 unfold Oper.wp execOp
 simp only[ho,resolve,invoke,builtin,Sem.run_bind,Sem.run_pure,Result.andThen_ok,List.map_toArray,List.map_cons,List.map_nil,hs,hx,hr]
 exact hK _ _ (h g off zp w' h2 h3 h4)
theorem Jc {P:Program} {t e:TypeId} {i:TypeInfo} {B:Nat} (ht:P.underlying t=some (.slice e)) (hi:P.info? e=some i) (hz:i.zero=some (.int .i64 0)) (hsz:i.size=1) (hby:i.bytes=8)
 {ops:Array Oper} {rest:List Oper} {o:Oper} {act:Act} {Q:Exit->Act->World->Prop} (w:World) (hgd:o.guard=none) (s x:Operand)
 (ho:o.op=.call {callee:=.builtin .append,args:=#[s,x],argTypes:=#[t,t]}) (v:Value) (L:List Int) (hs:act.eval s=v) (zx:zO B w v L) (k:Int) (H c:Nat) (hH:w.heap.size=H)
 (hx:act.eval x=.slice (some ⟨H,0,none⟩) 1 c) (hL:L.length<=900000) (hB:B<=H)
 (h:∀g off zp w',zO B w' (.slice (some ⟨g,off,none⟩) (L.length+1) zp) (L ++ [k])->w.grownBy w' v.ownBlock->(v.ownBlock=some g\/H<=g)->g<w'.heap.size ->
  wpList P ops Q rest (act.put o.dst (.slice (some ⟨g,off,none⟩) (L.length+1) zp)) w') :
 wpList P ops Q (o :: rest) act (w.alloc (.cells #[.int .i64 k] e)):=by
 subst hH
 refine V7 ht hi hz hsz hby _ hgd s x ho v L hs (zx.below (zB _ _)) ⟨w.heap.size,0,none⟩ 1 c [k] rfl hx (fun j hj=>?_) (.inl (by omega)) (by omega) (by simp;omega) fun g off zp w' h1 h2 h3=>?_
 ·obtain rfl:j=0:=by simpa using hj
  simp[Addr.add_lit,go_sem]
 ·have hA:=World.grownBy_alloc w (.cells #[.int .i64 k] e) v.ownBlock
  refine h g off zp w' h1 ⟨h2.os.trans hA.os,h2.tape.trans hA.tape,h2.output.trans hA.output,Nat.le_trans hA.size h2.size,fun i hi hn=>(h2.block i (Nat.lt_of_lt_of_le hi hA.size) hn).trans (hA.block i hi hn)⟩ ?_ (h1.lt g rfl).2
  rcases h3 with h3 | h3
  ·exact .inl h3
  ·right;rw[h3];simp
def zj (B:Nat) (w:World) (v:Value) (ops:zL):Prop :=
 (v=.slice none 0 0/\ops=[]) \/
 ∃(g off zp:Nat),v=.slice (some ⟨g,off,none⟩) ops.length zp/\B<=g/\g<w.heap.size/\ops.length<=zp/\zp<=maxLen /\
  (∀i,i<zp * 2->(w.cell? ⟨g,off+i,none⟩).isSome=true/\w.frozen? ⟨g,off+i,none⟩=false) /\
  ∀i,(h:i<ops.length)->w.cell? ⟨g,off+i * 2,none⟩=some (.int .i64 ops[i].1)/\w.cell? ⟨g,off+i * 2+1,none⟩=some (.int .i64 ops[i].2)
theorem zj.nil (B:Nat) (w:World):zj B w (.slice none 0 0) []:=.inl ⟨rfl,rfl⟩
theorem zj.form {B:Nat} {w:World} {v:Value} {xs:zL} (h:zj B w v xs) (hx:0<xs.length):∃g off zp,v=.slice (some ⟨g,off,none⟩) xs.length zp/\B<=g/\g<w.heap.size:=by
 rcases h with⟨_,rfl⟩ | ⟨g,off,zp,hv,hB,hg,_⟩
 ·simp at hx
 ·exact⟨g,off,zp,hv,hB,hg⟩
theorem zj.slice {B:Nat} {w:World} {v:Value} {xs:zL} (h:zj B w v xs):∃a zp,v=.slice a xs.length zp/\xs.length<=maxLen:=by
 rcases h with⟨rfl,rfl⟩ | ⟨g,off,zp,hv,hB,hg,hl,hc,_⟩
 ·exact⟨none,0,rfl,by simp⟩
 ·exact⟨_,zp,hv,by omega⟩
theorem zj.at {B:Nat} {w:World} {v:Value} {xs:zL} (h:zj B w v xs):zR w v xs:=by
 rcases h with⟨rfl,rfl⟩ | ⟨g,off,zp,rfl,hB,hg,hl,hc,hsp,hx⟩
 ·exact⟨none,0,rfl,Nat.zero_le _,fun i hi=>absurd hi zF⟩
 ·exact⟨_,zp,rfl,by omega,fun i hi=>⟨g,off,rfl,(hx i hi).1,(hx i hi).2⟩⟩
theorem zj.mono {B B':Nat} {w:World} {v:Value} {xs:zL} (h:zj B w v xs) (hB:B'<=B):zj B' w v xs:=by
 rcases h with h | ⟨g,off,zp,hv,hg,r⟩
 ·exact .inl h
 ·exact .inr ⟨g,off,zp,hv,by omega,r⟩
theorem zj.lt {B:Nat} {w:World} {v:Value} {xs:zL} (h:zj B w v xs):∀k,v.ownBlock=some k->B<=k/\k<w.heap.size:=by
 intro k hk
 rcases h with⟨rfl,_⟩ | ⟨g,off,zp,rfl,hB,hg,_⟩
 ·simp[Value.ownBlock] at hk
 ·simp[Value.ownBlock] at hk
  omega
theorem zj.kept {B:Nat} {w w':World} {v:Value} {xs:zL} (h:zj B w v xs) (hsz:w.heap.size<=w'.heap.size) (hb:∀g,v.ownBlock=some g->w'.heap[g]?=w.heap[g]?):zj B w' v xs:=by
 rcases h with h | ⟨g,off,zp,rfl,hB,hg,hl,hc,hsp,hx⟩
 ·exact .inl h
 ·have hbk:=hb g rfl
  refine .inr ⟨g,off,zp,rfl,hB,by omega,hl,hc,fun i hi=>?_,fun i hi=>?_⟩
  ·rw[World.cell?_of_block (a:=⟨g,off+i,none⟩) hbk,World.frozen?_of_block (a:=⟨g,off+i,none⟩) hbk];exact hsp i hi
  ·rw[World.cell?_of_block (a:=⟨g,off+i * 2,none⟩) hbk,World.cell?_of_block (a:=⟨g,off+i * 2+1,none⟩) hbk];exact hx i hi
theorem zj.below {B:Nat} {w w':World} {v:Value} {xs:zL} (h:zj B w v xs) (hb:Below w.heap.size w w'):zj B w' v xs :=
 h.kept hb.size fun g hg=>hb.block g (h.lt g hg).2
theorem zj.set_other {B:Nat} {w:World} {v:Value} {xs:zL} (h:zj B w v xs) {p:Addr} (u:Value) (hp:v.ownBlock≠some p.block):zj B (w.setCell p u) v xs :=
 h.kept (by simp[World.setCell]) fun g hg=>Below.heap_setCell _ _ _ _ (fun e=>hp (by rw[hg,e]))
theorem zj.cell {B:Nat} {w:World} {g off n zp:Nat} {xs:zL} (h:zj B w (.slice (some ⟨g,off,none⟩) n zp) xs) {i:Nat} (hi:i<xs.length) :
 (w.cell? ⟨g,off+i * 2,none⟩=some (.int .i64 xs[i].1)/\w.cell? ⟨g,off+i * 2+1,none⟩=some (.int .i64 xs[i].2))/\w.frozen? ⟨g,off+i * 2,none⟩=false/\w.frozen? ⟨g,off+i * 2+1,none⟩=false:=by
 rcases h with⟨h,_⟩ | ⟨g',off',cap',hv,_,_,hl,_,hsp,hx⟩
 ·cases h
 ·cases hv
  refine⟨hx i hi,(hsp (i * 2) (by omega)).2,?_⟩
  have:=(hsp (i * 2+1) (by omega)).2
  rwa [<-Nat.add_assoc] at this
theorem zj.set {B:Nat} {w:World} {g off n zp:Nat} {xs:zL} (h:zj B w (.slice (some ⟨g,off,none⟩) n zp) xs) (i:Nat) (hi:i<xs.length) (x y:Int) :
 zj B ((w.setCell ⟨g,off+i * 2,none⟩ (.int .i64 x)).setCell ⟨g,off+i * 2+1,none⟩ (.int .i64 y)) (.slice (some ⟨g,off,none⟩) n zp) (xs.set i (x,y)):=by
 obtain⟨⟨hc,hd⟩,_⟩:=h.cell hi
 rcases h with⟨h,_⟩ | ⟨g',off',cap',hv,hB,hg,hl,hm,hsp,hx⟩
 ·cases h
 ·cases hv
  have hd':(w.setCell ⟨g,off+i * 2,none⟩ (.int .i64 x)).cell? ⟨g,off+i * 2+1,none⟩=some (.int .i64 xs[i].2):=by
   rw[World.cell?_setCell_other _ _ _ _ (fun q=>by have:=congrArg Addr.off q;simp at this)];exact hd
  refine .inr ⟨g,off,zp,by simp,hB,by simp[World.setCell];exact hg,by simpa using hl,hm,fun j hj=>?_,fun j hj=>?_⟩
  ·rw[World.frozen?_setCell,World.frozen?_setCell]
   refine⟨?_,(hsp j hj).2⟩
   by_cases e:j=i * 2+1
   ·subst e;rw[show off+(i * 2+1)=off+i * 2+1 by omega,World.cell?_setCell_same _ _ _ hd'];rfl
   ·rw[World.cell?_setCell_other _ _ _ _ (fun q=>by have:=congrArg Addr.off q;simp at this;omega)]
    by_cases e2:j=i * 2
    ·subst e2;rw[World.cell?_setCell_same _ _ _ hc];rfl
    ·rw[World.cell?_setCell_other _ _ _ _ (fun q=>by have:=congrArg Addr.off q;simp at this;omega)];exact(hsp j hj).1
  ·rw[List.length_set] at hj
   by_cases e:j=i
   ·subst e
    refine⟨?_,?_⟩
    ·rw[World.cell?_setCell_other _ _ _ _ (fun q=>by have:=congrArg Addr.off q;simp at this),World.cell?_setCell_same _ _ _ hc];simp
    ·rw[World.cell?_setCell_same _ _ _ hd'];simp
   ·have h1:∀u v:Value,((w.setCell ⟨g,off+i * 2,none⟩ u).setCell ⟨g,off+i * 2+1,none⟩ v).cell? ⟨g,off+j * 2,none⟩=w.cell? ⟨g,off+j * 2,none⟩:=fun u v=>by
     rw[World.cell?_setCell_other _ _ _ _ (fun q=>by have:=congrArg Addr.off q;simp at this;omega),World.cell?_setCell_other _ _ _ _ (fun q=>by have:=congrArg Addr.off q;simp at this;omega)]
    have h2:∀u v:Value,((w.setCell ⟨g,off+i * 2,none⟩ u).setCell ⟨g,off+i * 2+1,none⟩ v).cell? ⟨g,off+j * 2+1,none⟩=w.cell? ⟨g,off+j * 2+1,none⟩:=fun u v=>by
     rw[World.cell?_setCell_other _ _ _ _ (fun q=>by have:=congrArg Addr.off q;simp at this;omega),World.cell?_setCell_other _ _ _ _ (fun q=>by have:=congrArg Addr.off q;simp at this;omega)]
    rw[h1,h2,List.getElem_set_ne (Ne.symm e)]
    exact hx j hj
structure Wr (T:Nat->Prop) (w w':World):Prop where
 os:w'.os=w.os
 tape:w'.tape=w.tape
 output:w'.output=w.output
 size:w.heap.size<=w'.heap.size
 block:∀k,k<w.heap.size->¬T k->w'.heap[k]?=w.heap[k]?
 fr:∀p:Addr,p.block<w.heap.size->w'.frozen? p=w.frozen? p
theorem Wr.refl (T:Nat->Prop) (w:World):Wr T w w:=⟨rfl,rfl,rfl,Nat.le_refl _,fun _ _ _=>rfl,fun _ _=>rfl⟩
theorem Wr.set {T:Nat->Prop} {w w':World} (h:Wr T w w') {p:Addr} (hp:T p.block) (u:Value):Wr T w (w'.setCell p u) :=
 ⟨h.os,h.tape,h.output,by simp[World.setCell];exact h.size,fun k hk hT=>(Below.heap_setCell _ _ _ _ (fun e=>hT (by rw[e];exact hp))).trans (h.block k hk hT),fun q hq=>by rw[World.frozen?_setCell];exact h.fr q hq⟩
theorem Wr.trans {T:Nat->Prop} {a b c:World} (h:Wr T a b) (k:Wr T b c):Wr T a c :=
 ⟨k.os.trans h.os,k.tape.trans h.tape,k.output.trans h.output,Nat.le_trans h.size k.size,fun q hq hT=>(k.block q (Nat.lt_of_lt_of_le hq h.size) hT).trans (h.block q hq hT),fun p hp=>(k.fr p (Nat.lt_of_lt_of_le hp h.size)).trans (h.fr p hp)⟩
theorem Wr.mono {T T':Nat->Prop} {a b:World} (h:Wr T a b) (hT:∀k,T k->T' k):Wr T' a b :=
 ⟨h.os,h.tape,h.output,h.size,fun q hq hn=>h.block q hq (fun t=>hn (hT q t)),h.fr⟩
theorem Wr.cell {T:Nat->Prop} {a b:World} (h:Wr T a b) {p:Addr} {v:Value} (hc:a.cell? p=some v) (hp:¬T p.block):b.cell? p=some v:=by
 rw[World.cell?_of_block (a:=p) (h.block _ (World.block_lt_of_cell? _ _ hc) hp)];exact hc
theorem Wr.pair {T:Nat->Prop} {B:Nat} {a b:World} {v:Value} {xs:zL} (h:Wr T a b) (hr:zj B a v xs) (hT:∀g,v.ownBlock=some g->¬T g):zj B b v xs :=
 hr.kept h.size fun g hg=>h.block g (hr.lt g hg).2 (hT g hg)
theorem Wr.below {T:Nat->Prop} {B:Nat} {w0 a b:World} (h:Wr T a b) (hb:Below B w0 a) (h0:B<=w0.heap.size) (hT:∀k,T k->B<=k):Below B w0 b :=
 ⟨h.os.trans hb.os,h.tape.trans hb.tape,h.output.trans hb.output,Nat.le_trans hb.size h.size,fun k hk=>(h.block k (by have:=hb.size;omega) (fun t=>by have:=hT k t;omega)).trans (hb.block k hk)⟩
def Zv (V:Nat->Value × Value) (q:Nat):Value:=if q % 2=0 then(V (q / 2)).1 else(V (q / 2)).2
theorem vz (V:Nat->Value × Value) (i:Nat):Zv V (i * 2)=(V i).1:=by
 unfold Zv
 rw[if_pos (by omega),show i * 2 / 2=i by omega]
theorem vg (V:Nat->Value × Value) (i:Nat):Zv V (i * 2+1)=(V i).2:=by
 unfold Zv
 rw[if_neg (by omega),show(i * 2+1) / 2=i by omega]
structure yu (B:Nat) (w:World) (v:Value) (cs:List Cl) (V:Nat->Value × Value):Prop where
 row:(v=.slice none 0 0/\cs=[])\/∃(g off zp:Nat),v=.slice (some ⟨g,off,none⟩) cs.length zp/\B<=g/\g<w.heap.size/\cs.length<=zp/\zp<=maxLen /\
  (∀i,i<zp * 6->(w.cell? ⟨g,off+i,none⟩).isSome=true/\w.frozen? ⟨g,off+i,none⟩=false) /\
  ∀i,(h:i<cs.length)->w.cell? ⟨g,off+i * 6,none⟩=some (.int .i64 cs[i].m)/\w.cell? ⟨g,off+i * 6+1,none⟩=some (.int .i64 cs[i].pc)/\w.cell? ⟨g,off+i * 6+2,none⟩=some (V i).1 /\
   w.cell? ⟨g,off+i * 6+3,none⟩=some (V i).2/\w.cell? ⟨g,off+i * 6+4,none⟩=some (.int .i64 cs[i].zf)/\w.cell? ⟨g,off+i * 6+5,none⟩=some (.bool cs[i].zv)
 lists:∀i,(h:i<cs.length)->zj B w (V i).1 cs[i].zg/\zj B w (V i).2 cs[i].ze
 apart:∀q,q<cs.length * 2->∀g,(Zv V q).ownBlock=some g->v.ownBlock≠some g/\∀q',q'<cs.length * 2->q'≠q->(Zv V q').ownBlock≠some g
def yE (v:Value) (n:Nat) (V:Nat->Value × Value) (g:Nat):Prop:=v.ownBlock=some g\/∃q,q<n * 2/\(Zv V q).ownBlock=some g
theorem yu.shape {B:Nat} {w:World} {v:Value} {cs:List Cl} {V:Nat->Value × Value} (h:yu B w v cs V):∃a zp,v=.slice a cs.length zp/\cs.length<=maxLen:=by
 rcases h.row with⟨rfl,rfl⟩ | ⟨g,off,zp,hv,hB,hg,hl,hc,_⟩
 ·exact⟨none,0,rfl,by simp⟩
 ·exact⟨_,zp,hv,by omega⟩
theorem yu.form {B:Nat} {w:World} {v:Value} {cs:List Cl} {V:Nat->Value × Value} (h:yu B w v cs V) (hx:0<cs.length):∃g off zp,v=.slice (some ⟨g,off,none⟩) cs.length zp/\B<=g/\g<w.heap.size:=by
 rcases h.row with⟨_,rfl⟩ | ⟨g,off,zp,hv,hB,hg,_⟩
 ·simp at hx
 ·exact⟨g,off,zp,hv,hB,hg⟩
theorem yu.at {B:Nat} {w:World} {v:Value} {cs:List Cl} {V:Nat->Value × Value} (h:yu B w v cs V):qo w v cs:=by
 rcases h.row with⟨rfl,rfl⟩ | ⟨g,off,zp,rfl,hB,hg,hl,hc,hsp,hx⟩
 ·exact qo.nil w
 ·refine⟨_,zp,rfl,by omega,fun i hi=>?_⟩
  obtain⟨c0,c1,c2,c3,c4,c5⟩:=hx i hi
  exact⟨g,off,_,_,rfl,c0,c1,c2,c3,c4,c5,(h.lists i hi).1.at,(h.lists i hi).2.at⟩
theorem yu.lt {B:Nat} {w:World} {v:Value} {cs:List Cl} {V:Nat->Value × Value} (h:yu B w v cs V) {g:Nat} (hg:yE v cs.length V g):B<=g/\g<w.heap.size:=by
 rcases hg with hg | ⟨q,hq,hg⟩
 ·rcases h.row with⟨rfl,_⟩ | ⟨g',off,zp,rfl,hB,hg',_⟩
  ·simp[Value.ownBlock] at hg
  ·simp[Value.ownBlock] at hg
   omega
 ·have hi:q / 2<cs.length:=by omega
  rcases Nat.mod_two_eq_zero_or_one q with hm | hm
  ·rw[show q=q / 2 * 2 by omega,vz] at hg
   exact(h.lists _ hi).1.lt g hg
  ·rw[show q=q / 2 * 2+1 by omega,vg] at hg
   exact(h.lists _ hi).2.lt g hg
theorem yu.kept {B:Nat} {w w':World} {v:Value} {cs:List Cl} {V:Nat->Value × Value} (h:yu B w v cs V) (hsz:w.heap.size<=w'.heap.size) (hb:∀g,yE v cs.length V g->w'.heap[g]?=w.heap[g]?):yu B w' v cs V:=by
 refine⟨?_,fun i hi=>?_,h.apart⟩
 ·rcases h.row with hn | ⟨g,off,zp,rfl,hB,hg,hl,hc,hsp,hx⟩
  ·exact .inl hn
  ·have hbk:=hb g (.inl rfl)
   have hc':∀o,w'.cell? ⟨g,o,none⟩=w.cell? ⟨g,o,none⟩:=fun o=>World.cell?_of_block (a:=⟨g,o,none⟩) hbk
   have hf':∀o,w'.frozen? ⟨g,o,none⟩=w.frozen? ⟨g,o,none⟩:=fun o=>World.frozen?_of_block (a:=⟨g,o,none⟩) hbk
   refine .inr ⟨g,off,zp,rfl,hB,by omega,hl,hc,fun i hi=>?_,fun i hi=>?_⟩
   ·rw[hc',hf'];exact hsp i hi
   ·rw[hc',hc',hc',hc',hc',hc'];exact hx i hi
 ·refine⟨(h.lists i hi).1.kept hsz fun g hg=>hb g (.inr ⟨i * 2,by omega,by rw[vz];exact hg⟩),(h.lists i hi).2.kept hsz fun g hg=>hb g (.inr ⟨i * 2+1,by omega,by rw[vg];exact hg⟩)⟩
theorem yu.below {B:Nat} {w w':World} {v:Value} {cs:List Cl} {V:Nat->Value × Value} (h:yu B w v cs V) (hb:Below w.heap.size w w'):yu B w' v cs V :=
 h.kept hb.size fun _ hg=>hb.block _ (h.lt hg).2
structure yJ (B:Nat) (w:World) (vc vs:Value) (h:Hp) (V:Nat->Value × Value):Prop where
 c:yu B w vc h.za V
 s:zj B w vs h.zl
 apart:∀g,vs.ownBlock=some g->¬yE vc h.za.length V g
def kC (vc vs:Value) (n:Nat) (V:Nat->Value × Value) (g:Nat):Prop:=vs.ownBlock=some g\/yE vc n V g
theorem yJ.at {B:Nat} {w:World} {vc vs:Value} {h:Hp} {V:Nat->Value × Value} (k:yJ B w vc vs h V):qa w vc vs h:=⟨k.c.at,k.s.at⟩
theorem yJ.lt {B:Nat} {w:World} {vc vs:Value} {h:Hp} {V:Nat->Value × Value} (k:yJ B w vc vs h V) {g:Nat} (hg:kC vc vs h.za.length V g):B<=g/\g<w.heap.size:=by
 rcases hg with hg | hg
 ·exact k.s.lt g hg
 ·exact k.c.lt hg
theorem yJ.kept {B:Nat} {w w':World} {vc vs:Value} {h:Hp} {V:Nat->Value × Value} (k:yJ B w vc vs h V) (hsz:w.heap.size<=w'.heap.size) (hb:∀g,kC vc vs h.za.length V g->w'.heap[g]?=w.heap[g]?):yJ B w' vc vs h V :=
 ⟨k.c.kept hsz fun g hg=>hb g (.inr hg),k.s.kept hsz fun g hg=>hb g (.inl hg),k.apart⟩
theorem yJ.below {B:Nat} {w w':World} {vc vs:Value} {h:Hp} {V:Nat->Value × Value} (k:yJ B w vc vs h V) (hb:Below w.heap.size w w'):yJ B w' vc vs h V :=
 k.kept hb.size fun _ hg=>hb.block _ (k.lt hg).2
theorem vG {P:Program} {t ty e:TypeId} {i:TypeInfo} {B:Nat} (ht:P.underlying t=some (.slice e)) (hi:P.info? e=some i) (hz:i.zero=some (.int .i64 0)) (hs:i.size=1) (hby:i.bytes=8)
 {w:World} {v:Value} {L:List Int} (zx:zO B w v L) (ad:Addr) (m c:Nat) (M:List Int) (hm:M.length=m) (hnews:∀j,(h:j<M.length)->w.cell? (ad.add j)=some (.int .i64 M[j]))
 (hpos:0<m\/∃a n k,v=.slice (some a) n k) (hL:L.length+m<=3000000) (hB:B<=w.heap.size) :
 ∃g off zp w',(Builtin.append_ #[t,t] ty #[v,.slice (some ad) m c]).run P w=.ok (.slice (some ⟨g,off,none⟩) (L.length+m) zp) w' /\
  zO B w' (.slice (some ⟨g,off,none⟩) (L.length+m) zp) (L ++ M)/\w.grownBy w' v.ownBlock/\(v.ownBlock=some g\/g=w.heap.size):=by
 have hnews':∀j u,(M.map fun x=>Value.int .i64 x)[j]?=some u->w.cell? (ad.add j)=some u:=by
  intro j u hu
  rw[List.getElem?_map] at hu
  by_cases hj:j<M.length
  ·rw[List.getElem?_eq_getElem hj] at hu
   rw[hnews j hj]
   simpa using hu
  ·rw[List.getElem?_eq_none (by omega)] at hu;simp at hu
 have h1:∀u∈(M.map fun x=>Value.int .i64 x),u.oneCell'=true:=by
  intro u hu
  simp at hu
  obtain⟨x,_,rfl⟩:=hu
  rfl
 have uD:∀(xs:List Int) (k:Nat) (W:World) (q:Nat),W.heap.size=w.heap.size->xs.length=q->q<=k->k<=maxLen ->
  zO B (W.alloc (.cells ((xs.map fun x=>Value.int .i64 x).toArray ++ Builtin.zeroCells (Value.int .i64 0).cells (k - q)) e)) (.slice (some ⟨w.heap.size,0,none⟩) q k) xs:=by
  intro xs k W q hW hq hqk hk
  subst hq
  have hsz0:(Builtin.zeroCells (Value.int .i64 0).cells (k - xs.length)).size=k - xs.length:=by
   simp[Builtin.zeroCells,Value.cells]
  have hblk:(W.alloc (.cells ((xs.map fun x=>Value.int .i64 x).toArray ++ Builtin.zeroCells (Value.int .i64 0).cells (k - xs.length)) e)).heap[w.heap.size]?=some (.cells ((xs.map fun x=>Value.int .i64 x).toArray ++ Builtin.zeroCells (Value.int .i64 0).cells (k - xs.length)) e):=by
   rw[<-hW];exact Go.Deep.blk_alloc_new _ _
  refine .inr ⟨w.heap.size,0,k,rfl,hB,by simp[hW],hqk,hk,fun j hj=>?_,fun j hj=>?_⟩
  ·refine⟨?_,?_⟩
   ·rw[Nat.zero_add,cell_of_row _ _ _ _ _ _ hblk]
    rw[Array.getElem?_eq_getElem (by simp[hsz0];omega)];rfl
   ·simp[World.frozen?,hblk]
  ·rw[Nat.zero_add,cell_of_row _ _ _ _ _ _ hblk]
   simp[Array.getElem?_append,hj]
 rcases zx with⟨rfl,rfl⟩ | ⟨g,off,zp,rfl,hBg,hg,hl,hmx,hsp,hx⟩
 ·have hm0:0<m:=by
   rcases hpos with h | ⟨_,_,_,h⟩
   ·exact h
   ·cases h
  have hr:=run_append_nil (P:=P) w t ty e i _ ht hi hz ad m c _ (by simp[hs,hm]) hnews' hm0 (by simp at hL;omega) (by simp at hL;rw[hby];omega)
  refine⟨w.heap.size,0,grownCap w m 0 e,_,by simpa using hr,?_,?_,.inr rfl⟩
  ·have:=uD M (grownCap w m 0 e) w.drew m rfl hm (grownCap_ge _ _ _ _) (grownCap_le_maxLen _ _ _ _ (by simp at hL;unfold maxLen;omega))
   simpa using this
  ·exact⟨rfl,rfl,rfl,Nat.le_of_lt (by rw[World.size_alloc];exact Nat.lt_succ_self _),fun k hk _=>Below.heap_alloc w.drew _ k hk⟩
 ·by_cases hroom:L.length+m<=zp
  ·have hc:∀j,j<(M.map fun x=>Value.int .i64 x).length->(w.cell? ⟨g,off+L.length * i.size+j,none⟩).isSome=true:=fun j hj=>by
    rw[xS] at hj
    have:=(hsp (L.length+j) (by omega)).1
    rwa [hs,Nat.mul_one,Nat.add_assoc]
   have hf:∀j,j<(M.map fun x=>Value.int .i64 x).length->w.frozen? ⟨g,off+L.length * i.size+j,none⟩=false:=fun j hj=>by
    rw[xS] at hj
    have:=(hsp (L.length+j) (by omega)).2
    rwa [hs,Nat.mul_one,Nat.add_assoc]
   have hr:=run_append_room_cells (P:=P) w t ty e i ht hi g off L.length zp ad m c _ (by simp[hs,hm]) hnews' h1 hroom hc hf
   rw[hs,Nat.mul_one] at hr hc
   have zcc:(w.setCells g (off+L.length) (M.map fun x=>Value.int .i64 x)).heap.size=w.heap.size:=by
    have key:∀(vs:List Value) (o:Nat) (W:World),(W.setCells g o vs).heap.size=W.heap.size:=by
     intro vs
     induction vs with
     | nil=>intro o W;rfl
     | cons v r ih=>intro o W;rw[World.setCells,ih];simp[World.setCell]
    exact key _ _ _
   have hoth:∀k,k≠g->(w.setCells g (off+L.length) (M.map fun x=>Value.int .i64 x)).heap[k]?=w.heap[k]?:=by
    have key:∀(vs:List Value) (o:Nat) (W:World) (k:Nat),k≠g->(W.setCells g o vs).heap[k]?=W.heap[k]?:=by
     intro vs
     induction vs with
     | nil=>intro o W k _;rfl
     | cons v r ih=>intro o W k hk;rw[World.setCells,ih _ _ _ hk];exact Below.heap_setCell _ _ _ _ hk
    exact key _ _ _
   have hwt:(w.setCells g (off+L.length) (M.map fun x=>Value.int .i64 x)).os=w.os/\(w.setCells g (off+L.length) (M.map fun x=>Value.int .i64 x)).tape=w.tape/\(w.setCells g (off+L.length) (M.map fun x=>Value.int .i64 x)).output=w.output:=by
    have key:∀(vs:List Value) (o:Nat) (W:World),(W.setCells g o vs).os=W.os/\(W.setCells g o vs).tape=W.tape/\(W.setCells g o vs).output=W.output:=by
     intro vs
     induction vs with
     | nil=>intro o W;exact⟨rfl,rfl,rfl⟩
     | cons v r ih=>intro o W;rw[World.setCells];exact ih _ _
    exact key _ _ _
   refine⟨g,off,zp,_,hr,.inr ⟨g,off,zp,by simp[hm],hBg,by rw[zcc];exact hg,by simp[hm];omega,hmx,fun j hj=>?_,fun j hj=>?_⟩,⟨hwt.1,hwt.2.1,hwt.2.2,by rw[zcc];exact Nat.le_refl _,fun k _ hk=>hoth k (fun e=>hk (by rw[e];rfl))⟩,.inl rfl⟩
   ·rw[World.frozen?_setCells]
    refine⟨?_,(hsp j hj).2⟩
    by_cases hin:L.length<=j/\j<L.length+M.length
    ·have:=World.cell?_setCells_in g (M.map fun x=>Value.int .i64 x) (off+L.length) w hc (j - L.length) (by simp;omega)
     rw[show off+L.length+(j - L.length)=off+j by omega] at this
     rw[this];rfl
    ·rw[World.cell?_setCells_out g _ _ _ _ (fun _ _=>by simp;omega)]
     exact(hsp j hj).1
   ·rw[List.length_append] at hj
    by_cases hin:j<L.length
    ·rw[World.cell?_setCells_out g _ _ _ _ (fun _ _=>by simp;omega),hx j hin]
     simp[hin]
    ·have:=World.cell?_setCells_in g (M.map fun x=>Value.int .i64 x) (off+L.length) w hc (j - L.length) (by simp;omega)
     rw[show off+L.length+(j - L.length)=off+j by omega] at this
     rw[this]
     simp[List.getElem_append,hin]
  ·have hr:=run_append_grow (P:=P) w t ty e i _ ht hi hz ⟨g,off,none⟩ L.length zp (L.map fun x=>Value.int .i64 x) (by simp[hs]) (fun j u hu=>by
    rw[List.getElem?_map] at hu
    by_cases hj:j<L.length
    ·rw[List.getElem?_eq_getElem hj] at hu
     rw[Addr.add_lit,hx j hj]
     simpa using hu
    ·rw[List.getElem?_eq_none (by omega)] at hu;simp at hu)
    ad m c _ (by simp[hs,hm]) hnews' (by omega) (by omega) (growslice_fits (by omega) (by rw[hby];omega))
   refine⟨w.heap.size,0,grownCap w (L.length+m) zp e,_,hr,?_,?_,.inr rfl⟩
   ·have:=uD (L ++ M) (grownCap w (L.length+m) zp e) w.drew (L.length+m) rfl (by simp[hm]) (grownCap_ge _ _ _ _) (grownCap_le_maxLen _ _ _ _ (by unfold maxLen;omega))
    simpa using this
   ·exact⟨rfl,rfl,rfl,Nat.le_of_lt (by rw[World.size_alloc];exact Nat.lt_succ_self _),fun k hk _=>Below.heap_alloc w.drew _ k hk⟩
theorem YM {P:Program} {t e:TypeId} {i:TypeInfo} {B:Nat} (ht:P.underlying t=some (.slice e)) (hi:P.info? e=some i) (hz:i.zero=some (.int .i64 0)) (hsz:i.size=1) (hby:i.bytes=8)
 {ops:Array Oper} {rest:List Oper} {o:Oper} {act:Act} {Q:Exit->Act->World->Prop} (w:World) (hgd:o.guard=none) (s x:Operand)
 (ho:o.op=.call {callee:=.builtin .append,args:=#[s,x],argTypes:=#[t,t]}) (v:Value) (L:List Int) (hs:act.eval s=v) (zx:zO B w v L) (ad:Addr) (m c:Nat) (M:List Int) (hm:M.length=m)
 (hx:act.eval x=.slice (some ad) m c) (hnews:∀j,(h:j<M.length)->w.cell? (ad.add j)=some (.int .i64 M[j])) (hpos:0<m\/∃a n k,v=.slice (some a) n k) (hL:L.length+m<=3000000) (hB:B<=w.heap.size)
 (h:∀g off zp w',zO B w' (.slice (some ⟨g,off,none⟩) (L.length+m) zp) (L ++ M)->w.grownBy w' v.ownBlock->(v.ownBlock=some g\/g=w.heap.size) ->
  wpList P ops Q rest (act.put o.dst (.slice (some ⟨g,off,none⟩) (L.length+m) zp)) w') :
 wpList P ops Q (o :: rest) act w:=by
 obtain⟨g,off,zp,w',hr,h2,h3,h4⟩:=vG (P:=P) (ty:=o.type) ht hi hz hsz hby zx ad m c M hm hnews hpos hL hB
 refine wpList_plain hgd fun K hK=>?_
 unfold Oper.wp execOp
 simp only[ho,resolve,invoke,builtin,Sem.run_bind,Sem.run_pure,Result.andThen_ok,List.map_toArray,List.map_cons,List.map_nil,hs,hx,hr]
 exact hK _ _ (h g off zp w' h2 h3 h4)
theorem Q4 {P:Program} {t e:TypeId} {i:TypeInfo} {B:Nat} (ht:P.underlying t=some (.slice e)) (hi:P.info? e=some i) (hz:i.zero=some (.int .i64 0)) (hsz:i.size=1) (hby:i.bytes=8)
 {ops:Array Oper} {rest:List Oper} {o:Oper} {act:Act} {Q:Exit->Act->World->Prop} (w:World) (hgd:o.guard=none) (s x:Operand)
 (ho:o.op=.call {callee:=.builtin .append,args:=#[s,x],argTypes:=#[t,t]}) (v:Value) (L:List Int) (hs:act.eval s=v) (zx:zO B w v L) (k:Int) (H c:Nat) (hH:w.heap.size=H)
 (hx:act.eval x=.slice (some ⟨H,0,none⟩) 1 c) (hL:L.length<=2900000) (hB:B<=H)
 (h:∀g off zp w',zO B w' (.slice (some ⟨g,off,none⟩) (L.length+1) zp) (L ++ [k])->w.grownBy w' v.ownBlock->(v.ownBlock=some g\/H<=g)->g<w'.heap.size ->
  wpList P ops Q rest (act.put o.dst (.slice (some ⟨g,off,none⟩) (L.length+1) zp)) w') :
 wpList P ops Q (o :: rest) act (w.alloc (.cells #[.int .i64 k] e)):=by
 subst hH
 refine YM ht hi hz hsz hby _ hgd s x ho v L hs (zx.below (zB _ _)) ⟨w.heap.size,0,none⟩ 1 c [k] rfl hx (fun j hj=>?_) (.inl (by omega)) (by omega) (by simp;omega) fun g off zp w' h1 h2 h3=>?_
 ·obtain rfl:j=0:=by simpa using hj
  simp[Addr.add_lit,go_sem]
 ·have hA:=World.grownBy_alloc w (.cells #[.int .i64 k] e) v.ownBlock
  refine h g off zp w' h1 ⟨h2.os.trans hA.os,h2.tape.trans hA.tape,h2.output.trans hA.output,Nat.le_trans hA.size h2.size,fun i hi hn=>(h2.block i (Nat.lt_of_lt_of_le hi hA.size) hn).trans (hA.block i hi hn)⟩ ?_ (h1.lt g rfl).2
  rcases h3 with h3 | h3
  ·exact .inl h3
  ·right;rw[h3];simp
structure Fr where
 m:Int
 pc:Int
 twin:Int
 zg:zL
 ze:zL
structure Pg where
 base:Int
 zk:List Fr
structure Tw where
 page:Int
 place:Int
 left:Cl
structure Mc where
 cells:Int
 zd:List Pg
 order:List Int
 now:Int
 zh:List Tw
 born:Int
 zl:zL
 code:Int
def jO (w:World) (v:Value) (xs:List Int):Prop :=
 ∃(a:Option Addr) (zp:Nat),v=.slice a xs.length zp/\xs.length<=maxLen/\∀i,(h:i<xs.length)->∃b o,a=some ⟨b,o,none⟩/\w.cell? ⟨b,o+i,none⟩=some (.int .i64 xs[i])
theorem jO.below {w w':World} {v:Value} {xs:List Int} (h:jO w v xs) (hb:Below w.heap.size w w'):jO w' v xs:=by
 obtain⟨a,zp,hv,hl,hc⟩:=h
 refine⟨a,zp,hv,hl,fun i hi=>?_⟩
 obtain⟨b,o,ha,h0⟩:=hc i hi
 exact⟨b,o,ha,zc hb h0⟩
theorem jO.shape {w:World} {v:Value} {xs:List Int} (h:jO w v xs):∃a c,v=.slice a xs.length c:=by
 obtain⟨a,c,hv,_⟩:=h
 exact⟨a,c,hv⟩
theorem zO.at {B:Nat} {w:World} {v:Value} {xs:List Int} (h:zO B w v xs):jO w v xs:=by
 rcases h with⟨rfl,rfl⟩ | ⟨g,off,zp,rfl,_,_,hl,hm,_,hx⟩
 ·exact⟨none,0,rfl,Nat.zero_le _,fun _ hi=>absurd hi zF⟩
 ·exact⟨_,zp,rfl,by omega,fun i hi=>⟨g,off,rfl,hx i hi⟩⟩
structure FrAt (w:World) (b o:Nat) (vt vs:Value) (f:Fr):Prop where
 c0:w.cell? ⟨b,o,none⟩=some (.int .i64 f.m)
 c1:w.cell? ⟨b,o+1,none⟩=some (.int .i64 f.pc)
 c2:w.cell? ⟨b,o+2,none⟩=some (.int .i64 f.twin)
 c3:w.cell? ⟨b,o+3,none⟩=some vt
 c4:w.cell? ⟨b,o+4,none⟩=some vs
 t:zR w vt f.zg
 s:zR w vs f.ze
theorem FrAt.below {w w':World} {b o:Nat} {vt vs:Value} {f:Fr} (h:FrAt w b o vt vs f) (hb:Below w.heap.size w w'):FrAt w' b o vt vs f :=
 ⟨zc hb h.c0,zc hb h.c1,zc hb h.c2,zc hb h.c3,zc hb h.c4,h.t.below hb,h.s.below hb⟩
def xU (w:World) (v:Value) (fs:List Fr):Prop :=
 ∃(a:Option Addr) (zp:Nat),v=.slice a fs.length zp/\fs.length<=maxLen /\
  ∀i,(h:i<fs.length)->∃b o vt vs,a=some ⟨b,o,none⟩/\FrAt w b (o+i * 5) vt vs fs[i]
theorem xU.below {w w':World} {v:Value} {fs:List Fr} (h:xU w v fs) (hb:Below w.heap.size w w'):xU w' v fs:=by
 obtain⟨a,zp,hv,hl,hc⟩:=h
 refine⟨a,zp,hv,hl,fun i hi=>?_⟩
 obtain⟨b,o,vt,vs,ha,h0⟩:=hc i hi
 exact⟨b,o,vt,vs,ha,h0.below hb⟩
theorem xU.shape {w:World} {v:Value} {fs:List Fr} (h:xU w v fs):∃a c,v=.slice a fs.length c:=by
 obtain⟨a,c,hv,_⟩:=h
 exact⟨a,c,hv⟩
theorem xU.nil (w:World):xU w (.slice none 0 0) []:=⟨none,0,rfl,Nat.zero_le _,fun _ hi=>absurd hi zF⟩
structure zby (w:World) (b o:Nat) (vf:Value) (p:Pg):Prop where
 c0:w.cell? ⟨b,o,none⟩=some (.int .i64 p.base)
 c1:w.cell? ⟨b,o+1,none⟩=some vf
 f:xU w vf p.zk
theorem zby.below {w w':World} {b o:Nat} {vf:Value} {p:Pg} (h:zby w b o vf p) (hb:Below w.heap.size w w'):zby w' b o vf p:=⟨zc hb h.c0,zc hb h.c1,h.f.below hb⟩
def kU (w:World) (v:Value) (ps:List Pg):Prop :=
 ∃(a:Option Addr) (zp:Nat),v=.slice a ps.length zp/\ps.length<=maxLen/\∀i,(h:i<ps.length)->∃b o vf,a=some ⟨b,o,none⟩/\zby w b (o+i * 2) vf ps[i]
theorem kU.below {w w':World} {v:Value} {ps:List Pg} (h:kU w v ps) (hb:Below w.heap.size w w'):kU w' v ps:=by
 obtain⟨a,zp,hv,hl,hc⟩:=h
 refine⟨a,zp,hv,hl,fun i hi=>?_⟩
 obtain⟨b,o,vf,ha,h0⟩:=hc i hi
 exact⟨b,o,vf,ha,h0.below hb⟩
theorem kU.shape {w:World} {v:Value} {ps:List Pg} (h:kU w v ps):∃a c,v=.slice a ps.length c:=by
 obtain⟨a,c,hv,_⟩:=h
 exact⟨a,c,hv⟩
structure TwAt (w:World) (b o:Nat) (vt vs:Value) (x:Tw):Prop where
 c0:w.cell? ⟨b,o,none⟩=some (.int .i64 x.page)
 c1:w.cell? ⟨b,o+1,none⟩=some (.int .i64 x.place)
 c2:w.cell? ⟨b,o+2,none⟩=some (.int .i64 x.left.m)
 c3:w.cell? ⟨b,o+3,none⟩=some (.int .i64 x.left.pc)
 c4:w.cell? ⟨b,o+4,none⟩=some vt
 c5:w.cell? ⟨b,o+5,none⟩=some vs
 c6:w.cell? ⟨b,o+6,none⟩=some (.int .i64 x.left.zf)
 c7:w.cell? ⟨b,o+7,none⟩=some (.bool x.left.zv)
 t:zR w vt x.left.zg
 s:zR w vs x.left.ze
theorem TwAt.below {w w':World} {b o:Nat} {vt vs:Value} {t:Tw} (h:TwAt w b o vt vs t) (hb:Below w.heap.size w w'):TwAt w' b o vt vs t :=
 ⟨zc hb h.c0,zc hb h.c1,zc hb h.c2,zc hb h.c3,zc hb h.c4,zc hb h.c5,zc hb h.c6,zc hb h.c7,h.t.below hb,h.s.below hb⟩
def jH (w:World) (v:Value) (ts:List Tw):Prop :=
 ∃(a:Option Addr) (zp:Nat),v=.slice a ts.length zp/\ts.length<=maxLen/\∀i,(h:i<ts.length)->∃b o vt vs,a=some ⟨b,o,none⟩/\TwAt w b (o+i * 8) vt vs ts[i]
theorem jH.below {w w':World} {v:Value} {ts:List Tw} (h:jH w v ts) (hb:Below w.heap.size w w'):jH w' v ts:=by
 obtain⟨a,zp,hv,hl,hc⟩:=h
 refine⟨a,zp,hv,hl,fun i hi=>?_⟩
 obtain⟨b,o,vt,vs,ha,h0⟩:=hc i hi
 exact⟨b,o,vt,vs,ha,h0.below hb⟩
theorem jH.shape {w:World} {v:Value} {ts:List Tw} (h:jH w v ts):∃a c,v=.slice a ts.length c:=by
 obtain⟨a,c,hv,_⟩:=h
 exact⟨a,c,hv⟩
theorem jH.nil (w:World):jH w (.slice none 0 0) []:=⟨none,0,rfl,Nat.zero_le _,fun _ hi=>absurd hi zF⟩
def zI (vp vo vt vs:Value) (m:Mc):List Value:=[.int .i64 m.cells,vp,vo,.int .i64 m.now,vt,.int .i64 m.born,vs,.int .i64 m.code]
structure yF (w:World) (vp vo vt vs:Value) (m:Mc):Prop where
 p:kU w vp m.zd
 o:jO w vo m.order
 t:jH w vt m.zh
 s:zR w vs m.zl
theorem yF.below {w w':World} {vp vo vt vs:Value} {m:Mc} (h:yF w vp vo vt vs m) (hb:Below w.heap.size w w'):yF w' vp vo vt vs m:=⟨h.p.below hb,h.o.below hb,h.t.below hb,h.s.below hb⟩
structure Mc.small (m:Mc):Prop where
 zd:m.zd.length<=1048576
 zk:∀i,(hi:i<m.zd.length)->m.zd[i].zk.length<=1048576
 zh:m.zh.length<=1048576
 order:m.order.length<=1048576
 zl:m.zl.length<=1048576
 zg:∀i,(hi:i<m.zd.length)->∀j,(hj:j<m.zd[i].zk.length)->m.zd[i].zk[j].zg.length<=1048576/\m.zd[i].zk[j].ze.length<=1048576
 left:∀i,(hi:i<m.zh.length)->m.zh[i].left.small
def Bx (w:World) (g:Nat) (t:TypeId) (l:List Value):Prop:=w.rowIs g t l.length fun i=>l.getD i undef
theorem Bx.new (w:World) (t:TypeId) (l:List Value):Bx (w.alloc (.cells l.toArray t)) w.heap.size t l :=
 ⟨_,Go.Deep.blk_alloc_new _ _,by simp,fun i hi=>by simp[hi]⟩
theorem Bx.lt {w:World} {g:Nat} {t:TypeId} {l:List Value} (h:Bx w g t l):g<w.heap.size:=World.rowIs.lt h
theorem Bx.cell {w:World} {g:Nat} {t:TypeId} {l:List Value} (h:Bx w g t l) (i:Nat) {v:Value} (hi:l[i]?=some v):w.cell? ⟨g,i,none⟩=some v:=by
 obtain⟨hl,hv⟩:=List.getElem?_eq_some_iff.1 hi
 have:=World.rowIs.cell h (i:=i) hl
 rw[this]
 simp[hl,hv]
theorem Bx.frozen {w:World} {g:Nat} {t:TypeId} {l:List Value} (h:Bx w g t l) (i:Nat):w.frozen? ⟨g,i,none⟩=false:=World.rowIs.frozen h i
theorem Bx.set {w:World} {g:Nat} {t:TypeId} {l:List Value} (h:Bx w g t l) (i:Nat) (v:Value):Bx (w.setCell ⟨g,i,none⟩ v) g t (l.set i v):=by
 unfold Bx
 rw[List.length_set]
 refine(World.rowIs.set h i v).congr fun j hj=>?_
 by_cases e:j=i
 ·subst e;simp[hj]
 ·simp[e,List.getElem?_set_ne (Ne.symm e)]
theorem Bx.other {w:World} {g k o:Nat} {t:TypeId} {l:List Value} (h:Bx w g t l) (hk:g≠k) (v:Value):Bx (w.setCell ⟨k,o,none⟩ v) g t l:=World.rowIs.of_block h (Below.heap_setCell _ _ _ _ hk)
theorem Bx.below {w w':World} {g:Nat} {t:TypeId} {l:List Value} (h:Bx w g t l) (hb:Below w.heap.size w w'):Bx w' g t l:=zz hb h
theorem Bx.kept {w w':World} {g:Nat} {t:TypeId} {l:List Value} (h:Bx w g t l) (hb:w'.heap[g]?=w.heap[g]?):Bx w' g t l:=World.rowIs.of_block h hb
theorem Bx.alloc {w:World} {g:Nat} {t:TypeId} {l:List Value} (h:Bx w g t l) (o:Obj):Bx (w.alloc o) g t l:=h.below (zB _ _)
theorem Bx.drew {w:World} {g:Nat} {t:TypeId} {l:List Value} (h:Bx w g t l):Bx w.drew g t l:=h
theorem Bx.grown {w w':World} {g:Nat} {t:TypeId} {l:List Value} {q:Option Nat} (h:Bx w g t l) (hg:w.grownBy w' q) (hq:q≠some g):Bx w' g t l:=h.kept (hg.block _ h.lt fun e=>hq e.symm)
theorem Bx.newAt (w:World) (t:TypeId) (l:List Value) {g:Nat} (hg:w.heap.size=g):Bx (w.alloc (.cells l.toArray t)) g t l:=hg ▸ Bx.new w t l
theorem ye {P:Program} {c:Code} {K:Exit->Act->World->Prop} {a:Act} {W:World} (F:World->Prop) (hF:F W) (h:∀W',F W'->Code.wp P c K a W'):Code.wp P c K a W:=h W hF
theorem jh {P:Program} {fn:Func} {R:Ending->World->Prop} {e:Exit} {a:Act} {W:World} (F:World->Prop) (hF:F W) (h:∀W',F W'->bodyPost P fn R e a W'):bodyPost P fn R e a W:=h W hF
theorem kH {X:Exit->Act->World->Prop} {e:Exit} {a:Act} {W:World} (F:World->Prop) (hF:F W) (h:∀W',F W'->X e a W'):X e a W:=h W hF
theorem Wr.refl1 (g:Nat) (w:World):Wr (fun k=>k=g) w w:=Wr.refl _ _
theorem Wr.set1 {g o:Nat} {w w':World} (h:Wr (fun k=>k=g) w w') (u:Value):Wr (fun k=>k=g) w (w'.setCell ⟨g,o,none⟩ u):=h.set (p:=⟨g,o,none⟩) rfl u
theorem Wr.bx {T:Nat->Prop} {w w':World} {g:Nat} {t:TypeId} {l:List Value} (h:Wr T w w') (hx:Bx w g t l) (hT:¬T g):Bx w' g t l:=hx.kept (h.block _ hx.lt hT)
theorem Wr.ints {T:Nat->Prop} {B:Nat} {w w':World} {v:Value} {xs:List Int} (h:Wr T w w') (hr:zO B w v xs) (hT:∀g,v.ownBlock=some g->¬T g):zO B w' v xs:=hr.kept h.size fun g e=>h.block g (hr.lt g e).2 (hT g e)
theorem Wr.below1 {g B:Nat} {w0 a b:World} (h:Wr (fun k=>k=g) a b) (hb:Below B w0 a) (h0:B<=w0.heap.size) (hg:B<=g):Below B w0 b:=h.below hb h0 fun _ e=>e ▸ hg
theorem xy {w:World} {g:Nat} {t:TypeId} {x0 x1 x2 x3 x4 x5 x6 x7:Value} (h:Bx w g t [x0,x1,x2,x3,x4,x5,x6,x7]) :
 (w.cell? ⟨g,0,none⟩=some x0/\w.cell? ⟨g,1,none⟩=some x1/\w.cell? ⟨g,2,none⟩=some x2/\w.cell? ⟨g,3,none⟩=some x3/\w.cell? ⟨g,4,none⟩=some x4/\w.cell? ⟨g,5,none⟩=some x5/\w.cell? ⟨g,6,none⟩=some x6/\w.cell? ⟨g,7,none⟩=some x7) /\
 (w.frozen? ⟨g,0,none⟩=false/\w.frozen? ⟨g,1,none⟩=false/\w.frozen? ⟨g,2,none⟩=false/\w.frozen? ⟨g,3,none⟩=false/\w.frozen? ⟨g,4,none⟩=false/\w.frozen? ⟨g,5,none⟩=false/\w.frozen? ⟨g,6,none⟩=false/\w.frozen? ⟨g,7,none⟩=false) :=
 ⟨⟨h.cell 0 rfl,h.cell 1 rfl,h.cell 2 rfl,h.cell 3 rfl,h.cell 4 rfl,h.cell 5 rfl,h.cell 6 rfl,h.cell 7 rfl⟩,h.frozen 0,h.frozen 1,h.frozen 2,h.frozen 3,h.frozen 4,h.frozen 5,h.frozen 6,h.frozen 7⟩
theorem Zc {w:World} {g:Nat} {t:TypeId} {x0 x1 x2 x3 x4 x5 x6 x7 x8 x9:Value} (h:Bx w g t [x0,x1,x2,x3,x4,x5,x6,x7,x8,x9]) :
 (w.cell? ⟨g,0,none⟩=some x0/\w.cell? ⟨g,1,none⟩=some x1/\w.cell? ⟨g,2,none⟩=some x2/\w.cell? ⟨g,3,none⟩=some x3/\w.cell? ⟨g,4,none⟩=some x4/\w.cell? ⟨g,5,none⟩=some x5/\w.cell? ⟨g,6,none⟩=some x6/\w.cell? ⟨g,7,none⟩=some x7/\w.cell? ⟨g,8,none⟩=some x8/\w.cell? ⟨g,9,none⟩=some x9) /\
 (w.frozen? ⟨g,0,none⟩=false/\w.frozen? ⟨g,1,none⟩=false/\w.frozen? ⟨g,2,none⟩=false/\w.frozen? ⟨g,3,none⟩=false/\w.frozen? ⟨g,4,none⟩=false/\w.frozen? ⟨g,5,none⟩=false/\w.frozen? ⟨g,6,none⟩=false/\w.frozen? ⟨g,7,none⟩=false/\w.frozen? ⟨g,8,none⟩=false/\w.frozen? ⟨g,9,none⟩=false) :=
 ⟨⟨h.cell 0 rfl,h.cell 1 rfl,h.cell 2 rfl,h.cell 3 rfl,h.cell 4 rfl,h.cell 5 rfl,h.cell 6 rfl,h.cell 7 rfl,h.cell 8 rfl,h.cell 9 rfl⟩,h.frozen 0,h.frozen 1,h.frozen 2,h.frozen 3,h.frozen 4,h.frozen 5,h.frozen 6,h.frozen 7,h.frozen 8,h.frozen 9⟩
def xW (w:World) (b:Nat) (xs:List Value):Prop :=
 ∃es clock,w.heap[b]?=some (.map es clock)/\es.size=xs.length/\∀i,(h:i<xs.length)->∃e,es[i]?=some e/\e.key=.int .i64 i/\e.val=xs[i]
theorem xW.lt {w:World} {b:Nat} {xs:List Value} (h:xW w b xs):b<w.heap.size:=by
 obtain⟨es,clock,hb,_⟩:=h
 exact(Array.getElem?_eq_some_iff.1 hb).1
theorem xW.kept {w w':World} {b:Nat} {xs:List Value} (h:xW w b xs) (hb:w'.heap[b]?=w.heap[b]?):xW w' b xs:=by
 obtain⟨es,clock,h0,r⟩:=h
 exact⟨es,clock,hb.trans h0,r⟩
theorem xW.below {w w':World} {b:Nat} {xs:List Value} (h:xW w b xs) (hb:Below w.heap.size w w'):xW w' b xs:=h.kept (hb.block b h.lt)
theorem xW.made (w:World):xW (w.alloc (.map #[] 0)) w.heap.size []:=⟨#[],0,Go.Deep.blk_alloc_new _ _,rfl,fun _ h=>absurd h zF⟩
theorem xW.keys {xs:List Value} {es:Array MapEntry} (hs:es.size=xs.length) (he:∀i,(h:i<xs.length)->∃e,es[i]?=some e/\e.key=.int .i64 i/\e.val=xs[i]):∀x∈es.toList,MapKept.IsKey (.int .i64) x.key:=by
 intro x hx
 obtain⟨i,hi,rfl⟩:=List.getElem_of_mem hx
 have hi':i<xs.length:=by rw[<-hs];simpa using hi
 obtain⟨e,h1,h2,_⟩:=he i hi'
 have hi2:i<es.size:=by simpa using hi
 rw[Array.getElem?_eq_getElem hi2] at h1
 have:es.toList[i]=e:=by simpa using h1
 rw[this,h2]
 rfl
theorem xW.found {xs:List Value} {es:Array MapEntry} (hs:es.size=xs.length) (he:∀i,(h:i<xs.length)->∃e,es[i]?=some e/\e.key=.int .i64 i/\e.val=xs[i]) {k:Nat} (hk:k<xs.length):Instr.findNow (.int .i64) (.int .i64 k) es.toList 0=some (some (k,xs[k])):=by
 rcases MapKept.findNow_spec (d:=.int .i64) (k:=.int .i64 k) rfl es.toList 0 (xW.keys hs he) with⟨_,h2⟩ | ⟨j,e,h1,h2,h3⟩
 ·obtain⟨e,q1,q2,_⟩:=he k hk
  exact absurd q2 (h2 e (by
   have:es.toList[k]?=some e:=by simpa using q1
   exact List.mem_of_getElem? this))
 ·have hj:j<xs.length:=by
   rw[<-hs]
   have:=(List.getElem?_eq_some_iff.1 h2).1
   simpa using this
  obtain⟨e',q1,q2,q3⟩:=he j hj
  have:es[j]?=some e:=by simpa using h2
  rw[q1] at this
  injection this with this
  subst this
  rw[q2] at h3
  injection h3 with _ h4
  have:j=k:=by exact_mod_cast h4
  subst this
  rw[h1,q3]
  simp
theorem xW.missed {xs:List Value} {es:Array MapEntry} (hs:es.size=xs.length) (he:∀i,(h:i<xs.length)->∃e,es[i]?=some e/\e.key=.int .i64 i/\e.val=xs[i]):Instr.findNow (.int .i64) (.int .i64 xs.length) es.toList 0=some none:=by
 rcases MapKept.findNow_spec (d:=.int .i64) (k:=.int .i64 xs.length) rfl es.toList 0 (xW.keys hs he) with⟨h1,_⟩ | ⟨j,e,h1,h2,h3⟩
 ·exact h1
 ·have hj:j<xs.length:=by
   rw[<-hs]
   have:=(List.getElem?_eq_some_iff.1 h2).1
   simpa using this
  obtain⟨e',q1,q2,q3⟩:=he j hj
  have:es[j]?=some e:=by simpa using h2
  rw[q1] at this
  injection this with this
  subst this
  rw[q2] at h3
  injection h3 with _ h4
  have:j=xs.length:=by exact_mod_cast h4
  omega
variable {P:Program} {t kt et:TypeId}
theorem xW.look {w:World} {b:Nat} {xs:List Value} (ht:P.underlying t=some (.map kt et)) (hk:P.underlying kt=some (.int .i64)) (h:xW w b xs) {k:Nat} (hlt:k<xs.length) :
 (Instr.lookup t (.map (some b)) (.int .i64 k) false).run P w=.ok xs[k] w:=by
 obtain⟨es,clock,hb,hs,he⟩:=h
 have h1:=xW.found hs he hlt
 simp[Instr.lookup,run_underlying ht,MapKept.run_getObj_map hb,MapKept.run_checkKey hk (show MapKept.IsKey (.int .i64) (.int .i64 (k:Int)) from rfl),MapKept.run_findKey hk h1,Result.andThen]
theorem xW.len {w:World} {b:Nat} {xs:List Value} (ht:P.underlying t=some (.map (P.mapKeyOf t) (P.mapElemOf t))) (h:xW w b xs) (ty:TypeId):(Builtin.len_ #[t] ty #[.map (some b)]).run P w=.ok (goInt xs.length) w:=by
 obtain⟨es,clock,hb,hs,_⟩:=h
 rw[run_len_map w t ty b es clock ht hb,hs]
theorem YV (w:World) (b:Nat) (o:Obj):w.grownBy {w with heap:=w.heap.setIfInBounds b o} (some b) :=
 ⟨rfl,rfl,rfl,by simp,fun k _ hne=>by
  have:k≠b:=fun e=>hne (by rw[e])
  simp[Ne.symm this]⟩
theorem xW.put {w:World} {b:Nat} {xs:List Value} (ht:P.underlying t=some (.map kt et)) (hk:P.underlying kt=some (.int .i64)) (h:xW w b xs) {k:Nat} (hlt:k<xs.length) (v:Value) :
 ∃w',(Instr.mapUpdate t (.map (some b)) (.int .i64 k) v).run P w=.ok () w'/\xW w' b (xs.set k v)/\w.grownBy w' (some b):=by
 obtain⟨es,clock,hb,hs,he⟩:=h
 have h1:=xW.found hs he hlt
 obtain⟨e0,q1,q2,q3⟩:=he k hlt
 have hbl:=(Array.getElem?_eq_some_iff.1 hb).1
 refine⟨{w with heap:=w.heap.setIfInBounds b (.map (es.modify k fun e=>{e with key:=.int .i64 k,val:=v}) clock)},?_,?_,YV _ _ _⟩
 ·simp[Instr.mapUpdate,run_underlying ht,MapKept.run_getObj_map hb,MapKept.run_checkKey hk (show MapKept.IsKey (.int .i64) (.int .i64 (k:Int)) from rfl),MapKept.run_findKey hk h1,q1,q2,MapKept.run_keyThatStays (show MapKept.IsKey (.int .i64) (.int .i64 (k:Int)) from rfl),MapKept.run_setObj_map _ hb,Result.andThen]
 ·refine⟨es.modify k fun e=>{e with key:=.int .i64 k,val:=v},clock,by simp[hbl],by simp[hs],fun i hi=>?_⟩
  have hi':i<xs.length:=by simpa using hi
  obtain⟨e,p1,p2,p3⟩:=he i hi'
  by_cases e1:i=k
  ·subst e1
   refine⟨{e with key:=.int .i64 i,val:=v},by rw[Array.getElem?_modify];simp[p1],rfl,by simp⟩
  ·refine⟨e,by rw[Array.getElem?_modify];simp[Ne.symm e1,p1],p2,by rw[p3,List.getElem_set_ne (Ne.symm e1)]⟩
theorem xW.push {w:World} {b:Nat} {xs:List Value} (ht:P.underlying t=some (.map kt et)) (hk:P.underlying kt=some (.int .i64)) (h:xW w b xs) (v:Value) :
 ∃w',(Instr.mapUpdate t (.map (some b)) (.int .i64 xs.length) v).run P w=.ok () w'/\xW w' b (xs ++ [v])/\w.grownBy w' (some b):=by
 obtain⟨es,clock,hb,hs,he⟩:=h
 have h1:=xW.missed hs he
 have hbl:=(Array.getElem?_eq_some_iff.1 hb).1
 refine⟨{w with heap:=w.heap.setIfInBounds b (.map (es.push {key:=.int .i64 xs.length,val:=v,born:=clock}) (clock+1))},?_,?_,YV _ _ _⟩
 ·simp[Instr.mapUpdate,run_underlying ht,MapKept.run_getObj_map hb,MapKept.run_checkKey hk (show MapKept.IsKey (.int .i64) (.int .i64 (xs.length:Int)) from rfl),MapKept.run_findKey hk h1,MapKept.run_setObj_map _ hb,Result.andThen]
 ·refine⟨es.push {key:=.int .i64 xs.length,val:=v,born:=clock},clock+1,by simp[hbl],by simp[hs],fun i hi=>?_⟩
  have hi':i<xs.length+1:=by simpa using hi
  by_cases e1:i=xs.length
  ·subst e1
   refine⟨{key:=.int .i64 xs.length,val:=v,born:=clock},by rw[<-hs];simp,rfl,by simp⟩
  ·obtain⟨e,p1,p2,p3⟩:=he i (by omega)
   exact⟨e,by rw[Array.getElem?_push,if_neg (by omega)];exact p1,p2,by rw[p3,List.getElem_append_left (by omega)]⟩
end Go.Proofs.YtjbgpcileapogaaGreat
