/-
  What draws, the small pieces: operations are gathered in rows of their own; l71Args, l71End, l71Look, l71Ops answer some operations (we need not know which), and but for the reader's place nothing that was there turns.
-/
import Derived.Test.YtjbgpcileapogaaGreatDraw1
import Derived.Deep.AppendLies
import Derived.Deep.RegionHeld3
namespace Go.Proofs.YtjbgpcileapogaaGreat
open Go.RowKit
theorem Tryz.infoOp:(Tryz.prog.info? 33).map (fun i=>(i.zero,i.size,i.bytes))=some (some (.agg #[.int .i64 0,.int .i64 0]),2,16):=by kernel_rfl
def ue (ops:zL):List Value:=ops.flatMap fun o=>[.int .i64 o.1,.int .i64 o.2]
theorem Zk (a b:zL):ue (a ++ b)=ue a ++ ue b:=by simp[ue]
theorem uV (a:zL):(ue a).length=a.length * 2:=by
 induction a with
 | nil=>rfl
 | cons x l ih=>simp[ue] at ih ⊢;omega
theorem YT (a:zL):∀(i:Nat) (h:i<a.length),(ue a)[i * 2]?=some (.int .i64 a[i].1)/\(ue a)[i * 2+1]?=some (.int .i64 a[i].2):=by
 induction a with
 | nil=>intro i h;exact absurd h zF
 | cons x l ih =>
  intro i h
  cases i with
  | zero=>exact⟨rfl,rfl⟩
  | succ i =>
   have:=ih i (by simpa using h)
   rw[show(i+1) * 2=i * 2+2 by omega]
   exact this
def yh (B:Nat) (w:World) (v:Value) (ops:zL):Prop:=w.ownsRow B 33 2 v ops.length (ue ops)
theorem yh.nil (B:Nat) (w:World):yh B w (.slice none 0 0) []:=World.ownsRow_nil _ _ _ _
theorem yh.made (w:World):yh w.heap.size (w.alloc (.cells #[] 33)) (.slice (some ⟨w.heap.size,0,none⟩) 0 0) [] :=
 ⟨rfl,.inr ⟨w.heap.size,0,#[],rfl,Nat.le_refl _,Go.Deep.blk_alloc_new _ _,Nat.le_refl _,Nat.zero_le _,rfl,rfl⟩⟩
theorem yh.mono {B B':Nat} {w:World} {v:Value} {ops:zL} (h:yh B w v ops) (hB:B'<=B):yh B' w v ops:=by
 obtain⟨h1,h2⟩:=h
 refine⟨h1,?_⟩
 rcases h2 with h2 | ⟨g,zp,cur,hv,hg,r⟩
 ·exact .inl h2
 ·exact .inr ⟨g,zp,cur,hv,by omega,r⟩
theorem yh.kept {B:Nat} {w w':World} {v:Value} {ops:zL} {row:Option Nat} (h:yh B w v ops) (hg:w.grownBy w' row) (hne:∀g,row=some g->v.ownBlock≠some g):yh B w' v ops :=
 World.ownsRow.kept h hg (by
  cases row with
  | none=>cases hv:v.ownBlock with
   | none=>exact .inl rfl
   | some g=>exact .inr (by simp)
  | some g=>exact .inr (hne g rfl))
theorem yh.lt {B:Nat} {w:World} {v:Value} {ops:zL} (h:yh B w v ops):∀k,v.ownBlock=some k->B<=k/\k<w.heap.size:=World.ownsRow.lt h
theorem Rd.kept {w0 w w':World} {b:Nat} {a:Option Addr} {len zp p0 p:Nat} {row:Option Nat} (h0:Rd w0 b a len zp p0) (h:Rd w b a len zp p) (hsz:w0.heap.size<=w.heap.size) (k:w.grownBy w' row) (zS:∀g,row=some g->w0.heap.size<=g):Rd w' b a len zp p:=by
 have hb:b<w0.heap.size:=World.block_lt_of_cell? _ _ h0.s
 have ne:∀q,q<w0.heap.size->some q≠row:=fun q hq e=>by have:=zS q e.symm;omega
 refine⟨k.cell h.s (ne b hb),k.cell h.p (ne b hb),?_,h.l,fun i hi=>?_⟩
 ·rw[World.frozen?_of_block (k.block b (by omega) (ne b hb))];exact h.f
 ·obtain⟨b0,o0,x0,e0,_,hc0,_⟩:=h0.c i hi
  have hlt:=World.block_lt_of_cell? _ _ hc0
  obtain⟨b',o,x,e1,hb',hc,hx⟩:=h.c i hi
  have hbb:b'=b0:=by
   rw[e0] at e1
   injection e1 with e1
   injection e1 with e1 _
   exact e1.symm
  subst hbb
  exact⟨b',o,x,e1,hb',k.cell hc (ne b' hlt),hx⟩
theorem ql {w0 w w':World} {b:Nat} {row:Option Nat} (h:w0.grownBy w (some b)) (k:w.grownBy w' row) (zS:∀g,row=some g->w0.heap.size<=g):w0.grownBy w' (some b) :=
 ⟨k.os.trans h.os,k.tape.trans h.tape,k.output.trans h.output,Nat.le_trans h.size k.size,fun i hi hn=>(k.block i (Nat.lt_of_lt_of_le hi h.size) (fun e=>by have:=zS i e.symm;omega)).trans (h.block i hi hn)⟩
theorem vD (w:World) (b:Option Nat):w.grownBy w b:=⟨rfl,rfl,rfl,Nat.le_refl _,fun _ _ _=>rfl⟩
theorem qc {w w1:World} {b:Option Nat} (h:w.grownBy w1 b) (o:Obj):w.grownBy (w1.alloc o) b :=
 ⟨h.os,h.tape,h.output,by have:=h.size;simp;omega,fun k hk hn=>(Below.heap_alloc _ _ _ (by have:=h.size;omega)).trans (h.block k hk hn)⟩
theorem yP (w:World) (g o:Nat) (v:Value):w.grownBy (w.setCell ⟨g,o,none⟩ v) (some g) :=
 ⟨rfl,rfl,rfl,by simp[World.setCell],fun k _ hk=>Below.heap_setCell _ _ _ _ (fun e=>hk (by rw[e]))⟩
theorem wA {w0 w:World} {b g:Nat} {a:Option Addr} {len zp p0 p:Nat} (h0:Rd w0 b a len zp p0) (hr:Rd w b a len zp p) (hg:w0.grownBy w (some b)) (hgb:w0.heap.size<=g) (o1 o2:Nat) (v1 v2:Value) :
 Rd ((w.setCell ⟨g,o1,none⟩ v1).setCell ⟨g,o2,none⟩ v2) b a len zp p/\w0.grownBy ((w.setCell ⟨g,o1,none⟩ v1).setCell ⟨g,o2,none⟩ v2) (some b):=by
 have k1:=yP w g o1 v1
 have k2:=yP (w.setCell ⟨g,o1,none⟩ v1) g o2 v2
 have zS:∀q,some g=some q->w0.heap.size<=q:=fun q e=>by cases e;exact hgb
 have r1:=Rd.kept h0 hr hg.size k1 zS
 have g1:=ql hg k1 zS
 exact⟨Rd.kept h0 r1 g1.size k2 zS,ql g1 k2 zS⟩
theorem Z0 (M:zL):∀u∈ue M,u.oneCell'=true:=by
 intro u hu
 simp only[ue,List.mem_flatMap] at hu
 obtain⟨x,_,hx⟩:=hu
 simp at hx
 rcases hx with rfl | rfl <;> rfl
theorem ux {ops:Array Oper} {rest:List Oper} {o:Oper} {act:Act} {Q:Exit->Act->World->Prop} (w:World) (hgd:o.guard=none) (s x:Operand)
 (ho:o.op=.call {callee:=.builtin .append,args:=#[s,x],argTypes:=#[46,46]}) (B:Nat) (v:Value) (L:zL) (hs:act.eval s=v) (zx:yh B w v L) (M:zL) (gb c:Nat)
 (hx:act.eval x=.slice (some ⟨gb,0,none⟩) M.length c) (hnews:∀j u,(ue M)[j]?=some u->w.cell? ((⟨gb,0,none⟩:Addr).add j)=some u) (hM:0<M.length) (hL:L.length+M.length<=1000) (hB:B<=w.heap.size)
 (h:∀g zp w',yh B w' (.slice (some ⟨g,0,none⟩) (L.length+M.length) zp) (L ++ M)->w.grownBy w' v.ownBlock->B<=g->g<w'.heap.size ->
  wpList Tryz.prog ops Q rest (act.put o.dst (.slice (some ⟨g,0,none⟩) (L.length+M.length) zp)) w') :
 wpList Tryz.prog ops Q (o :: rest) act w:=by
 obtain⟨i0,hi,hz0,hz1,hz2⟩:=info_parts Tryz.infoOp
 refine wpList_append_lies _ hgd s x 46 ho B 33 i0 _ 2 16 Tryz.underlying46 hi hz0 hz1 hz2 rfl (by omega) v L.length (ue L) hs zx ⟨gb,0,none⟩ M.length c (ue M) hx (uV M)
  hnews (Z0 M) hM (by unfold maxLen;omega) (by omega) hB w.heap.size rfl ?_
 intro g zp w' h1 h2 h3 h4
 refine h g zp w' ?_ h2 ?_ h4
 ·unfold yh
  rw[Zk,List.length_append]
  exact h1
 ·rcases h3 with h3 | h3
  ·exact(zx.lt g h3).1
  ·omega
theorem Qk {ops:Array Oper} {o:Oper} {act:Act} {K:Act->World->Prop} {Q:Exit->Act->World->Prop} {E:Prop} (w:World) (hgd:o.guard=none) (s x:Operand)
 (ho:o.op=.call {callee:=.builtin .append,args:=#[s,x],argTypes:=#[46,46]}) (B:Nat) (v:Value) (L:zL) (hs:act.eval s=v) (zx:yh B w v L) (M:zL) (gb c:Nat)
 (hx:act.eval x=.slice (some ⟨gb,0,none⟩) M.length c) (hnews:∀j u,(ue M)[j]?=some u->w.cell? ((⟨gb,0,none⟩:Addr).add j)=some u) (hM:0<M.length) (hL:L.length+M.length<=1000) (hB:B<=w.heap.size)
 (h:∀g zp w',yh B w' (.slice (some ⟨g,0,none⟩) (L.length+M.length) zp) (L ++ M)->w.grownBy w' v.ownBlock->B<=g->g<w'.heap.size ->
  K (act.put o.dst (.slice (some ⟨g,0,none⟩) (L.length+M.length) zp)) w') :
 if Region.wanted o (yielded ops act.tmps)=true then Oper.wp Tryz.prog o act w K Q else E:=by
 obtain⟨i0,hi,hz0,hz1,hz2⟩:=info_parts Tryz.infoOp
 refine step_append_lies _ hgd s x 46 ho B 33 i0 _ 2 16 Tryz.underlying46 hi hz0 hz1 hz2 rfl (by omega) v L.length (ue L) hs zx ⟨gb,0,none⟩ M.length c (ue M) hx (uV M)
  hnews (Z0 M) hM (by unfold maxLen;omega) (by omega) hB w.heap.size rfl ?_
 intro g zp w' h1 h2 h3 h4
 refine h g zp w' ?_ h2 ?_ h4
 ·unfold yh
  rw[Zk,List.length_append]
  exact h1
 ·rcases h3 with h3 | h3
  ·exact(zx.lt g h3).1
  ·omega
theorem yj {ops:Array Oper} {rest:List Oper} {o:Oper} {act:Act} {Q:Exit->Act->World->Prop} (w:World) (hgd:o.guard=none) (s x:Operand)
 (ho:o.op=.call {callee:=.builtin .append,args:=#[s,x],argTypes:=#[46,46]}) (B:Nat) (v:Value) (L:zL) (hs:act.eval s=v) (zx:yh B w v L) (k q:Int) (c:Nat)
 (hx:act.eval x=.slice (some ⟨w.heap.size,0,none⟩) 1 c) (hL:L.length<=900) (hB:B<=w.heap.size)
 (h:∀g zp w',yh B w' (.slice (some ⟨g,0,none⟩) (L.length+1) zp) (L ++ [(k,q)])->(w.alloc (.cells #[.int .i64 k,.int .i64 q] 33)).grownBy w' v.ownBlock->B<=g->g<w'.heap.size ->
  wpList Tryz.prog ops Q rest (act.put o.dst (.slice (some ⟨g,0,none⟩) (L.length+1) zp)) w') :
 wpList Tryz.prog ops Q (o :: rest) act (w.alloc (.cells #[.int .i64 k,.int .i64 q] 33)) :=
 ux _ hgd s x ho B v L hs (World.ownsRow.alloc zx _) [(k,q)] w.heap.size c hx (World.news_of_block (Go.Deep.blk_alloc_new w _)) (by simp) (by simp;omega) (by simp;omega) h
theorem yc {w0 w w':World} {b:Nat} {a:Option Addr} {len zp p0 p:Nat} {v:Value} {L:zL} {o:Obj} (h0:Rd w0 b a len zp p0) (hr:Rd w b a len zp p) (hg:w0.grownBy w (some b)) (zx:yh w0.heap.size w v L)
 (hg2:(w.alloc o).grownBy w' v.ownBlock):Rd w' b a len zp p/\w0.grownBy w' (some b):=by
 have zS:∀g,v.ownBlock=some g->w0.heap.size<=g:=fun g e=>(zx.lt g e).1
 have hA:=World.grownBy_alloc w o v.ownBlock
 have hA2:w.grownBy w' v.ownBlock:=⟨hg2.os.trans hA.os,hg2.tape.trans hA.tape,hg2.output.trans hA.output,Nat.le_trans hA.size hg2.size,fun i hi hn=>(hg2.block i (Nat.lt_of_lt_of_le hi hA.size) hn).trans (hA.block i hi hn)⟩
 exact⟨Rd.kept h0 hr hg.size hA2 zS,ql hg hA2 zS⟩
def Fit (nm:Nat) (t:Int) (o:Int × Int):Prop:=o.1≠7/\o.1≠8/\qR nm 0 t o.1 o.2=true
def Fits (nm:Nat) (t:Int) (l:zL):Prop:=∀o∈l,Fit nm t o
theorem Fits.nil {nm:Nat} {t:Int}:Fits nm t []:=fun _ h=>by cases h
theorem Fits.append {nm:Nat} {t:Int} {l m:zL} (h:Fits nm t l) (k:Fits nm t m):Fits nm t (l ++ m):=fun o e=>by
 rcases List.mem_append.1 e with e | e
 ·exact h o e
 ·exact k o e
theorem Fits.one {nm:Nat} {t:Int} {o:Int × Int} (h:Fit nm t o):Fits nm t [o]:=fun q e=>by
 have:=List.mem_singleton.1 e
 rw[this]
 exact h
theorem Fits.snoc {nm:Nat} {t:Int} {l:zL} {o:Int × Int} (h:Fits nm t l) (k:Fit nm t o):Fits nm t (l ++ [o]):=h.append (.one k)
theorem ZO {nm:Nat} {t a:Int} (h0:0<=a) (h1:a<=99):Fit nm t (1,a):=⟨by simp,by simp,by rw[zdN];exact zH.2 ⟨h0,h1⟩⟩
theorem vV {nm:Nat} {t a:Int} (h0:0<=a) (h1:a<t):Fit nm t (2,a):=⟨by simp,by simp,by rw[zdO];exact zH.2 ⟨h0,by omega⟩⟩
theorem zaA {nm:Nat} {t a:Int} (h0:0<=a) (h1:a<t):Fit nm t (3,a):=⟨by simp,by simp,by rw[zdP];exact zH.2 ⟨h0,by omega⟩⟩
theorem Jp {nm:Nat} {t a:Int} (h0:0<=a) (h1:a<(nm:Int)):Fit nm t (9,a):=⟨by simp,by simp,by rw[zdR];exact zH.2 ⟨h0,by omega⟩⟩
theorem vU {nm:Nat} {t a:Int} (h0:0<=a) (h1:a<4):Fit nm t (13,a):=⟨by simp,by simp,by rw[zc6];exact zH.2 ⟨h0,by omega⟩⟩
theorem zbL {nm:Nat} {t a:Int} (h0:0<=a) (h1:a<4):Fit nm t (14,a):=⟨by simp,by simp,by rw[zc7];exact zH.2 ⟨h0,by omega⟩⟩
theorem zdl {nm:Nat} {t:Int}:Fit nm t (4,0):=⟨by simp,by simp,rfl⟩
theorem fit_5 {nm:Nat} {t:Int}:Fit nm t (5,0):=⟨by simp,by simp,rfl⟩
theorem fit_6 {nm:Nat} {t:Int}:Fit nm t (6,0):=⟨by simp,by simp,rfl⟩
theorem Vd {nm:Nat} {t:Int}:Fit nm t (10,0):=⟨by simp,by simp,rfl⟩
theorem Zi {nm:Nat} {t:Int}:Fit nm t (11,0):=⟨by simp,by simp,rfl⟩
theorem Yh {nm:Nat} {t:Int}:Fit nm t (12,0):=⟨by simp,by simp,rfl⟩
theorem zdI {nm:Nat} {t:Int}:Fit nm t (15,0):=⟨by simp,by simp,rfl⟩
theorem Ve {nm:Nat} {t:Int}:Fit nm t (16,0):=⟨by simp,by simp,rfl⟩
theorem Vf {nm:Nat} {t:Int}:Fit nm t (17,0):=⟨by simp,by simp,rfl⟩
theorem Vg {nm:Nat} {t:Int}:Fit nm t (18,0):=⟨by simp,by simp,rfl⟩
set_option maxHeartbeats 1000000 in
theorem Zu (w:World) (b:Nat) (a:Option Addr) (len zp p:Nat) (n t:Int) (hr:Rd w b a len zp p) (hp:p+4<=1000000) (hn0:0<=n) (hn2:n<=2) (ht1:1<=t) (X7:t<=4) :
 Calls Tryz.prog 188 #[.pointer (some ⟨b,0,none⟩),.int .i64 n,.int .i64 t] w fun e w'=>∃v ops p',e=.returned v/\yh w.heap.size w' v ops/\(ops.length:Int)=n/\p<=p'/\p'<=p+4/\Rd w' b a len zp p'/\w.grownBy w' (some b)/\∀nm,Fits nm t ops:=by
 obtain⟨m,rfl⟩:=Int.eq_ofNat_of_zero_le hn0
 have hbw:b<w.heap.size:=World.block_lt_of_cell? _ _ hr.s
 go_enter Tryz.func188,Tryz.ntmps188
 go_wp2
 go_loopg [7,8] m (fun g v i wr=>∃(L:zL) (q:Nat),L.length<=m/\g=m - L.length/\i=.int .i64 L.length/\yh w.heap.size wr v L/\p<=q/\q<=p+2 * L.length/\Rd wr b a len zp q/\w.grownBy wr (some b)/\Hid (∀nm,Fits nm t L))
 case atStart=>exact⟨[],p,Nat.zero_le _,rfl,rfl,yh.made w,Nat.le_refl _,by simp,Rd.kept hr hr zD (World.grownBy_alloc w _ none) (fun g e=>by cases e),qc (vD _ _) _,fun _=>Fits.nil⟩
 case round =>
  obtain⟨L,q,hk,rfl,rfl,zS,hpq,hqp,hrd,hgr,HF⟩:=hrel
  by_cases hlt:L.length<m
  ·have hkz:(L.length:Int)<(m:Int):=by omega
   have hsz:=hgr.size
   go_wp2_with fail
   refine(yU _ _ _ _ _ _ _ hrd (by omega) (by omega) (by omega)).mono ?_
   rintro e w1 ⟨x,rfl,hx0,hx1,xe,hg1⟩
   have wW:yh w.heap.size w1 _ L:=zS.kept hg1 (fun g e h=>by cases e;have:=zS.lt _ h;omega)
   have xK:=zK hgr hg1
   have hsz1:=xK.size
   clear zS hrd hgr hg1
   by_cases h0:x=0
   ·subst h0
    go_wp2_with (at_builtin;refine yj _ (by rfl) _ _ (by rfl) _ _ L (by rfl) wW _ _ _ (by rfl) (by omega) (by omega) ?_;intro g cp w2 hrow2 hg2 hBg xF)
    obtain⟨qY,qZ⟩:=yc hr xe xK wW hg2
    clear hg2 hBg xF wW xe xK
    go_wp2
    go_roundg (m - (L.length+1))
    case measure=>omega
    case rel=>exact⟨_,q+1,by simp;omega,by simp,by simp,hrow2,by omega,by simp;omega,qY,qZ,fun nm=>(HF.out nm).snoc Zi⟩
   have e0:(x == 0)=false:=zG.2 h0
   by_cases h1:x=1
   ·subst h1
    go_wp2_with fail
    refine(yU _ _ _ _ _ _ _ xe (by omega) (by omega) (by omega)).mono ?_
    rintro e w3 ⟨y,rfl,hy0,hy1,xu,hg3⟩
    have hrow3:yh w.heap.size w3 _ L:=wW.kept hg3 (fun g e h=>by cases e;have:=wW.lt _ h;omega)
    have qK:=zK xK hg3
    have Vn:=qK.size
    clear wW xe xK hg3 hsz1
    go_wp2_with (at_builtin;refine yj _ (by rfl) _ _ (by rfl) _ _ L (by rfl) hrow3 _ _ _ (by rfl) (by omega) (by omega) ?_;intro g cp w2 hrow2 hg2 hBg xF)
    obtain⟨qY,qZ⟩:=yc hr xu qK hrow3 hg2
    clear hg2 hBg xF hrow3 xu qK
    go_wp2
    go_roundg (m - (L.length+1))
    case measure=>omega
    case rel=>exact⟨_,q+1+1,by simp;omega,by simp,by simp,hrow2,by omega,by simp;omega,qY,qZ,fun nm=>(HF.out nm).snoc (ZO hy0 (by omega))⟩
   ·have e1:(x == 1)=false:=zG.2 h1
    go_wp2_with fail
    refine(yU _ _ _ _ _ _ _ xe (by omega) (by omega) (by omega)).mono ?_
    rintro e w3 ⟨y,rfl,hy0,hy1,xu,hg3⟩
    have hrow3:yh w.heap.size w3 _ L:=wW.kept hg3 (fun g e h=>by cases e;have:=wW.lt _ h;omega)
    have qK:=zK xK hg3
    have Vn:=qK.size
    clear wW xe xK hg3 hsz1
    go_wp2_with (at_builtin;refine yj _ (by rfl) _ _ (by rfl) _ _ L (by rfl) hrow3 _ _ _ (by rfl) (by omega) (by omega) ?_;intro g cp w2 hrow2 hg2 hBg xF)
    obtain⟨qY,qZ⟩:=yc hr xu qK hrow3 hg2
    clear hg2 hBg xF hrow3 xu qK
    go_wp2
    go_roundg (m - (L.length+1))
    case measure=>omega
    case rel=>exact⟨_,q+1+1,by simp;omega,by simp,by simp,hrow2,by omega,by simp;omega,qY,qZ,fun nm=>(HF.out nm).snoc (vV hy0 hy1)⟩
  ·obtain rfl:m=L.length:=by omega
   go_wp2
   go_ret
   exact⟨_,L,q,rfl,zS,rfl,hpq,by omega,hrd,hgr,HF.out⟩
set_option maxHeartbeats 1000000 in
theorem WN (w:World) (b:Nat) (a:Option Addr) (len zp p:Nat) (t:Int) (hr:Rd w b a len zp p) (hp:p+2<=1000000) (ht1:1<=t) (X7:t<=4) :
 Calls Tryz.prog 187 #[.pointer (some ⟨b,0,none⟩),.int .i64 t] w fun e w'=>∃(k q:Int) (p':Nat),e=.returned (.agg #[.int .i64 k,.int .i64 q])/\p<=p'/\p'<=p+2/\Rd w' b a len zp p'/\w.grownBy w' (some b)/\∀nm,Fit nm t (k,q):=by
 have hbw:b<w.heap.size:=World.block_lt_of_cell? _ _ hr.s
 have VW:=Rd.kept hr hr zD (World.grownBy_alloc w (.cells #[.int .i64 0,.int .i64 0] 33) none) (fun g e=>by cases e)
 have hgA:=qc (vD w (some b)) (.cells #[.int .i64 0,.int .i64 0] 33)
 have c0:(w.alloc (.cells #[.int .i64 0,.int .i64 0] 33)).rowIs w.heap.size 33 2 (fun _=>.int .i64 0):=⟨_,Go.Deep.blk_alloc_new _ _,rfl,fun i hi=>by match i,hi with | 0,_=>rfl | 1,_=>rfl⟩
 go_enter Tryz.func187,Tryz.ntmps187
 go_wp2_with fail
 generalize w.alloc (.cells #[.int .i64 0,.int .i64 0] 33)=W0 at *
 have hsz:=hgA.size
 refine(yU _ _ _ _ _ _ _ VW (by omega) (by omega) (by omega)).mono ?_
 rintro e w1 ⟨x,rfl,hx0,hx1,xe,hg1⟩
 have c1:w1.rowIs w.heap.size 33 2 (fun _=>.int .i64 0):=c0.of_block (hg1.block _ c0.lt (by simp;omega))
 have xK:=zK hgA hg1
 clear VW hgA hg1 c0
 by_cases h0:x=0
 ·subst h0
  obtain⟨f0,f1,c0',c1'⟩:w1.frozen? ⟨w.heap.size,0,none⟩=false/\w1.frozen? ⟨w.heap.size,1,none⟩=false/\w1.cell? ⟨w.heap.size,0,none⟩=some (.int .i64 0)/\w1.cell? ⟨w.heap.size,1,none⟩=some (.int .i64 0):=⟨c1.frozen 0,c1.frozen 1,c1.cell (by omega),c1.cell (by omega)⟩
  have R:=fun v1 v2=>wA hr xe xK zD 0 1 v1 v2
  clear c1 xe xK
  go_wp2
  exact bodyPost_ret (v:=.agg #[.int .i64 4,.int .i64 0]) (by simp[results,Tryz.results187,go_sem,c0',c1']) rfl ⟨_,_,_,rfl,by omega,by omega,(R _ _).1,(R _ _).2,fun _=>zdl⟩
 have e0:(x == 0)=false:=zG.2 h0
 by_cases h1:x=1
 ·subst h1
  obtain⟨f0,f1,c0',c1'⟩:w1.frozen? ⟨w.heap.size,0,none⟩=false/\w1.frozen? ⟨w.heap.size,1,none⟩=false/\w1.cell? ⟨w.heap.size,0,none⟩=some (.int .i64 0)/\w1.cell? ⟨w.heap.size,1,none⟩=some (.int .i64 0):=⟨c1.frozen 0,c1.frozen 1,c1.cell (by omega),c1.cell (by omega)⟩
  have R:=fun v1 v2=>wA hr xe xK zD 0 1 v1 v2
  clear c1 xe xK
  go_wp2
  exact bodyPost_ret (v:=.agg #[.int .i64 16,.int .i64 0]) (by simp[results,Tryz.results187,go_sem,c0',c1']) rfl ⟨_,_,_,rfl,by omega,by omega,(R _ _).1,(R _ _).2,fun _=>Ve⟩
 have e1:(x == 1)=false:=zG.2 h1
 by_cases h2:x=2
 ·subst h2
  obtain⟨f0,f1,c0',c1'⟩:w1.frozen? ⟨w.heap.size,0,none⟩=false/\w1.frozen? ⟨w.heap.size,1,none⟩=false/\w1.cell? ⟨w.heap.size,0,none⟩=some (.int .i64 0)/\w1.cell? ⟨w.heap.size,1,none⟩=some (.int .i64 0):=⟨c1.frozen 0,c1.frozen 1,c1.cell (by omega),c1.cell (by omega)⟩
  have R:=fun v1 v2=>wA hr xe xK zD 0 1 v1 v2
  clear c1 xe xK
  go_wp2
  exact bodyPost_ret (v:=.agg #[.int .i64 16,.int .i64 0]) (by simp[results,Tryz.results187,go_sem,c0',c1']) rfl ⟨_,_,_,rfl,by omega,by omega,(R _ _).1,(R _ _).2,fun _=>Ve⟩
 have e2:(x == 2)=false:=zG.2 h2
 have hsz1:=xK.size
 go_wp2_with fail
 refine(yU _ _ _ _ _ _ _ xe (by omega) (by omega) (by omega)).mono ?_
 rintro e w3 ⟨y,rfl,hy0,hy1,xu,hg3⟩
 have c3:w3.rowIs w.heap.size 33 2 (fun _=>.int .i64 0):=c1.of_block (hg3.block _ c1.lt (by simp;omega))
 have qK:=zK xK hg3
 clear xe xK hg3 c1
 obtain⟨f0,f1,c0',c1'⟩:w3.frozen? ⟨w.heap.size,0,none⟩=false/\w3.frozen? ⟨w.heap.size,1,none⟩=false/\w3.cell? ⟨w.heap.size,0,none⟩=some (.int .i64 0)/\w3.cell? ⟨w.heap.size,1,none⟩=some (.int .i64 0):=⟨c3.frozen 0,c3.frozen 1,c3.cell (by omega),c3.cell (by omega)⟩
 have R:=fun v1 v2=>wA hr xu qK zD 0 1 v1 v2
 clear c3 xu qK
 go_wp2
 exact bodyPost_ret (v:=.agg #[.int .i64 3,.int .i64 y]) (by simp[results,Tryz.results187,go_sem,c0',c1']) rfl ⟨_,_,_,rfl,by omega,by omega,(R _ _).1,(R _ _).2,fun _=>zaA hy0 hy1⟩
theorem qA {w w':World} (h:Below w.heap.size w w') (b:Option Nat):w.grownBy w' b:=⟨h.os,h.tape,h.output,h.size,fun k hk _=>h.block k hk⟩
theorem Q2 {w W w':World} {v:Value} {L:zL} {B:Nat} (zx:yh B w v L) (hg2:W.grownBy w' v.ownBlock) {p:Addr} (hp:p.block<B) (hW:Below w.heap.size w W) {u:Value} (h:w.cell? p=some u):w'.cell? p=some u :=
 hg2.cell (zc hW h) (fun e=>by have:=zx.lt _ e.symm;omega)
theorem K8 {w0 w W w':World} {v:Value} {L:zL} (zx:yh w0.heap.size w v L) (hg2:W.grownBy w' v.ownBlock) (hW:Below w.heap.size w W) (hb:Below w0.heap.size w0 w):Below w0.heap.size w0 w' :=
 (hb.trans (hW.mono hb.size)).grown hg2 (Nat.le_trans hb.size hW.size) (fun k e=>(zx.lt k e).1)
def vh:List Int->zL
 | x :: y :: l=>(x,y) :: vh l
 | _=>[]
theorem Xp:∀(k:Nat) (xs:List Int) (h:2 * k+1<xs.length),vh (xs.take (2 * k+2))=vh (xs.take (2 * k)) ++ [(xs[2 * k],xs[2 * k+1])]
 | 0,x :: y :: l,_=>by simp[vh]
 | k+1,x :: y :: l,h=>by
  have e1:2 * (k+1)+2=(2 * k+2)+2:=by omega
  have e2:2 * (k+1)=2 * k+2:=by omega
  have ih:=Xp k l (by simp at h;omega)
  simp only[e2,List.take_succ_cons,vh,ih,List.getElem_cons_succ,List.cons_append]
 | _,[],h=>by simp at h
 | _,[x],h=>by simp at h
theorem JN:∀(k:Nat) (xs:List Int),xs.length<=2 * k+1->vh (xs.take (2 * k))=vh xs
 | 0,[],_=>rfl
 | 0,[x],_=>rfl
 | 0,x :: y :: l,h=>by simp at h
 | k+1,[],_=>rfl
 | k+1,[x],_=>by
  have e2:2 * (k+1)=2 * k+2:=by omega
  simp only[e2,List.take_succ_cons,List.take_nil]
 | k+1,x :: y :: l,h=>by
  have e2:2 * (k+1)=2 * k+2:=by omega
  have ih:=JN k l (by simp at h;omega)
  simp only[e2,List.take_succ_cons,vh,ih]
set_option maxRecDepth 100000 in
set_option maxHeartbeats 1000000 in
theorem WO (w:World) (g zp:Nat) (xs:List Int) (hx:∀i,(hi:i<xs.length)->w.cell? ⟨g,i,none⟩=some (.int .i64 xs[i])) (hl:xs.length<=20) :
 Calls Tryz.prog 186 #[.slice (some ⟨g,0,none⟩) xs.length zp] w fun e w'=>∃v ops,e=.returned v/\yh w.heap.size w' v ops/\ops.length * 2<=xs.length/\xs.length<=ops.length * 2+1/\Below w.heap.size w w'/\ops=vh xs:=by
 go_enter Tryz.func186,Tryz.ntmps186
 go_wp2
 go_loopg [3,4] xs.length (fun d v i wr=>∃(L:zL) (k:Nat),k<=xs.length/\d=xs.length - k/\i=.int .i64 k/\yh w.heap.size wr v L/\Below w.heap.size w wr/\Hid (k=L.length * 2/\L=vh (xs.take (2 * L.length))))
 case atStart=>exact⟨[],0,Nat.zero_le _,rfl,rfl,yh.made w,zB _ _,rfl,rfl⟩
 case round =>
  obtain⟨L,k,hk,rfl,rfl,zS,hb,HK⟩:=hrel
  by_cases hlt:k+1<xs.length
  ·have hkz:(k:Int)+1<(xs.length:Int):=by omega
   have hkz0:(k:Int)<(xs.length:Int):=by omega
   have hk0:(0:Int)<=(k:Int):=by omega
   have hk1:(0:Int)<=(k:Int)+1:=by omega
   have hw:IntKind.i64.wrap ((k:Int)+1)=(k:Int)+1:=by rw[IntKind.wrap_i64];omega
   have d0:=zc hb (hx k (by omega))
   have d1:=zc hb (hx (k+1) (by omega))
   have hsz:=hb.size
   have hgw:g<w.heap.size:=World.block_lt_of_cell? _ _ (hx k (by omega))
   have YJ:L.length<=20:=by have:=HK.out.1;omega
   have HP:Hid (∀y0 y1,xs[k]?=some y0->xs[k+1]?=some y1->L ++ [(y0,y1)]=vh (xs.take (2 * (L ++ [(y0,y1)]).length))):=by
    intro y0 y1 e0 e1
    obtain⟨hk2,hL2⟩:=HK.out
    have ek:k=2 * L.length:=by omega
    have e2:2 * (L ++ [(y0,y1)]).length=2 * L.length+2:=by simp;omega
    have g0:=List.getElem?_eq_some_iff.1 (ek ▸ e0)
    have g1:=List.getElem?_eq_some_iff.1 (ek ▸ e1)
    rw[e2,Xp L.length xs (by omega),<-hL2,g0.2,g1.2]
   have HP0:Hid (xs[k]?=some xs[k]):=List.getElem?_eq_getElem (by omega)
   have HP1:Hid (xs[k+1]?=some xs[k+1]):=List.getElem?_eq_getElem (by omega)
   have HPP:Hid (L ++ [(xs[k],xs[k+1])]=vh (xs.take (2 * (L ++ [(xs[k],xs[k+1])]).length))):=HP.out _ _ HP0.out HP1.out
   clear HP HP0 HP1
   generalize xs[k]=x0 at d0 HPP
   generalize xs[k+1]=x1 at d1 HPP
   go_wp2_with fail
   go_region_held3 (fun w'=>w'.cell? ⟨g,k,none⟩=some (.int .i64 x0)/\w'.cell? ⟨g,k+1,none⟩=some (.int .i64 x1))
    (first | exact⟨Q2 zS hg2 hgw (zB _ _).drew d0,Q2 zS hg2 hgw (zB _ _).drew d1⟩ | go_keep)
    ((refine Qk _ (by rfl) _ _ (by rfl) w.heap.size _ L (by rfl) (World.ownsRow.alloc zS _) [(x0,x1)] wr.heap.size _ (by rfl) (World.news_of_block (Go.Deep.blk_alloc_new wr _)) (by simp) (by simp;omega) (by simp;omega) ?_;intro g' cp w2 hrow2 hg2 hBg xF))
   have hb2:Below w.heap.size w w2:=K8 zS hg2 (zB _ _).drew hb
   have HK2:Hid (k+2=(L ++ [(x0,x1)]).length * 2/\L ++ [(x0,x1)]=vh (xs.take (2 * (L ++ [(x0,x1)]).length))):=by have:=HK.out.1;exact⟨by simp;omega,HPP.out⟩
   clear hg2 zS hb d0 d1 HK HPP hBg xF hw
   go_wp2
   go_roundg (xs.length - (k+2))
   case measure=>omega
   case rel=>exact⟨_,k+2,by omega,rfl,by go_num,hrow2,hb2,HK2⟩
  ·go_wp2
   go_ret
   exact⟨_,L,rfl,zS,by have:=HK.out.1;omega,by have:=HK.out.1;omega,hb,by rw[<-JN L.length xs (by have:=HK.out.1;omega)];exact HK.out.2⟩
theorem vL {w0 w:World} {b:Nat} {a:Option Addr} {len zp p0 p:Nat} (h0:Rd w0 b a len zp p0) (hr:Rd w b a len zp p) (hg:w0.grownBy w (some b)) (xs:List Int) (cs:Array Value) (t:TypeId) (c:Nat) (hcs:cs=(xs.map fun x=>Value.int .i64 x).toArray) (hl:xs.length<=20) :
 Calls Tryz.prog 186 #[.slice (some ⟨w.heap.size,0,none⟩) xs.length c] (w.alloc (.cells cs t)) fun e w'=>∃v ops,e=.returned v/\yh w0.heap.size w' v ops/\ops.length * 2<=xs.length/\xs.length<=ops.length * 2+1/\Rd w' b a len zp p/\w0.grownBy w' (some b)/\ops=vh xs:=by
 subst hcs
 refine(WO _ w.heap.size c xs (fun i hi=>?_) hl).mono ?_
 ·simp[hi]
 ·rintro e w' ⟨v,ops,rfl,zS,hlen,hlen',hb,Ym⟩
  have hA:=World.grownBy_alloc w (.cells (xs.map fun x=>Value.int .i64 x).toArray t) none
  have hN:w.grownBy w' none:=⟨hb.os.trans hA.os,hb.tape.trans hA.tape,hb.output.trans hA.output,Nat.le_trans hA.size hb.size,fun i hi hn=>(hb.block i (Nat.lt_of_lt_of_le hi hA.size)).trans (hA.block i hi hn)⟩
  exact⟨v,ops,rfl,zS.mono (by have:=hg.size;simp;omega),hlen,hlen',Rd.kept h0 hr hg.size hN (fun g e=>by cases e),ql hg hN (fun g e=>by cases e),Ym⟩
theorem qx {w0 w:World} {b:Nat} {a:Option Addr} {len zp p0 p:Nat} (h0:Rd w0 b a len zp p0) (hg:w0.grownBy w (some b)) (hr:Rd w b a len zp p) (n:Int) (hp:p<=1000000) (h1:1<=n) (h2:n<=1000000) :
 Calls Tryz.prog 111 #[.pointer (some ⟨b,0,none⟩),.int .i64 n] w fun e w'=>∃x:Int,e=.returned (.int .i64 x)/\0<=x/\x<n/\Rd w' b a len zp (p+1)/\w0.grownBy w' (some b)/\∀v L,yh w0.heap.size w v L->yh w0.heap.size w' v L:=by
 have hb:b<w0.heap.size:=World.block_lt_of_cell? _ _ h0.s
 refine(yU _ _ _ _ _ _ _ hr hp h1 h2).mono ?_
 rintro e w' ⟨x,rfl,hx0,hx1,hrd,hgr⟩
 exact⟨x,rfl,hx0,hx1,hrd,zK hg hgr,fun v L h=>h.kept hgr (fun g e k=>by cases e;have:=h.lt _ k;omega)⟩
set_option maxRecDepth 100000 in
set_option maxHeartbeats 1000000 in
theorem Xj (w:World) (b:Nat) (a:Option Addr) (len zp p:Nat) (t:Int) (hr:Rd w b a len zp p) (hp:p+4<=1000000) (ht1:1<=t) (X7:t<=4) :
 Calls Tryz.prog 189 #[.pointer (some ⟨b,0,none⟩),.int .i64 t] w fun e w'=>∃v ops p',e=.returned v/\yh w.heap.size w' v ops/\ops.length<=3/\1<=ops.length/\p<=p'/\p'<=p+4/\Rd w' b a len zp p'/\w.grownBy w' (some b)/\∀nm,Fits nm t ops:=by
 go_enter Tryz.func189,Tryz.ntmps189
 go_wp2_with fail
 refine(vL hr hr (vD _ _) [11,0] _ _ _ rfl (by decide)).mono ?_
 rintro e w1 ⟨v1,zbe,rfl,wW,hl1,hm1,xe,xK,Ym⟩
 have HF:Hid (∀nm,Fits nm t zbe):=fun nm=>by rw[Ym];exact .one Zi
 clear Ym
 go_wp2_with fail
 refine(qx hr xK xe _ (by omega) (by omega) (by omega)).mono ?_
 rintro e w2 ⟨x,rfl,hx0,hx1,qY,qZ,hkp⟩
 have hrow2:=hkp _ _ wW
 clear hkp wW xe xK
 simp only[List.length_cons,List.length_nil] at hl1 hm1
 have hr1:=hr
 by_cases h0:x=0
 ·subst h0
  go_wp2_with fail
  refine(qx hr qZ qY _ (by omega) (by omega) (by omega)).mono ?_
  rintro e w3 ⟨u,rfl,hu0,hu1,xu,qK,_⟩
  clear hrow2 qY qZ
  go_wp2_with fail
  refine(vL hr xu qK [2,u] _ _ _ rfl (by simp)).mono ?_
  rintro e w4 ⟨v4,uj,rfl,hrow4,hl4,Ur,Xd,xq,Ym⟩
  have HF:Hid (∀nm,Fits nm t uj):=fun nm=>by rw[Ym];exact .one (vV hu0 hu1)
  clear Ym
  simp only[List.length_cons,List.length_nil] at hl4 Ur
  obtain⟨q4,hq4,hq4',qQ⟩:∃q4,p+1<=q4/\q4<=p+2/\Rd w4 b a len zp q4:=⟨_,by omega,by omega,Xd⟩
  clear Xd xu qK
  clear hr1
  go_wp2_with fail
  refine(qx hr xq qQ _ (by omega) (by omega) (by omega)).mono ?_
  rintro e w5 ⟨y,rfl,hy0,hy1,qH,hgr5,hkp⟩
  have yo:=hkp _ _ hrow4
  have hsz5:=hgr5.size
  clear hkp hrow4 qQ xq
  by_cases k0:y=0
  ·subst k0
   go_wp2_with (at_builtin;refine yj _ (by rfl) _ _ (by rfl) _ _ uj (by rfl) yo _ _ _ (by rfl) (by omega) (by omega) ?_;intro g cp w6 yD jf hBg xF)
   obtain⟨xQ,xt⟩:=yc hr qH hgr5 yo jf
   clear jf hBg xF
   go_wp2
   go_ret
   exact⟨_,_,_,rfl,yD,by simp;omega,by simp,by omega,by omega,xQ,xt,fun nm=>(HF.out nm).snoc Yh⟩
  have f0:(y == 0)=false:=zG.2 k0
  by_cases k1:y=1
  ·subst k1
   go_wp2_with fail
   refine(qx hr hgr5 qH _ (by omega) (by omega) (by omega)).mono ?_
   rintro e w7 ⟨z,rfl,hz0,hz1,Yn,uC,hkp⟩
   have jp:=hkp _ _ yo
   have WJ:=uC.size
   clear hkp yo qH hgr5
   go_wp2_with (at_builtin;refine yj _ (by rfl) _ _ (by rfl) _ _ uj (by rfl) jp _ _ _ (by rfl) (by omega) (by omega) ?_;intro g cp w6 yD jf hBg xF)
   obtain⟨xQ,xt⟩:=yc hr Yn uC jp jf
   clear jf hBg xF
   go_wp2
   go_ret
   exact⟨_,_,_,rfl,yD,by simp;omega,by simp,by omega,by omega,xQ,xt,fun nm=>(HF.out nm).snoc (vU hz0 hz1)⟩
  have f1:(y == 1)=false:=zG.2 k1
  by_cases k2:y=2
  ·subst k2
   go_wp2_with fail
   refine(qx hr hgr5 qH _ (by omega) (by omega) (by omega)).mono ?_
   rintro e w7 ⟨z,rfl,hz0,hz1,Yn,uC,hkp⟩
   have jp:=hkp _ _ yo
   have WJ:=uC.size
   clear hkp yo qH hgr5
   go_wp2_with (at_builtin;refine yj _ (by rfl) _ _ (by rfl) _ _ uj (by rfl) jp _ _ _ (by rfl) (by omega) (by omega) ?_;intro g cp w6 yD jf hBg xF)
   obtain⟨xQ,xt⟩:=yc hr Yn uC jp jf
   clear jf hBg xF
   go_wp2
   go_ret
   exact⟨_,_,_,rfl,yD,by simp;omega,by simp,by omega,by omega,xQ,xt,fun nm=>(HF.out nm).snoc (vU hz0 hz1)⟩
  have f2:(y == 2)=false:=zG.2 k2
  by_cases k3:y=3
  ·subst k3
   go_wp2_with (at_builtin;refine yj _ (by rfl) _ _ (by rfl) _ _ uj (by rfl) yo _ _ _ (by rfl) (by omega) (by omega) ?_;intro g cp w6 yD jf hBg xF)
   obtain⟨xQ,xt⟩:=yc hr qH hgr5 yo jf
   clear jf hBg xF
   go_wp2
   go_ret
   exact⟨_,_,_,rfl,yD,by simp;omega,by simp,by omega,by omega,xQ,xt,fun nm=>(HF.out nm).snoc Vf⟩
  have f3:(y == 3)=false:=zG.2 k3
  by_cases k4:y=4
  ·subst k4
   go_wp2_with (at_builtin;refine yj _ (by rfl) _ _ (by rfl) _ _ uj (by rfl) yo _ _ _ (by rfl) (by omega) (by omega) ?_;intro g cp w6 yD jf hBg xF)
   obtain⟨xQ,xt⟩:=yc hr qH hgr5 yo jf
   clear jf hBg xF
   go_wp2
   go_ret
   exact⟨_,_,_,rfl,yD,by simp;omega,by simp,by omega,by omega,xQ,xt,fun nm=>(HF.out nm).snoc Vg⟩
  have f4:(y == 4)=false:=zG.2 k4
  go_wp2
  go_ret
  exact⟨_,_,_,rfl,yo,by omega,by omega,by omega,by omega,qH,hgr5,fun nm=>HF.out nm⟩
 have e0:(x == 0)=false:=zG.2 h0
 by_cases h1:x=1
 ·subst h1
  go_wp2_with fail
  refine(vL hr qY qZ [11,0,12,0] _ _ _ rfl (by simp)).mono ?_
  rintro e w4 ⟨v4,uj,rfl,hrow4,hl4,Ur,Xd,xq,Ym⟩
  have HF:Hid (∀nm,Fits nm t uj):=fun nm=>by rw[Ym];exact Fits.append (.one Zi) (.one Yh)
  clear Ym
  simp only[List.length_cons,List.length_nil] at hl4 Ur
  obtain⟨q4,hq4,hq4',qQ⟩:∃q4,p+1<=q4/\q4<=p+2/\Rd w4 b a len zp q4:=⟨_,by omega,by omega,Xd⟩
  clear Xd hrow2 qY qZ
  clear hr1
  go_wp2_with fail
  refine(qx hr xq qQ _ (by omega) (by omega) (by omega)).mono ?_
  rintro e w5 ⟨y,rfl,hy0,hy1,qH,hgr5,hkp⟩
  have yo:=hkp _ _ hrow4
  have hsz5:=hgr5.size
  clear hkp hrow4 qQ xq
  by_cases k0:y=0
  ·subst k0
   go_wp2_with (at_builtin;refine yj _ (by rfl) _ _ (by rfl) _ _ uj (by rfl) yo _ _ _ (by rfl) (by omega) (by omega) ?_;intro g cp w6 yD jf hBg xF)
   obtain⟨xQ,xt⟩:=yc hr qH hgr5 yo jf
   clear jf hBg xF
   go_wp2
   go_ret
   exact⟨_,_,_,rfl,yD,by simp;omega,by simp,by omega,by omega,xQ,xt,fun nm=>(HF.out nm).snoc Yh⟩
  have f0:(y == 0)=false:=zG.2 k0
  by_cases k1:y=1
  ·subst k1
   go_wp2_with fail
   refine(qx hr hgr5 qH _ (by omega) (by omega) (by omega)).mono ?_
   rintro e w7 ⟨z,rfl,hz0,hz1,Yn,uC,hkp⟩
   have jp:=hkp _ _ yo
   have WJ:=uC.size
   clear hkp yo qH hgr5
   go_wp2_with (at_builtin;refine yj _ (by rfl) _ _ (by rfl) _ _ uj (by rfl) jp _ _ _ (by rfl) (by omega) (by omega) ?_;intro g cp w6 yD jf hBg xF)
   obtain⟨xQ,xt⟩:=yc hr Yn uC jp jf
   clear jf hBg xF
   go_wp2
   go_ret
   exact⟨_,_,_,rfl,yD,by simp;omega,by simp,by omega,by omega,xQ,xt,fun nm=>(HF.out nm).snoc (vU hz0 hz1)⟩
  have f1:(y == 1)=false:=zG.2 k1
  by_cases k2:y=2
  ·subst k2
   go_wp2_with fail
   refine(qx hr hgr5 qH _ (by omega) (by omega) (by omega)).mono ?_
   rintro e w7 ⟨z,rfl,hz0,hz1,Yn,uC,hkp⟩
   have jp:=hkp _ _ yo
   have WJ:=uC.size
   clear hkp yo qH hgr5
   go_wp2_with (at_builtin;refine yj _ (by rfl) _ _ (by rfl) _ _ uj (by rfl) jp _ _ _ (by rfl) (by omega) (by omega) ?_;intro g cp w6 yD jf hBg xF)
   obtain⟨xQ,xt⟩:=yc hr Yn uC jp jf
   clear jf hBg xF
   go_wp2
   go_ret
   exact⟨_,_,_,rfl,yD,by simp;omega,by simp,by omega,by omega,xQ,xt,fun nm=>(HF.out nm).snoc (vU hz0 hz1)⟩
  have f2:(y == 2)=false:=zG.2 k2
  by_cases k3:y=3
  ·subst k3
   go_wp2_with (at_builtin;refine yj _ (by rfl) _ _ (by rfl) _ _ uj (by rfl) yo _ _ _ (by rfl) (by omega) (by omega) ?_;intro g cp w6 yD jf hBg xF)
   obtain⟨xQ,xt⟩:=yc hr qH hgr5 yo jf
   clear jf hBg xF
   go_wp2
   go_ret
   exact⟨_,_,_,rfl,yD,by simp;omega,by simp,by omega,by omega,xQ,xt,fun nm=>(HF.out nm).snoc Vf⟩
  have f3:(y == 3)=false:=zG.2 k3
  by_cases k4:y=4
  ·subst k4
   go_wp2_with (at_builtin;refine yj _ (by rfl) _ _ (by rfl) _ _ uj (by rfl) yo _ _ _ (by rfl) (by omega) (by omega) ?_;intro g cp w6 yD jf hBg xF)
   obtain⟨xQ,xt⟩:=yc hr qH hgr5 yo jf
   clear jf hBg xF
   go_wp2
   go_ret
   exact⟨_,_,_,rfl,yD,by simp;omega,by simp,by omega,by omega,xQ,xt,fun nm=>(HF.out nm).snoc Vg⟩
  have f4:(y == 4)=false:=zG.2 k4
  go_wp2
  go_ret
  exact⟨_,_,_,rfl,yo,by omega,by omega,by omega,by omega,qH,hgr5,fun nm=>HF.out nm⟩
 have e1:(x == 1)=false:=zG.2 h1
 by_cases h2:x=2
 ·subst h2
  go_wp2_with fail
  refine(vL hr qY qZ [11,0,12,0] _ _ _ rfl (by simp)).mono ?_
  rintro e w4 ⟨v4,uj,rfl,hrow4,hl4,Ur,Xd,xq,Ym⟩
  have HF:Hid (∀nm,Fits nm t uj):=fun nm=>by rw[Ym];exact Fits.append (.one Zi) (.one Yh)
  clear Ym
  simp only[List.length_cons,List.length_nil] at hl4 Ur
  obtain⟨q4,hq4,hq4',qQ⟩:∃q4,p+1<=q4/\q4<=p+2/\Rd w4 b a len zp q4:=⟨_,by omega,by omega,Xd⟩
  clear Xd hrow2 qY qZ
  clear hr1
  go_wp2_with fail
  refine(qx hr xq qQ _ (by omega) (by omega) (by omega)).mono ?_
  rintro e w5 ⟨y,rfl,hy0,hy1,qH,hgr5,hkp⟩
  have yo:=hkp _ _ hrow4
  have hsz5:=hgr5.size
  clear hkp hrow4 qQ xq
  by_cases k0:y=0
  ·subst k0
   go_wp2_with (at_builtin;refine yj _ (by rfl) _ _ (by rfl) _ _ uj (by rfl) yo _ _ _ (by rfl) (by omega) (by omega) ?_;intro g cp w6 yD jf hBg xF)
   obtain⟨xQ,xt⟩:=yc hr qH hgr5 yo jf
   clear jf hBg xF
   go_wp2
   go_ret
   exact⟨_,_,_,rfl,yD,by simp;omega,by simp,by omega,by omega,xQ,xt,fun nm=>(HF.out nm).snoc Yh⟩
  have f0:(y == 0)=false:=zG.2 k0
  by_cases k1:y=1
  ·subst k1
   go_wp2_with fail
   refine(qx hr hgr5 qH _ (by omega) (by omega) (by omega)).mono ?_
   rintro e w7 ⟨z,rfl,hz0,hz1,Yn,uC,hkp⟩
   have jp:=hkp _ _ yo
   have WJ:=uC.size
   clear hkp yo qH hgr5
   go_wp2_with (at_builtin;refine yj _ (by rfl) _ _ (by rfl) _ _ uj (by rfl) jp _ _ _ (by rfl) (by omega) (by omega) ?_;intro g cp w6 yD jf hBg xF)
   obtain⟨xQ,xt⟩:=yc hr Yn uC jp jf
   clear jf hBg xF
   go_wp2
   go_ret
   exact⟨_,_,_,rfl,yD,by simp;omega,by simp,by omega,by omega,xQ,xt,fun nm=>(HF.out nm).snoc (vU hz0 hz1)⟩
  have f1:(y == 1)=false:=zG.2 k1
  by_cases k2:y=2
  ·subst k2
   go_wp2_with fail
   refine(qx hr hgr5 qH _ (by omega) (by omega) (by omega)).mono ?_
   rintro e w7 ⟨z,rfl,hz0,hz1,Yn,uC,hkp⟩
   have jp:=hkp _ _ yo
   have WJ:=uC.size
   clear hkp yo qH hgr5
   go_wp2_with (at_builtin;refine yj _ (by rfl) _ _ (by rfl) _ _ uj (by rfl) jp _ _ _ (by rfl) (by omega) (by omega) ?_;intro g cp w6 yD jf hBg xF)
   obtain⟨xQ,xt⟩:=yc hr Yn uC jp jf
   clear jf hBg xF
   go_wp2
   go_ret
   exact⟨_,_,_,rfl,yD,by simp;omega,by simp,by omega,by omega,xQ,xt,fun nm=>(HF.out nm).snoc (vU hz0 hz1)⟩
  have f2:(y == 2)=false:=zG.2 k2
  by_cases k3:y=3
  ·subst k3
   go_wp2_with (at_builtin;refine yj _ (by rfl) _ _ (by rfl) _ _ uj (by rfl) yo _ _ _ (by rfl) (by omega) (by omega) ?_;intro g cp w6 yD jf hBg xF)
   obtain⟨xQ,xt⟩:=yc hr qH hgr5 yo jf
   clear jf hBg xF
   go_wp2
   go_ret
   exact⟨_,_,_,rfl,yD,by simp;omega,by simp,by omega,by omega,xQ,xt,fun nm=>(HF.out nm).snoc Vf⟩
  have f3:(y == 3)=false:=zG.2 k3
  by_cases k4:y=4
  ·subst k4
   go_wp2_with (at_builtin;refine yj _ (by rfl) _ _ (by rfl) _ _ uj (by rfl) yo _ _ _ (by rfl) (by omega) (by omega) ?_;intro g cp w6 yD jf hBg xF)
   obtain⟨xQ,xt⟩:=yc hr qH hgr5 yo jf
   clear jf hBg xF
   go_wp2
   go_ret
   exact⟨_,_,_,rfl,yD,by simp;omega,by simp,by omega,by omega,xQ,xt,fun nm=>(HF.out nm).snoc Vg⟩
  have f4:(y == 4)=false:=zG.2 k4
  go_wp2
  go_ret
  exact⟨_,_,_,rfl,yo,by omega,by omega,by omega,by omega,qH,hgr5,fun nm=>HF.out nm⟩
 have e2:(x == 2)=false:=zG.2 h2
 obtain⟨q4,hq4,hq4',qQ⟩:∃q4,p+1<=q4/\q4<=p+2/\Rd w2 b a len zp q4:=⟨_,by omega,by omega,qY⟩
 have hrow4:=hrow2
 have xq:=qZ
 have hl4:=hl1
 clear hrow2 qZ qY
 clear hr1
 go_wp2_with fail
 refine(qx hr xq qQ _ (by omega) (by omega) (by omega)).mono ?_
 rintro e w5 ⟨y,rfl,hy0,hy1,qH,hgr5,hkp⟩
 have yo:=hkp _ _ hrow4
 have hsz5:=hgr5.size
 clear hkp hrow4 qQ xq
 by_cases k0:y=0
 ·subst k0
  go_wp2_with (at_builtin;refine yj _ (by rfl) _ _ (by rfl) _ _ zbe (by rfl) yo _ _ _ (by rfl) (by omega) (by omega) ?_;intro g cp w6 yD jf hBg xF)
  obtain⟨xQ,xt⟩:=yc hr qH hgr5 yo jf
  clear jf hBg xF
  go_wp2
  go_ret
  exact⟨_,_,_,rfl,yD,by simp;omega,by simp,by omega,by omega,xQ,xt,fun nm=>(HF.out nm).snoc Yh⟩
 have f0:(y == 0)=false:=zG.2 k0
 by_cases k1:y=1
 ·subst k1
  go_wp2_with fail
  refine(qx hr hgr5 qH _ (by omega) (by omega) (by omega)).mono ?_
  rintro e w7 ⟨z,rfl,hz0,hz1,Yn,uC,hkp⟩
  have jp:=hkp _ _ yo
  have WJ:=uC.size
  clear hkp yo qH hgr5
  go_wp2_with (at_builtin;refine yj _ (by rfl) _ _ (by rfl) _ _ zbe (by rfl) jp _ _ _ (by rfl) (by omega) (by omega) ?_;intro g cp w6 yD jf hBg xF)
  obtain⟨xQ,xt⟩:=yc hr Yn uC jp jf
  clear jf hBg xF
  go_wp2
  go_ret
  exact⟨_,_,_,rfl,yD,by simp;omega,by simp,by omega,by omega,xQ,xt,fun nm=>(HF.out nm).snoc (vU hz0 hz1)⟩
 have f1:(y == 1)=false:=zG.2 k1
 by_cases k2:y=2
 ·subst k2
  go_wp2_with fail
  refine(qx hr hgr5 qH _ (by omega) (by omega) (by omega)).mono ?_
  rintro e w7 ⟨z,rfl,hz0,hz1,Yn,uC,hkp⟩
  have jp:=hkp _ _ yo
  have WJ:=uC.size
  clear hkp yo qH hgr5
  go_wp2_with (at_builtin;refine yj _ (by rfl) _ _ (by rfl) _ _ zbe (by rfl) jp _ _ _ (by rfl) (by omega) (by omega) ?_;intro g cp w6 yD jf hBg xF)
  obtain⟨xQ,xt⟩:=yc hr Yn uC jp jf
  clear jf hBg xF
  go_wp2
  go_ret
  exact⟨_,_,_,rfl,yD,by simp;omega,by simp,by omega,by omega,xQ,xt,fun nm=>(HF.out nm).snoc (vU hz0 hz1)⟩
 have f2:(y == 2)=false:=zG.2 k2
 by_cases k3:y=3
 ·subst k3
  go_wp2_with (at_builtin;refine yj _ (by rfl) _ _ (by rfl) _ _ zbe (by rfl) yo _ _ _ (by rfl) (by omega) (by omega) ?_;intro g cp w6 yD jf hBg xF)
  obtain⟨xQ,xt⟩:=yc hr qH hgr5 yo jf
  clear jf hBg xF
  go_wp2
  go_ret
  exact⟨_,_,_,rfl,yD,by simp;omega,by simp,by omega,by omega,xQ,xt,fun nm=>(HF.out nm).snoc Vf⟩
 have f3:(y == 3)=false:=zG.2 k3
 by_cases k4:y=4
 ·subst k4
  go_wp2_with (at_builtin;refine yj _ (by rfl) _ _ (by rfl) _ _ zbe (by rfl) yo _ _ _ (by rfl) (by omega) (by omega) ?_;intro g cp w6 yD jf hBg xF)
  obtain⟨xQ,xt⟩:=yc hr qH hgr5 yo jf
  clear jf hBg xF
  go_wp2
  go_ret
  exact⟨_,_,_,rfl,yD,by simp;omega,by simp,by omega,by omega,xQ,xt,fun nm=>(HF.out nm).snoc Vg⟩
 have f4:(y == 4)=false:=zG.2 k4
 go_wp2
 go_ret
 exact⟨_,_,_,rfl,yo,by omega,by omega,by omega,by omega,qH,hgr5,fun nm=>HF.out nm⟩
end Go.Proofs.YtjbgpcileapogaaGreat
