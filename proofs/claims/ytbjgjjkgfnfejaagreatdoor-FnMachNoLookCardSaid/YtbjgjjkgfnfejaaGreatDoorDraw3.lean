/-
  What draws, the small pieces: operations are gathered in rows of their own; l71Args, l71End, l71Look, l71Ops answer some operations (we need not know which), and but for the reader's place nothing that was there turns.
-/
import Derived.Test.YtbjgjjkgfnfejaaGreatDoorDraw1
import Derived.Deep.AppendLies
import Derived.Deep.RegionHeld3
namespace Go.Proofs.YtbjgjjkgfnfejaaGreatDoor
set_option maxHeartbeats 2000000
set_option maxRecDepth 100000
open Go.RowKit
def ul (ops:yH):List Value:=ops.flatMap fun o=>[zI o.1,zI o.2]
theorem YG (a b:yH):ul (a ++ b)=ul a ++ ul b:=by simp[ul]
theorem Zi (a:yH):(ul a).length=a.length * 2:=by
 induction a with
 | nil=>rfl
 | cons x l ih=>simp[ul] at ih ⊢;omega
theorem Xn (a:yH):∀(i:Nat) (h:i<a.length),(ul a)[i * 2]?=some (zI a[i].1)/\(ul a)[i * 2+1]?=some (zI a[i].2):=by
 induction a with
 | nil=>intro i h;exact absurd h yB
 | cons x l ih =>
  intro i h
  cases i with
  | zero=>exact⟨rfl,rfl⟩
  | succ i =>
   have:=ih i (by simpa using h)
   rw[show(i+1) * 2=i * 2+2 by omega]
   exact this
def ye (B:Nat) (w:World) (v:Value) (ops:yH):Prop:=w.ownsRow B 70 2 v ops.length (ul ops)
theorem ye.nil (B:Nat) (w:World):ye B w (zQ) []:=World.ownsRow_nil _ _ _ _
theorem ye.made (w:World):ye w.heap.size (w.alloc (.cells #[] 70)) (.slice (some ⟨w.heap.size,0,none⟩) 0 0) [] :=
 ⟨rfl,.inr ⟨w.heap.size,0,#[],rfl,Nat.le_refl _,Go.Deep.blk_alloc_new _ _,Nat.le_refl _,Nat.zero_le _,rfl,rfl⟩⟩
theorem ye.mono {B B':Nat} {w:World} {v:Value} {ops:yH} (h:ye B w v ops) (hB:B'<=B):ye B' w v ops:=by
 obtain⟨h1,h2⟩:=h
 refine⟨h1,?_⟩
 rcases h2 with h2 | ⟨g,cap,cur,hv,hg,r⟩
 ·exact .inl h2
 ·exact .inr ⟨g,cap,cur,hv,by omega,r⟩
theorem ye.kept {B:Nat} {w w':World} {v:Value} {ops:yH} {row:Option Nat} (h:ye B w v ops) (hg:w.grownBy w' row) (xp:∀g,row=some g->v.ownBlock≠some g):ye B w' v ops :=
 World.ownsRow.kept h hg (by
  cases row with
  | none=>cases hv:v.ownBlock with
   | none=>exact .inl rfl
   | some g=>exact .inr (by simp)
  | some g=>exact .inr (xp g rfl))
theorem ye.lt {B:Nat} {w:World} {v:Value} {ops:yH} (h:ye B w v ops):∀k,v.ownBlock=some k->B<=k/\k<w.heap.size:=World.ownsRow.lt h
theorem Rd.kept {w0 w w':World} {b:Nat} {a:Option Addr} {len cap p0 p:Nat} {row:Option Nat} (h0:Rd w0 b a len cap p0) (h:Rd w b a len cap p) (un:w0.heap.size<=w.heap.size) (k:w.grownBy w' row) (yd:∀g,row=some g->w0.heap.size<=g):Rd w' b a len cap p:=by
 have hb:b<w0.heap.size:=World.block_lt_of_cell? _ _ h0.s
 have ne:∀q,q<w0.heap.size->some q≠row:=fun q hq e=>by have:=yd q e.symm;omega
 refine⟨k.cell h.s (ne b hb),k.cell h.p (ne b hb),?_,h.l,fun i hi=>?_⟩
 ·rw[World.frozen?_of_block (k.block b (by omega) (ne b hb))];exact h.f
 ·obtain⟨b0,o0,x0,e0,_,hc0,_⟩:=h0.c i hi
  have yt:=World.block_lt_of_cell? _ _ hc0
  obtain⟨b',o,x,e1,hb',hc,hx⟩:=h.c i hi
  have hbb:b'=b0:=by
   rw[e0] at e1
   injection e1 with e1
   injection e1 with e1 _
   exact e1.symm
  subst hbb
  exact⟨b',o,x,e1,hb',k.cell hc (ne b' yt),hx⟩
theorem xr {w0 w w':World} {b:Nat} {row:Option Nat} (h:w0.grownBy w (some b)) (k:w.grownBy w' row) (yd:∀g,row=some g->w0.heap.size<=g):w0.grownBy w' (some b) :=
 ⟨k.os.trans h.os,k.tape.trans h.tape,k.output.trans h.output,Nat.le_trans h.size k.size,fun i hi hn=>(k.block i (Nat.lt_of_lt_of_le hi h.size) (fun e=>by have:=yd i e.symm;omega)).trans (h.block i hi hn)⟩
theorem kU (w:World) (b:Option Nat):w.grownBy w b:=⟨rfl,rfl,rfl,Nat.le_refl _,fun _ _ _=>rfl⟩
theorem qr {w w1:World} {b:Option Nat} (h:w.grownBy w1 b) (o:Obj):w.grownBy (w1.alloc o) b :=
 ⟨h.os,h.tape,h.output,by have:=h.size;simp;omega,fun k hk hn=>(Below.heap_alloc _ _ _ (by have:=h.size;omega)).trans (h.block k hk hn)⟩
theorem qM (w:World) (g o:Nat) (v:Value):w.grownBy (w.setCell (zH g o) v) (some g) :=
 ⟨rfl,rfl,rfl,by simp[World.setCell],fun k _ hk=>Below.heap_setCell _ _ _ _ (fun e=>hk (by rw[e]))⟩
theorem ZX {w0 w:World} {b g:Nat} {a:Option Addr} {len cap p0 p:Nat} (h0:Rd w0 b a len cap p0) (hr:Rd w b a len cap p) (hg:w0.grownBy w (some b)) (hgb:w0.heap.size<=g) (o1 o2:Nat) (v1 v2:Value) :
 Rd ((w.setCell (zH g o1) v1).setCell (zH g o2) v2) b a len cap p/\w0.grownBy ((w.setCell (zH g o1) v1).setCell (zH g o2) v2) (some b):=by
 have k1:=qM w g o1 v1
 have k2:=qM (w.setCell (zH g o1) v1) g o2 v2
 have yd:∀q,some g=some q->w0.heap.size<=q:=fun q e=>by cases e;exact hgb
 have r1:=Rd.kept h0 hr hg.size k1 yd
 have g1:=xr hg k1 yd
 exact⟨Rd.kept h0 r1 g1.size k2 yd,xr g1 k2 yd⟩
theorem Qw (M:yH):∀u∈ul M,u.oneCell'=true:=by
 intro u hu
 simp only[ul,List.mem_flatMap] at hu
 obtain⟨x,_,hx⟩:=hu
 simp at hx
 rcases hx with rfl | rfl <;> rfl
theorem kL {ops:Array Oper} {rest:List Oper} {o:Oper} {act:Act} {Q:Exit->Act->World->Prop} (w:World) (hgd:o.guard=none) (s x:Operand)
 (ho:o.op=.call {callee:=.builtin .append,args:=#[s,x],argTypes:=#[66,66]}) (B:Nat) (v:Value) (L:yH) (hs:act.eval s=v) (zE:ye B w v L) (M:yH) (gb c:Nat)
 (hx:act.eval x=zK gb 0 M.length c) (hnews:∀j u,(ul M)[j]?=some u->w.cell? ((⟨gb,0,none⟩:Addr).add j)=some u) (hM:0<M.length) (hL:L.length+M.length<=1000) (hB:B<=w.heap.size)
 (h:∀g cap w',ye B w' (zK g 0 (L.length+M.length) cap) (L ++ M)->w.grownBy w' v.ownBlock->B<=g->g<w'.heap.size ->
  wpList Tryz.prog ops Q rest (act.put o.dst (zK g 0 (L.length+M.length) cap)) w') :
 wpList Tryz.prog ops Q (o :: rest) act w:=by
 obtain⟨i0,hi,jM,xP,vJ⟩:=info_parts Tryz.infoOp
 refine wpList_append_lies _ hgd s x 66 ho B 70 i0 _ 2 16 Tryz.underlying66 hi jM xP vJ rfl (by omega) v L.length (ul L) hs zE ⟨gb,0,none⟩ M.length c (ul M) hx (Zi M)
  hnews (Qw M) hM (by unfold maxLen;omega) (by omega) hB w.heap.size rfl ?_
 intro g cap w' h1 h2 h3 h4
 refine h g cap w' ?_ h2 ?_ h4
 ·unfold ye
  rw[YG,List.length_append]
  exact h1
 ·rcases h3 with h3 | h3
  ·exact(zE.lt g h3).1
  ·omega
theorem XA {ops:Array Oper} {o:Oper} {act:Act} {K:Act->World->Prop} {Q:Exit->Act->World->Prop} {E:Prop} (w:World) (hgd:o.guard=none) (s x:Operand)
 (ho:o.op=.call {callee:=.builtin .append,args:=#[s,x],argTypes:=#[66,66]}) (B:Nat) (v:Value) (L:yH) (hs:act.eval s=v) (zE:ye B w v L) (M:yH) (gb c:Nat)
 (hx:act.eval x=zK gb 0 M.length c) (hnews:∀j u,(ul M)[j]?=some u->w.cell? ((⟨gb,0,none⟩:Addr).add j)=some u) (hM:0<M.length) (hL:L.length+M.length<=1000) (hB:B<=w.heap.size)
 (h:∀g cap w',ye B w' (zK g 0 (L.length+M.length) cap) (L ++ M)->w.grownBy w' v.ownBlock->B<=g->g<w'.heap.size ->
  K (act.put o.dst (zK g 0 (L.length+M.length) cap)) w') :
 if Region.wanted o (yielded ops act.tmps)=true then Oper.wp Tryz.prog o act w K Q else E:=by
 obtain⟨i0,hi,jM,xP,vJ⟩:=info_parts Tryz.infoOp
 refine step_append_lies _ hgd s x 66 ho B 70 i0 _ 2 16 Tryz.underlying66 hi jM xP vJ rfl (by omega) v L.length (ul L) hs zE ⟨gb,0,none⟩ M.length c (ul M) hx (Zi M)
  hnews (Qw M) hM (by unfold maxLen;omega) (by omega) hB w.heap.size rfl ?_
 intro g cap w' h1 h2 h3 h4
 refine h g cap w' ?_ h2 ?_ h4
 ·unfold ye
  rw[YG,List.length_append]
  exact h1
 ·rcases h3 with h3 | h3
  ·exact(zE.lt g h3).1
  ·omega
theorem yp {ops:Array Oper} {rest:List Oper} {o:Oper} {act:Act} {Q:Exit->Act->World->Prop} (w:World) (hgd:o.guard=none) (s x:Operand)
 (ho:o.op=.call {callee:=.builtin .append,args:=#[s,x],argTypes:=#[66,66]}) (B:Nat) (v:Value) (L:yH) (hs:act.eval s=v) (zE:ye B w v L) (k q:Int) (c:Nat)
 (hx:act.eval x=zK w.heap.size 0 1 c) (hL:L.length<=900) (hB:B<=w.heap.size)
 (h:∀g cap w',ye B w' (.slice (some ⟨g,0,none⟩) (L.length+1) cap) (L ++ [(k,q)])->(w.alloc (.cells #[.int .i64 k,.int .i64 q] 70)).grownBy w' v.ownBlock->B<=g->g<w'.heap.size ->
  wpList Tryz.prog ops Q rest (act.put o.dst (zK g 0 (L.length+1) cap)) w') :
 wpList Tryz.prog ops Q (o :: rest) act (w.alloc (.cells #[.int .i64 k,.int .i64 q] 70)) :=
 kL _ hgd s x ho B v L hs (World.ownsRow.alloc zE _) [(k,q)] w.heap.size c hx (World.news_of_block (Go.Deep.blk_alloc_new w _)) (by simp) (by simp;omega) (by simp;omega) h
theorem yh {w0 w w':World} {b:Nat} {a:Option Addr} {len cap p0 p:Nat} {v:Value} {L:yH} {o:Obj} (h0:Rd w0 b a len cap p0) (hr:Rd w b a len cap p) (hg:w0.grownBy w (some b)) (zE:ye w0.heap.size w v L)
 (qF:(w.alloc o).grownBy w' v.ownBlock):Rd w' b a len cap p/\w0.grownBy w' (some b):=by
 have yd:∀g,v.ownBlock=some g->w0.heap.size<=g:=fun g e=>(zE.lt g e).1
 have hA:=World.grownBy_alloc w o v.ownBlock
 have hA2:w.grownBy w' v.ownBlock:=⟨qF.os.trans hA.os,qF.tape.trans hA.tape,qF.output.trans hA.output,Nat.le_trans hA.size qF.size,fun i hi hn=>(qF.block i (Nat.lt_of_lt_of_le hi hA.size) hn).trans (hA.block i hi hn)⟩
 exact⟨Rd.kept h0 hr hg.size hA2 yd,xr hg hA2 yd⟩
def Fit (nm:Nat) (t:Int) (o:Int × Int):Prop:=o.1≠7/\o.1≠8/\jm nm 0 t o.1 o.2=true
def Fits (nm:Nat) (t:Int) (l:yH):Prop:=∀o∈l,Fit nm t o
theorem Fits.nil {nm:Nat} {t:Int}:Fits nm t []:=fun _ h=>by cases h
theorem Fits.append {nm:Nat} {t:Int} {l m:yH} (h:Fits nm t l) (k:Fits nm t m):Fits nm t (l ++ m):=fun o e=>by
 rcases List.mem_append.1 e with e | e
 ·exact h o e
 ·exact k o e
theorem Fits.one {nm:Nat} {t:Int} {o:Int × Int} (h:Fit nm t o):Fits nm t [o]:=fun q e=>by
 have:=List.mem_singleton.1 e
 rw[this]
 exact h
theorem Fits.snoc {nm:Nat} {t:Int} {l:yH} {o:Int × Int} (h:Fits nm t l) (k:Fit nm t o):Fits nm t (l ++ [o]):=h.append (.one k)
theorem Qk {nm:Nat} {t a:Int} (h0:0<=a) (h1:a<=99):Fit nm t (1,a):=⟨by simp,by simp,by rw[zgT];exact zx.2 ⟨h0,h1⟩⟩
theorem uO {nm:Nat} {t a:Int} (h0:0<=a) (h1:a<t):Fit nm t (2,a):=⟨by simp,by simp,by rw[zgU];exact zx.2 ⟨h0,by omega⟩⟩
theorem zc0 {nm:Nat} {t a:Int} (h0:0<=a) (h1:a<t):Fit nm t (3,a):=⟨by simp,by simp,by rw[zgV];exact zx.2 ⟨h0,by omega⟩⟩
theorem KL {nm:Nat} {t a:Int} (h0:0<=a) (h1:a<(nm:Int)):Fit nm t (9,a):=⟨by simp,by simp,by rw[zgX];exact zx.2 ⟨h0,by omega⟩⟩
theorem uN {nm:Nat} {t a:Int} (h0:0<=a) (h1:a<4):Fit nm t (13,a):=⟨by simp,by simp,by rw[zgh];exact zx.2 ⟨h0,by omega⟩⟩
theorem zeS {nm:Nat} {t a:Int} (h0:0<=a) (h1:a<4):Fit nm t (14,a):=⟨by simp,by simp,by rw[zgi];exact zx.2 ⟨h0,by omega⟩⟩
theorem zgu {nm:Nat} {t:Int}:Fit nm t (4,0):=⟨by simp,by simp,rfl⟩
theorem fit_5 {nm:Nat} {t:Int}:Fit nm t (5,0):=⟨by simp,by simp,rfl⟩
theorem fit_6 {nm:Nat} {t:Int}:Fit nm t (6,0):=⟨by simp,by simp,rfl⟩
theorem Wh {nm:Nat} {t:Int}:Fit nm t (10,0):=⟨by simp,by simp,rfl⟩
theorem YE {nm:Nat} {t:Int}:Fit nm t (11,0):=⟨by simp,by simp,rfl⟩
theorem QL {nm:Nat} {t:Int}:Fit nm t (12,0):=⟨by simp,by simp,rfl⟩
theorem zgN {nm:Nat} {t:Int}:Fit nm t (15,0):=⟨by simp,by simp,rfl⟩
theorem Wi {nm:Nat} {t:Int}:Fit nm t (16,0):=⟨by simp,by simp,rfl⟩
theorem Wj {nm:Nat} {t:Int}:Fit nm t (17,0):=⟨by simp,by simp,rfl⟩
theorem Wk {nm:Nat} {t:Int}:Fit nm t (18,0):=⟨by simp,by simp,rfl⟩
theorem YN (w:World) (b:Nat) (a:Option Addr) (len cap p:Nat) (n t:Int) (hr:Rd w b a len cap p) (hp:p+4<=1000000) (hn0:0<=n) (hn2:n<=2) (UE:1<=t) (K0:t<=4) :
 Calls Tryz.prog 172 #[zJ b 0,zI n,zI t] w fun e w'=>∃v ops p',e=.returned v/\ye w.heap.size w' v ops/\(ops.length:Int)=n/\p<=p'/\p'<=p+4/\Rd w' b a len cap p'/\w.grownBy w' (some b)/\∀nm,Fits nm t ops:=by
 obtain⟨m,rfl⟩:=Int.eq_ofNat_of_zero_le hn0
 have hbw:b<w.heap.size:=World.block_lt_of_cell? _ _ hr.s
 go_enter Tryz.func172,Tryz.ntmps172
 go_wp2
 go_loopg [7,8] m (fun g v i wr=>∃(L:yH) (q:Nat),L.length<=m/\g=m - L.length/\i=zI L.length/\ye w.heap.size wr v L/\p<=q/\q<=p+2 * L.length/\Rd wr b a len cap q/\w.grownBy wr (some b)/\Hid (∀nm,Fits nm t L))
 case atStart=>exact⟨[],p,Nat.zero_le _,rfl,rfl,ye.made w,Nat.le_refl _,by simp,Rd.kept hr hr zD (World.grownBy_alloc w _ none) (fun g e=>by cases e),qr (kU _ _) _,fun _=>Fits.nil⟩
 case round =>
  obtain⟨L,q,hk,rfl,rfl,yd,hpq,hqp,hrd,hgr,HF⟩:=hrel
  by_cases yt:L.length<m
  ·have v7:(L.length:Int)<(m:Int):=by omega
   have un:=hgr.size
   go_wp2_with fail
   refine(ql _ _ _ _ _ _ _ hrd (by omega) (by omega) (by omega)).mono ?_
   rintro e w1 ⟨x,rfl,QA,ZH,xT,Yt⟩
   have Yi:ye w.heap.size w1 _ L:=yd.kept Yt (fun g e h=>by cases e;have:=yd.lt _ h;omega)
   have jv:=zV hgr Yt
   have zaF:=jv.size
   clear yd hrd hgr Yt
   by_cases h0:x=0
   ·subst h0
    go_wp2_with (at_builtin;refine yp _ (by rfl) _ _ (by rfl) _ _ L (by rfl) Yi _ _ _ (by rfl) (by omega) (by omega) ?_;intro g cp w2 yO qF hBg jk)
    obtain⟨xO,xS⟩:=yh hr xT jv Yi qF
    clear qF hBg jk Yi xT jv
    go_wp2
    go_roundg (m - (L.length+1))
    case measure=>omega
    case rel=>exact⟨_,q+1,by simp;omega,by simp,by simp,yO,by omega,by simp;omega,xO,xS,fun nm=>(HF.out nm).snoc YE⟩
   have e0:(x == 0)=false:=zG.2 h0
   by_cases h1:x=1
   ·subst h1
    go_wp2_with fail
    refine(ql _ _ _ _ _ _ _ xT (by omega) (by omega) (by omega)).mono ?_
    rintro e w3 ⟨y,rfl,XM,JJ,je,ko⟩
    have qf:ye w.heap.size w3 _ L:=Yi.kept ko (fun g e h=>by cases e;have:=Yi.lt _ h;omega)
    have xC:=zV jv ko
    have Ub:=xC.size
    clear Yi xT jv ko zaF
    go_wp2_with (at_builtin;refine yp _ (by rfl) _ _ (by rfl) _ _ L (by rfl) qf _ _ _ (by rfl) (by omega) (by omega) ?_;intro g cp w2 yO qF hBg jk)
    obtain⟨xO,xS⟩:=yh hr je xC qf qF
    clear qF hBg jk qf je xC
    go_wp2
    go_roundg (m - (L.length+1))
    case measure=>omega
    case rel=>exact⟨_,q+1+1,by simp;omega,by simp,by simp,yO,by omega,by simp;omega,xO,xS,fun nm=>(HF.out nm).snoc (Qk XM (by omega))⟩
   ·have e1:(x == 1)=false:=zG.2 h1
    go_wp2_with fail
    refine(ql _ _ _ _ _ _ _ xT (by omega) (by omega) (by omega)).mono ?_
    rintro e w3 ⟨y,rfl,XM,JJ,je,ko⟩
    have qf:ye w.heap.size w3 _ L:=Yi.kept ko (fun g e h=>by cases e;have:=Yi.lt _ h;omega)
    have xC:=zV jv ko
    have Ub:=xC.size
    clear Yi xT jv ko zaF
    go_wp2_with (at_builtin;refine yp _ (by rfl) _ _ (by rfl) _ _ L (by rfl) qf _ _ _ (by rfl) (by omega) (by omega) ?_;intro g cp w2 yO qF hBg jk)
    obtain⟨xO,xS⟩:=yh hr je xC qf qF
    clear qF hBg jk qf je xC
    go_wp2
    go_roundg (m - (L.length+1))
    case measure=>omega
    case rel=>exact⟨_,q+1+1,by simp;omega,by simp,by simp,yO,by omega,by simp;omega,xO,xS,fun nm=>(HF.out nm).snoc (uO XM JJ)⟩
  ·obtain rfl:m=L.length:=by omega
   go_wp2
   go_ret
   exact⟨_,L,q,rfl,yd,rfl,hpq,by omega,hrd,hgr,HF.out⟩
theorem zcj (w:World) (b:Nat) (a:Option Addr) (len cap p:Nat) (t:Int) (hr:Rd w b a len cap p) (hp:p+2<=1000000) (UE:1<=t) (K0:t<=4) :
 Calls Tryz.prog 171 #[zJ b 0,zI t] w fun e w'=>∃(k q:Int) (p':Nat),e=.returned (.agg #[zI k,zI q])/\p<=p'/\p'<=p+2/\Rd w' b a len cap p'/\w.grownBy w' (some b)/\∀nm,Fit nm t (k,q):=by
 have hbw:b<w.heap.size:=World.block_lt_of_cell? _ _ hr.s
 have KY:=Rd.kept hr hr zD (World.grownBy_alloc w (.cells #[.int .i64 0,.int .i64 0] 70) none) (fun g e=>by cases e)
 have hgA:=qr (kU w (some b)) (.cells #[.int .i64 0,.int .i64 0] 70)
 have c0:(w.alloc (.cells #[.int .i64 0,.int .i64 0] 70)).rowIs w.heap.size 70 2 (fun _=>.int .i64 0):=⟨_,Go.Deep.blk_alloc_new _ _,rfl,fun i hi=>by match i,hi with | 0,_=>rfl | 1,_=>rfl⟩
 go_enter Tryz.func171,Tryz.ntmps171
 go_wp2_with fail
 generalize w.alloc (.cells #[.int .i64 0,.int .i64 0] 70)=W0 at *
 have un:=hgA.size
 refine(ql _ _ _ _ _ _ _ KY (by omega) (by omega) (by omega)).mono ?_
 rintro e w1 ⟨x,rfl,QA,ZH,xT,Yt⟩
 have c1:w1.rowIs w.heap.size 70 2 (fun _=>zI 0):=c0.of_block (Yt.block _ c0.lt (by simp;omega))
 have jv:=zV hgA Yt
 clear KY hgA Yt c0
 by_cases h0:x=0
 ·subst h0
  obtain⟨f0,f1,c0',c1'⟩:w1.frozen? (zH w.heap.size 0)=false/\w1.frozen? (zH w.heap.size 1)=false/\w1.cell? (zH w.heap.size 0)=some (zI 0)/\w1.cell? (zH w.heap.size 1)=some (zI 0):=⟨c1.frozen 0,c1.frozen 1,c1.cell (by omega),c1.cell (by omega)⟩
  have R:=fun v1 v2=>ZX hr xT jv zD 0 1 v1 v2
  clear c1 xT jv
  go_wp2
  exact bodyPost_ret (v:=.agg #[zI 4,zI 0]) (by simp[results,Tryz.results171,go_sem,c0',c1']) rfl ⟨_,_,_,rfl,by omega,by omega,(R _ _).1,(R _ _).2,fun _=>zgu⟩
 have e0:(x == 0)=false:=zG.2 h0
 by_cases h1:x=1
 ·subst h1
  obtain⟨f0,f1,c0',c1'⟩:w1.frozen? (zH w.heap.size 0)=false/\w1.frozen? (zH w.heap.size 1)=false/\w1.cell? (zH w.heap.size 0)=some (zI 0)/\w1.cell? (zH w.heap.size 1)=some (zI 0):=⟨c1.frozen 0,c1.frozen 1,c1.cell (by omega),c1.cell (by omega)⟩
  have R:=fun v1 v2=>ZX hr xT jv zD 0 1 v1 v2
  clear c1 xT jv
  go_wp2
  exact bodyPost_ret (v:=.agg #[zI 16,zI 0]) (by simp[results,Tryz.results171,go_sem,c0',c1']) rfl ⟨_,_,_,rfl,by omega,by omega,(R _ _).1,(R _ _).2,fun _=>Wi⟩
 have e1:(x == 1)=false:=zG.2 h1
 by_cases h2:x=2
 ·subst h2
  obtain⟨f0,f1,c0',c1'⟩:w1.frozen? (zH w.heap.size 0)=false/\w1.frozen? (zH w.heap.size 1)=false/\w1.cell? (zH w.heap.size 0)=some (zI 0)/\w1.cell? (zH w.heap.size 1)=some (zI 0):=⟨c1.frozen 0,c1.frozen 1,c1.cell (by omega),c1.cell (by omega)⟩
  have R:=fun v1 v2=>ZX hr xT jv zD 0 1 v1 v2
  clear c1 xT jv
  go_wp2
  exact bodyPost_ret (v:=.agg #[zI 16,zI 0]) (by simp[results,Tryz.results171,go_sem,c0',c1']) rfl ⟨_,_,_,rfl,by omega,by omega,(R _ _).1,(R _ _).2,fun _=>Wi⟩
 have e2:(x == 2)=false:=zG.2 h2
 have zaF:=jv.size
 go_wp2_with fail
 refine(ql _ _ _ _ _ _ _ xT (by omega) (by omega) (by omega)).mono ?_
 rintro e w3 ⟨y,rfl,XM,JJ,je,ko⟩
 have c3:w3.rowIs w.heap.size 70 2 (fun _=>zI 0):=c1.of_block (ko.block _ c1.lt (by simp;omega))
 have xC:=zV jv ko
 clear xT jv ko c1
 obtain⟨f0,f1,c0',c1'⟩:w3.frozen? (zH w.heap.size 0)=false/\w3.frozen? (zH w.heap.size 1)=false/\w3.cell? (zH w.heap.size 0)=some (zI 0)/\w3.cell? (zH w.heap.size 1)=some (zI 0):=⟨c3.frozen 0,c3.frozen 1,c3.cell (by omega),c3.cell (by omega)⟩
 have R:=fun v1 v2=>ZX hr je xC zD 0 1 v1 v2
 clear c3 je xC
 go_wp2
 exact bodyPost_ret (v:=.agg #[zI 3,zI y]) (by simp[results,Tryz.results171,go_sem,c0',c1']) rfl ⟨_,_,_,rfl,by omega,by omega,(R _ _).1,(R _ _).2,fun _=>zc0 XM JJ⟩
theorem Ze {w w':World} (h:zO w w') (b:Option Nat):w.grownBy w' b:=⟨h.os,h.tape,h.output,h.size,fun k hk _=>h.block k hk⟩
theorem Jx {w W w':World} {v:Value} {L:yH} {B:Nat} (zE:ye B w v L) (qF:W.grownBy w' v.ownBlock) {p:Addr} (hp:p.block<B) (hW:zO w W) {u:Value} (h:w.cell? p=some u):w'.cell? p=some u :=
 qF.cell (zc hW h) (fun e=>by have:=zE.lt _ e.symm;omega)
theorem Wb {w0 w W w':World} {v:Value} {L:yH} (zE:ye w0.heap.size w v L) (qF:W.grownBy w' v.ownBlock) (hW:zO w W) (hb:zO w0 w):zO w0 w' :=
 (hb.trans (hW.mono hb.size)).grown qF (Nat.le_trans hb.size hW.size) (fun k e=>(zE.lt k e).1)
def uq:List Int->yH
 | x :: y :: l=>(x,y) :: uq l
 | _=>[]
theorem JO:∀(k:Nat) (xs:List Int) (h:2 * k+1<xs.length),uq (xs.take (2 * k+2))=uq (xs.take (2 * k)) ++ [(xs[2 * k],xs[2 * k+1])]
 | 0,x :: y :: l,_=>by simp[uq]
 | k+1,x :: y :: l,h=>by
  have e1:2 * (k+1)+2=(2 * k+2)+2:=by omega
  have e2:2 * (k+1)=2 * k+2:=by omega
  have ih:=JO k l (by simp at h;omega)
  simp only[e2,List.take_succ_cons,uq,ih,List.getElem_cons_succ,List.cons_append]
 | _,[],h=>by simp at h
 | _,[x],h=>by simp at h
theorem Vr:∀(k:Nat) (xs:List Int),xs.length<=2 * k+1->uq (xs.take (2 * k))=uq xs
 | 0,[],_=>rfl
 | 0,[x],_=>rfl
 | 0,x :: y :: l,h=>by simp at h
 | k+1,[],_=>rfl
 | k+1,[x],_=>by
  have e2:2 * (k+1)=2 * k+2:=by omega
  simp only[e2,List.take_succ_cons,List.take_nil]
 | k+1,x :: y :: l,h=>by
  have e2:2 * (k+1)=2 * k+2:=by omega
  have ih:=Vr k l (by simp at h;omega)
  simp only[e2,List.take_succ_cons,uq,ih]
theorem zck (w:World) (g cap:Nat) (xs:List Int) (hx:∀i,(hi:i<xs.length)->w.cell? (zH g i)=some (zI xs[i])) (hl:xs.length<=20) :
 Calls Tryz.prog 170 #[zK g 0 xs.length cap] w fun e w'=>∃v ops,e=.returned v/\ye w.heap.size w' v ops/\ops.length * 2<=xs.length/\xs.length<=ops.length * 2+1/\zO w w'/\ops=uq xs:=by
 go_enter Tryz.func170,Tryz.ntmps170
 go_wp2
 go_loopg [3,4] xs.length (fun d v i wr=>∃(L:yH) (k:Nat),k<=xs.length/\d=xs.length - k/\i=zI k/\ye w.heap.size wr v L/\zO w wr/\Hid (k=L.length * 2/\L=uq (xs.take (2 * L.length))))
 case atStart=>exact⟨[],0,Nat.zero_le _,rfl,rfl,ye.made w,zR _ _,rfl,rfl⟩
 case round =>
  obtain⟨L,k,hk,rfl,rfl,yd,hb,HK⟩:=hrel
  by_cases yt:k+1<xs.length
  ·have v7:(k:Int)+1<(xs.length:Int):=by omega
   have hkz0:(k:Int)<(xs.length:Int):=by omega
   have Wt:(0:Int)<=(k:Int):=by omega
   have hk1:(0:Int)<=(k:Int)+1:=by omega
   have hw:IntKind.i64.wrap ((k:Int)+1)=(k:Int)+1:=by rw[IntKind.wrap_i64];omega
   have d0:=zc hb (hx k (by omega))
   have d1:=zc hb (hx (k+1) (by omega))
   have un:=hb.size
   have hgw:g<w.heap.size:=World.block_lt_of_cell? _ _ (hx k (by omega))
   have X1:L.length<=20:=by have:=HK.out.1;omega
   have HP:Hid (∀y0 y1,xs[k]?=some y0->xs[k+1]?=some y1->L ++ [(y0,y1)]=uq (xs.take (2 * (L ++ [(y0,y1)]).length))):=by
    intro y0 y1 e0 e1
    obtain⟨JH,hL2⟩:=HK.out
    have ek:k=2 * L.length:=by omega
    have e2:2 * (L ++ [(y0,y1)]).length=2 * L.length+2:=by simp;omega
    have g0:=List.getElem?_eq_some_iff.1 (ek ▸ e0)
    have g1:=List.getElem?_eq_some_iff.1 (ek ▸ e1)
    rw[e2,JO L.length xs (by omega),<-hL2,g0.2,g1.2]
   have HP0:Hid (xs[k]?=some xs[k]):=List.getElem?_eq_getElem (by omega)
   have HP1:Hid (xs[k+1]?=some xs[k+1]):=List.getElem?_eq_getElem (by omega)
   have HPP:Hid (L ++ [(xs[k],xs[k+1])]=uq (xs.take (2 * (L ++ [(xs[k],xs[k+1])]).length))):=HP.out _ _ HP0.out HP1.out
   clear HP HP0 HP1
   generalize xs[k]=x0 at d0 HPP
   generalize xs[k+1]=x1 at d1 HPP
   go_wp2_with fail
   go_region_held3 (fun w'=>w'.cell? (zH g k)=some (zI x0)/\w'.cell? (zH g (k+1))=some (zI x1))
    (first | exact⟨Jx yd qF hgw (zR _ _).drew d0,Jx yd qF hgw (zR _ _).drew d1⟩ | go_keep)
    ((refine XA _ (by rfl) _ _ (by rfl) w.heap.size _ L (by rfl) (World.ownsRow.alloc yd _) [(x0,x1)] wr.heap.size _ (by rfl) (World.news_of_block (Go.Deep.blk_alloc_new wr _)) (by simp) (by simp;omega) (by simp;omega) ?_;intro g' cp w2 yO qF hBg jk))
   have yE:zO w w2:=Wb yd qF (zR _ _).drew hb
   have HK2:Hid (k+2=(L ++ [(x0,x1)]).length * 2/\L ++ [(x0,x1)]=uq (xs.take (2 * (L ++ [(x0,x1)]).length))):=by have:=HK.out.1;exact⟨by simp;omega,HPP.out⟩
   clear qF yd hb d0 d1 HK HPP hBg jk hw
   go_wp2
   go_roundg (xs.length - (k+2))
   case measure=>omega
   case rel=>exact⟨_,k+2,by omega,rfl,by go_num,yO,yE,HK2⟩
  ·go_wp2
   go_ret
   exact⟨_,L,rfl,yd,by have:=HK.out.1;omega,by have:=HK.out.1;omega,hb,by rw[<-Vr L.length xs (by have:=HK.out.1;omega)];exact HK.out.2⟩
theorem uI {w0 w:World} {b:Nat} {a:Option Addr} {len cap p0 p:Nat} (h0:Rd w0 b a len cap p0) (hr:Rd w b a len cap p) (hg:w0.grownBy w (some b)) (xs:List Int) (cs:Array Value) (t:TypeId) (c:Nat) (hcs:cs=(xs.map fun x=>Value.int .i64 x).toArray) (hl:xs.length<=20) :
 Calls Tryz.prog 170 #[zK w.heap.size 0 xs.length c] (w.alloc (.cells cs t)) fun e w'=>∃v ops,e=.returned v/\ye w0.heap.size w' v ops/\ops.length * 2<=xs.length/\xs.length<=ops.length * 2+1/\Rd w' b a len cap p/\w0.grownBy w' (some b)/\ops=uq xs:=by
 subst hcs
 refine(zck _ w.heap.size c xs (fun i hi=>?_) hl).mono ?_
 ·simp[hi]
 ·rintro e w' ⟨v,ops,rfl,yd,hlen,hlen',hb,QR⟩
  have hA:=World.grownBy_alloc w (.cells (xs.map fun x=>Value.int .i64 x).toArray t) none
  have hN:w.grownBy w' none:=⟨hb.os.trans hA.os,hb.tape.trans hA.tape,hb.output.trans hA.output,Nat.le_trans hA.size hb.size,fun i hi hn=>(hb.block i (Nat.lt_of_lt_of_le hi hA.size)).trans (hA.block i hi hn)⟩
  exact⟨v,ops,rfl,yd.mono (by have:=hg.size;simp;omega),hlen,hlen',Rd.kept h0 hr hg.size hN (fun g e=>by cases e),xr hg hN (fun g e=>by cases e),QR⟩
theorem xq {w0 w:World} {b:Nat} {a:Option Addr} {len cap p0 p:Nat} (h0:Rd w0 b a len cap p0) (hg:w0.grownBy w (some b)) (hr:Rd w b a len cap p) (n:Int) (hp:p<=1000000) (h1:1<=n) (h2:n<=1000000) :
 Calls Tryz.prog 79 #[zJ b 0,zI n] w fun e w'=>∃x:Int,e=.returned (zI x)/\0<=x/\x<n/\Rd w' b a len cap (p+1)/\w0.grownBy w' (some b)/\∀v L,ye w0.heap.size w v L->ye w0.heap.size w' v L:=by
 have hb:b<w0.heap.size:=World.block_lt_of_cell? _ _ h0.s
 refine(ql _ _ _ _ _ _ _ hr hp h1 h2).mono ?_
 rintro e w' ⟨x,rfl,QA,ZH,hrd,hgr⟩
 exact⟨x,rfl,QA,ZH,hrd,zV hg hgr,fun v L h=>h.kept hgr (fun g e k=>by cases e;have:=h.lt _ k;omega)⟩
theorem JM (w:World) (b:Nat) (a:Option Addr) (len cap p:Nat) (t:Int) (hr:Rd w b a len cap p) (hp:p+4<=1000000) (UE:1<=t) (K0:t<=4) :
 Calls Tryz.prog 173 #[zJ b 0,zI t] w fun e w'=>∃v ops p',e=.returned v/\ye w.heap.size w' v ops/\ops.length<=3/\1<=ops.length/\p<=p'/\p'<=p+4/\Rd w' b a len cap p'/\w.grownBy w' (some b)/\∀nm,Fits nm t ops:=by
 go_enter Tryz.func173,Tryz.ntmps173
 go_wp2_with fail
 refine(uI hr hr (kU _ _) [11,0] _ _ _ rfl (by decide)).mono ?_
 rintro e w1 ⟨v1,zd7,rfl,Yi,hl1,V8,xT,jv,QR⟩
 have HF:Hid (∀nm,Fits nm t zd7):=fun nm=>by rw[QR];exact .one YE
 clear QR
 go_wp2_with fail
 refine(xq hr jv xT _ (by omega) (by omega) (by omega)).mono ?_
 rintro e w2 ⟨x,rfl,QA,ZH,xO,xS,hkp⟩
 have yO:=hkp _ _ Yi
 clear hkp Yi xT jv
 simp only[List.length_cons,List.length_nil] at hl1 V8
 have X8:=hr
 by_cases h0:x=0
 ·subst h0
  go_wp2_with fail
  refine(xq hr xS xO _ (by omega) (by omega) (by omega)).mono ?_
  rintro e w3 ⟨u,rfl,QV,hu1,je,xC,_⟩
  clear yO xO xS
  go_wp2_with fail
  refine(uI hr je xC [2,u] _ _ _ rfl (by simp)).mono ?_
  rintro e w4 ⟨v4,wb,rfl,qd,Wu,hm4,JI,jc,QR⟩
  have HF:Hid (∀nm,Fits nm t wb):=fun nm=>by rw[QR];exact .one (uO QV hu1)
  clear QR
  simp only[List.length_cons,List.length_nil] at Wu hm4
  obtain⟨q4,hq4,hq4',xK⟩:∃q4,p+1<=q4/\q4<=p+2/\Rd w4 b a len cap q4:=⟨_,by omega,by omega,JI⟩
  clear JI je xC
  clear X8
  go_wp2_with fail
  refine(xq hr jc xK _ (by omega) (by omega) (by omega)).mono ?_
  rintro e w5 ⟨y,rfl,XM,JJ,xx,qO,hkp⟩
  have yq:=hkp _ _ qd
  have J5:=qO.size
  clear hkp qd xK jc
  by_cases k0:y=0
  ·subst k0
   go_wp2_with (at_builtin;refine yp _ (by rfl) _ _ (by rfl) _ _ wb (by rfl) yq _ _ _ (by rfl) (by omega) (by omega) ?_;intro g cp w6 qG kq hBg jk)
   obtain⟨jf,jd⟩:=yh hr xx qO yq kq
   clear kq hBg jk
   go_wp2
   go_ret
   exact⟨_,_,_,rfl,qG,by simp;omega,by simp,by omega,by omega,jf,jd,fun nm=>(HF.out nm).snoc QL⟩
  have f0:(y == 0)=false:=zG.2 k0
  by_cases k1:y=1
  ·subst k1
   go_wp2_with fail
   refine(xq hr qO xx _ (by omega) (by omega) (by omega)).mono ?_
   rintro e w7 ⟨z,rfl,jM,xP,Yv,wK,hkp⟩
   have jF:=hkp _ _ yq
   have zce:=wK.size
   clear hkp yq xx qO
   go_wp2_with (at_builtin;refine yp _ (by rfl) _ _ (by rfl) _ _ wb (by rfl) jF _ _ _ (by rfl) (by omega) (by omega) ?_;intro g cp w6 qG kq hBg jk)
   obtain⟨jf,jd⟩:=yh hr Yv wK jF kq
   clear kq hBg jk
   go_wp2
   go_ret
   exact⟨_,_,_,rfl,qG,by simp;omega,by simp,by omega,by omega,jf,jd,fun nm=>(HF.out nm).snoc (uN jM xP)⟩
  have f1:(y == 1)=false:=zG.2 k1
  by_cases k2:y=2
  ·subst k2
   go_wp2_with fail
   refine(xq hr qO xx _ (by omega) (by omega) (by omega)).mono ?_
   rintro e w7 ⟨z,rfl,jM,xP,Yv,wK,hkp⟩
   have jF:=hkp _ _ yq
   have zce:=wK.size
   clear hkp yq xx qO
   go_wp2_with (at_builtin;refine yp _ (by rfl) _ _ (by rfl) _ _ wb (by rfl) jF _ _ _ (by rfl) (by omega) (by omega) ?_;intro g cp w6 qG kq hBg jk)
   obtain⟨jf,jd⟩:=yh hr Yv wK jF kq
   clear kq hBg jk
   go_wp2
   go_ret
   exact⟨_,_,_,rfl,qG,by simp;omega,by simp,by omega,by omega,jf,jd,fun nm=>(HF.out nm).snoc (uN jM xP)⟩
  have f2:(y == 2)=false:=zG.2 k2
  by_cases k3:y=3
  ·subst k3
   go_wp2_with (at_builtin;refine yp _ (by rfl) _ _ (by rfl) _ _ wb (by rfl) yq _ _ _ (by rfl) (by omega) (by omega) ?_;intro g cp w6 qG kq hBg jk)
   obtain⟨jf,jd⟩:=yh hr xx qO yq kq
   clear kq hBg jk
   go_wp2
   go_ret
   exact⟨_,_,_,rfl,qG,by simp;omega,by simp,by omega,by omega,jf,jd,fun nm=>(HF.out nm).snoc Wj⟩
  have f3:(y == 3)=false:=zG.2 k3
  by_cases k4:y=4
  ·subst k4
   go_wp2_with (at_builtin;refine yp _ (by rfl) _ _ (by rfl) _ _ wb (by rfl) yq _ _ _ (by rfl) (by omega) (by omega) ?_;intro g cp w6 qG kq hBg jk)
   obtain⟨jf,jd⟩:=yh hr xx qO yq kq
   clear kq hBg jk
   go_wp2
   go_ret
   exact⟨_,_,_,rfl,qG,by simp;omega,by simp,by omega,by omega,jf,jd,fun nm=>(HF.out nm).snoc Wk⟩
  have f4:(y == 4)=false:=zG.2 k4
  go_wp2
  go_ret
  exact⟨_,_,_,rfl,yq,by omega,by omega,by omega,by omega,xx,qO,fun nm=>HF.out nm⟩
 have e0:(x == 0)=false:=zG.2 h0
 by_cases h1:x=1
 ·subst h1
  go_wp2_with fail
  refine(uI hr xO xS [11,0,12,0] _ _ _ rfl (by simp)).mono ?_
  rintro e w4 ⟨v4,wb,rfl,qd,Wu,hm4,JI,jc,QR⟩
  have HF:Hid (∀nm,Fits nm t wb):=fun nm=>by rw[QR];exact Fits.append (.one YE) (.one QL)
  clear QR
  simp only[List.length_cons,List.length_nil] at Wu hm4
  obtain⟨q4,hq4,hq4',xK⟩:∃q4,p+1<=q4/\q4<=p+2/\Rd w4 b a len cap q4:=⟨_,by omega,by omega,JI⟩
  clear JI yO xO xS
  clear X8
  go_wp2_with fail
  refine(xq hr jc xK _ (by omega) (by omega) (by omega)).mono ?_
  rintro e w5 ⟨y,rfl,XM,JJ,xx,qO,hkp⟩
  have yq:=hkp _ _ qd
  have J5:=qO.size
  clear hkp qd xK jc
  by_cases k0:y=0
  ·subst k0
   go_wp2_with (at_builtin;refine yp _ (by rfl) _ _ (by rfl) _ _ wb (by rfl) yq _ _ _ (by rfl) (by omega) (by omega) ?_;intro g cp w6 qG kq hBg jk)
   obtain⟨jf,jd⟩:=yh hr xx qO yq kq
   clear kq hBg jk
   go_wp2
   go_ret
   exact⟨_,_,_,rfl,qG,by simp;omega,by simp,by omega,by omega,jf,jd,fun nm=>(HF.out nm).snoc QL⟩
  have f0:(y == 0)=false:=zG.2 k0
  by_cases k1:y=1
  ·subst k1
   go_wp2_with fail
   refine(xq hr qO xx _ (by omega) (by omega) (by omega)).mono ?_
   rintro e w7 ⟨z,rfl,jM,xP,Yv,wK,hkp⟩
   have jF:=hkp _ _ yq
   have zce:=wK.size
   clear hkp yq xx qO
   go_wp2_with (at_builtin;refine yp _ (by rfl) _ _ (by rfl) _ _ wb (by rfl) jF _ _ _ (by rfl) (by omega) (by omega) ?_;intro g cp w6 qG kq hBg jk)
   obtain⟨jf,jd⟩:=yh hr Yv wK jF kq
   clear kq hBg jk
   go_wp2
   go_ret
   exact⟨_,_,_,rfl,qG,by simp;omega,by simp,by omega,by omega,jf,jd,fun nm=>(HF.out nm).snoc (uN jM xP)⟩
  have f1:(y == 1)=false:=zG.2 k1
  by_cases k2:y=2
  ·subst k2
   go_wp2_with fail
   refine(xq hr qO xx _ (by omega) (by omega) (by omega)).mono ?_
   rintro e w7 ⟨z,rfl,jM,xP,Yv,wK,hkp⟩
   have jF:=hkp _ _ yq
   have zce:=wK.size
   clear hkp yq xx qO
   go_wp2_with (at_builtin;refine yp _ (by rfl) _ _ (by rfl) _ _ wb (by rfl) jF _ _ _ (by rfl) (by omega) (by omega) ?_;intro g cp w6 qG kq hBg jk)
   obtain⟨jf,jd⟩:=yh hr Yv wK jF kq
   clear kq hBg jk
   go_wp2
   go_ret
   exact⟨_,_,_,rfl,qG,by simp;omega,by simp,by omega,by omega,jf,jd,fun nm=>(HF.out nm).snoc (uN jM xP)⟩
  have f2:(y == 2)=false:=zG.2 k2
  by_cases k3:y=3
  ·subst k3
   go_wp2_with (at_builtin;refine yp _ (by rfl) _ _ (by rfl) _ _ wb (by rfl) yq _ _ _ (by rfl) (by omega) (by omega) ?_;intro g cp w6 qG kq hBg jk)
   obtain⟨jf,jd⟩:=yh hr xx qO yq kq
   clear kq hBg jk
   go_wp2
   go_ret
   exact⟨_,_,_,rfl,qG,by simp;omega,by simp,by omega,by omega,jf,jd,fun nm=>(HF.out nm).snoc Wj⟩
  have f3:(y == 3)=false:=zG.2 k3
  by_cases k4:y=4
  ·subst k4
   go_wp2_with (at_builtin;refine yp _ (by rfl) _ _ (by rfl) _ _ wb (by rfl) yq _ _ _ (by rfl) (by omega) (by omega) ?_;intro g cp w6 qG kq hBg jk)
   obtain⟨jf,jd⟩:=yh hr xx qO yq kq
   clear kq hBg jk
   go_wp2
   go_ret
   exact⟨_,_,_,rfl,qG,by simp;omega,by simp,by omega,by omega,jf,jd,fun nm=>(HF.out nm).snoc Wk⟩
  have f4:(y == 4)=false:=zG.2 k4
  go_wp2
  go_ret
  exact⟨_,_,_,rfl,yq,by omega,by omega,by omega,by omega,xx,qO,fun nm=>HF.out nm⟩
 have e1:(x == 1)=false:=zG.2 h1
 by_cases h2:x=2
 ·subst h2
  go_wp2_with fail
  refine(uI hr xO xS [11,0,12,0] _ _ _ rfl (by simp)).mono ?_
  rintro e w4 ⟨v4,wb,rfl,qd,Wu,hm4,JI,jc,QR⟩
  have HF:Hid (∀nm,Fits nm t wb):=fun nm=>by rw[QR];exact Fits.append (.one YE) (.one QL)
  clear QR
  simp only[List.length_cons,List.length_nil] at Wu hm4
  obtain⟨q4,hq4,hq4',xK⟩:∃q4,p+1<=q4/\q4<=p+2/\Rd w4 b a len cap q4:=⟨_,by omega,by omega,JI⟩
  clear JI yO xO xS
  clear X8
  go_wp2_with fail
  refine(xq hr jc xK _ (by omega) (by omega) (by omega)).mono ?_
  rintro e w5 ⟨y,rfl,XM,JJ,xx,qO,hkp⟩
  have yq:=hkp _ _ qd
  have J5:=qO.size
  clear hkp qd xK jc
  by_cases k0:y=0
  ·subst k0
   go_wp2_with (at_builtin;refine yp _ (by rfl) _ _ (by rfl) _ _ wb (by rfl) yq _ _ _ (by rfl) (by omega) (by omega) ?_;intro g cp w6 qG kq hBg jk)
   obtain⟨jf,jd⟩:=yh hr xx qO yq kq
   clear kq hBg jk
   go_wp2
   go_ret
   exact⟨_,_,_,rfl,qG,by simp;omega,by simp,by omega,by omega,jf,jd,fun nm=>(HF.out nm).snoc QL⟩
  have f0:(y == 0)=false:=zG.2 k0
  by_cases k1:y=1
  ·subst k1
   go_wp2_with fail
   refine(xq hr qO xx _ (by omega) (by omega) (by omega)).mono ?_
   rintro e w7 ⟨z,rfl,jM,xP,Yv,wK,hkp⟩
   have jF:=hkp _ _ yq
   have zce:=wK.size
   clear hkp yq xx qO
   go_wp2_with (at_builtin;refine yp _ (by rfl) _ _ (by rfl) _ _ wb (by rfl) jF _ _ _ (by rfl) (by omega) (by omega) ?_;intro g cp w6 qG kq hBg jk)
   obtain⟨jf,jd⟩:=yh hr Yv wK jF kq
   clear kq hBg jk
   go_wp2
   go_ret
   exact⟨_,_,_,rfl,qG,by simp;omega,by simp,by omega,by omega,jf,jd,fun nm=>(HF.out nm).snoc (uN jM xP)⟩
  have f1:(y == 1)=false:=zG.2 k1
  by_cases k2:y=2
  ·subst k2
   go_wp2_with fail
   refine(xq hr qO xx _ (by omega) (by omega) (by omega)).mono ?_
   rintro e w7 ⟨z,rfl,jM,xP,Yv,wK,hkp⟩
   have jF:=hkp _ _ yq
   have zce:=wK.size
   clear hkp yq xx qO
   go_wp2_with (at_builtin;refine yp _ (by rfl) _ _ (by rfl) _ _ wb (by rfl) jF _ _ _ (by rfl) (by omega) (by omega) ?_;intro g cp w6 qG kq hBg jk)
   obtain⟨jf,jd⟩:=yh hr Yv wK jF kq
   clear kq hBg jk
   go_wp2
   go_ret
   exact⟨_,_,_,rfl,qG,by simp;omega,by simp,by omega,by omega,jf,jd,fun nm=>(HF.out nm).snoc (uN jM xP)⟩
  have f2:(y == 2)=false:=zG.2 k2
  by_cases k3:y=3
  ·subst k3
   go_wp2_with (at_builtin;refine yp _ (by rfl) _ _ (by rfl) _ _ wb (by rfl) yq _ _ _ (by rfl) (by omega) (by omega) ?_;intro g cp w6 qG kq hBg jk)
   obtain⟨jf,jd⟩:=yh hr xx qO yq kq
   clear kq hBg jk
   go_wp2
   go_ret
   exact⟨_,_,_,rfl,qG,by simp;omega,by simp,by omega,by omega,jf,jd,fun nm=>(HF.out nm).snoc Wj⟩
  have f3:(y == 3)=false:=zG.2 k3
  by_cases k4:y=4
  ·subst k4
   go_wp2_with (at_builtin;refine yp _ (by rfl) _ _ (by rfl) _ _ wb (by rfl) yq _ _ _ (by rfl) (by omega) (by omega) ?_;intro g cp w6 qG kq hBg jk)
   obtain⟨jf,jd⟩:=yh hr xx qO yq kq
   clear kq hBg jk
   go_wp2
   go_ret
   exact⟨_,_,_,rfl,qG,by simp;omega,by simp,by omega,by omega,jf,jd,fun nm=>(HF.out nm).snoc Wk⟩
  have f4:(y == 4)=false:=zG.2 k4
  go_wp2
  go_ret
  exact⟨_,_,_,rfl,yq,by omega,by omega,by omega,by omega,xx,qO,fun nm=>HF.out nm⟩
 have e2:(x == 2)=false:=zG.2 h2
 obtain⟨q4,hq4,hq4',xK⟩:∃q4,p+1<=q4/\q4<=p+2/\Rd w2 b a len cap q4:=⟨_,by omega,by omega,xO⟩
 have qd:=yO
 have jc:=xS
 have Wu:=hl1
 clear yO xS xO
 clear X8
 go_wp2_with fail
 refine(xq hr jc xK _ (by omega) (by omega) (by omega)).mono ?_
 rintro e w5 ⟨y,rfl,XM,JJ,xx,qO,hkp⟩
 have yq:=hkp _ _ qd
 have J5:=qO.size
 clear hkp qd xK jc
 by_cases k0:y=0
 ·subst k0
  go_wp2_with (at_builtin;refine yp _ (by rfl) _ _ (by rfl) _ _ zd7 (by rfl) yq _ _ _ (by rfl) (by omega) (by omega) ?_;intro g cp w6 qG kq hBg jk)
  obtain⟨jf,jd⟩:=yh hr xx qO yq kq
  clear kq hBg jk
  go_wp2
  go_ret
  exact⟨_,_,_,rfl,qG,by simp;omega,by simp,by omega,by omega,jf,jd,fun nm=>(HF.out nm).snoc QL⟩
 have f0:(y == 0)=false:=zG.2 k0
 by_cases k1:y=1
 ·subst k1
  go_wp2_with fail
  refine(xq hr qO xx _ (by omega) (by omega) (by omega)).mono ?_
  rintro e w7 ⟨z,rfl,jM,xP,Yv,wK,hkp⟩
  have jF:=hkp _ _ yq
  have zce:=wK.size
  clear hkp yq xx qO
  go_wp2_with (at_builtin;refine yp _ (by rfl) _ _ (by rfl) _ _ zd7 (by rfl) jF _ _ _ (by rfl) (by omega) (by omega) ?_;intro g cp w6 qG kq hBg jk)
  obtain⟨jf,jd⟩:=yh hr Yv wK jF kq
  clear kq hBg jk
  go_wp2
  go_ret
  exact⟨_,_,_,rfl,qG,by simp;omega,by simp,by omega,by omega,jf,jd,fun nm=>(HF.out nm).snoc (uN jM xP)⟩
 have f1:(y == 1)=false:=zG.2 k1
 by_cases k2:y=2
 ·subst k2
  go_wp2_with fail
  refine(xq hr qO xx _ (by omega) (by omega) (by omega)).mono ?_
  rintro e w7 ⟨z,rfl,jM,xP,Yv,wK,hkp⟩
  have jF:=hkp _ _ yq
  have zce:=wK.size
  clear hkp yq xx qO
  go_wp2_with (at_builtin;refine yp _ (by rfl) _ _ (by rfl) _ _ zd7 (by rfl) jF _ _ _ (by rfl) (by omega) (by omega) ?_;intro g cp w6 qG kq hBg jk)
  obtain⟨jf,jd⟩:=yh hr Yv wK jF kq
  clear kq hBg jk
  go_wp2
  go_ret
  exact⟨_,_,_,rfl,qG,by simp;omega,by simp,by omega,by omega,jf,jd,fun nm=>(HF.out nm).snoc (uN jM xP)⟩
 have f2:(y == 2)=false:=zG.2 k2
 by_cases k3:y=3
 ·subst k3
  go_wp2_with (at_builtin;refine yp _ (by rfl) _ _ (by rfl) _ _ zd7 (by rfl) yq _ _ _ (by rfl) (by omega) (by omega) ?_;intro g cp w6 qG kq hBg jk)
  obtain⟨jf,jd⟩:=yh hr xx qO yq kq
  clear kq hBg jk
  go_wp2
  go_ret
  exact⟨_,_,_,rfl,qG,by simp;omega,by simp,by omega,by omega,jf,jd,fun nm=>(HF.out nm).snoc Wj⟩
 have f3:(y == 3)=false:=zG.2 k3
 by_cases k4:y=4
 ·subst k4
  go_wp2_with (at_builtin;refine yp _ (by rfl) _ _ (by rfl) _ _ zd7 (by rfl) yq _ _ _ (by rfl) (by omega) (by omega) ?_;intro g cp w6 qG kq hBg jk)
  obtain⟨jf,jd⟩:=yh hr xx qO yq kq
  clear kq hBg jk
  go_wp2
  go_ret
  exact⟨_,_,_,rfl,qG,by simp;omega,by simp,by omega,by omega,jf,jd,fun nm=>(HF.out nm).snoc Wk⟩
 have f4:(y == 4)=false:=zG.2 k4
 go_wp2
 go_ret
 exact⟨_,_,_,rfl,yq,by omega,by omega,by omega,by omega,xx,qO,fun nm=>HF.out nm⟩
theorem Uv {w0 w:World} {b:Nat} {a:Option Addr} {len cap p0 p:Nat} (h0:Rd w0 b a len cap p0) (hg:w0.grownBy w (some b)) (hr:Rd w b a len cap p) (t:Int) (hp:p+2<=1000000) (h1:1<=t) (h2:t<=4) :
 Calls Tryz.prog 171 #[zJ b 0,zI t] w fun e w'=>∃(k q:Int) (p':Nat),e=.returned (.agg #[zI k,zI q])/\p<=p'/\p'<=p+2/\Rd w' b a len cap p'/\w0.grownBy w' (some b)/\(∀v L,ye w0.heap.size w v L->ye w0.heap.size w' v L)/\Hid (∀nm,Fit nm t (k,q)):=by
 have hb:b<w0.heap.size:=World.block_lt_of_cell? _ _ h0.s
 refine(zcj _ _ _ _ _ _ _ hr hp h1 h2).mono ?_
 rintro e w' ⟨k,q,p',rfl,h3,h4,hrd,hgr,hf⟩
 exact⟨k,q,p',rfl,h3,h4,hrd,zV hg hgr,fun v L h=>h.kept hgr (fun g e k=>by cases e;have:=h.lt _ k;omega),hf⟩
theorem zaM (w:World) (b:Nat) (a:Option Addr) (len cap p:Nat) (ga c:Nat) (xs:List Int) (t:Int) (hr:Rd w b a len cap p) (hp:p+10<=1000000) (hxs:∀i,(hi:i<xs.length)->w.cell? (zH ga i)=some (zI xs[i])/\0<=xs[i]/\xs[i]<=2) (hga:ga≠b)
 (hl1:1<=xs.length) (Wu:xs.length<=4) (UE:1<=t) (K0:t<=4) :
 Calls Tryz.prog 143 #[zJ b 0,zK ga 0 xs.length c,zI t] w fun e w'=>∃v ops p',e=.returned v/\ye w.heap.size w' v ops/\ops.length<=4/\1<=ops.length/\p<=p'/\p'<=p+10/\Rd w' b a len cap p'/\w.grownBy w' (some b)/\Fits xs.length t ops:=by
 go_enter Tryz.func143,Tryz.ntmps143
 go_wp2_with fail
 refine(xq hr (kU _ _) hr _ (by omega) (by omega) (by omega)).mono ?_
 rintro e w1 ⟨x,rfl,QA,ZH,xT,jv,_⟩
 by_cases hx_0:x=0
 ·subst hx_0
  go_wp2_with fail
  refine(xq hr jv xT _ (by omega) (by omega) (by omega)).mono ?_
  rintro e w2 ⟨u,rfl,QV,hu1,xO,xS,_⟩
  clear xT jv
  go_wp2_with fail
  refine(uI hr xO xS [1,u] _ _ _ rfl (by simp)).mono ?_
  rintro e w3 ⟨v3,wa,rfl,qf,VS,Kw,je,xC,QR⟩
  have HF:Hid (Fits xs.length t wa):=by rw[QR];exact .one (Qk QV (by omega))
  clear QR
  simp only[List.length_cons,List.length_nil] at VS Kw
  have Ub:=xC.size
  clear xO xS
  go_wp2_with fail
  refine(Uv hr xC je _ (by omega) UE K0).mono ?_
  rintro e w4 ⟨k4,q4,p4,rfl,hp4,hp4',xK,jc,hkp,hft⟩
  have qd:=hkp _ _ qf
  have zcd:=jc.size
  clear hkp qf je xC
  go_wp2_with (at_builtin;refine yp _ (by rfl) _ _ (by rfl) _ _ wa (by rfl) qd _ _ _ (by rfl) (by omega) (by omega) ?_;intro g5 cp5 w5 yq Zb hBg5 ze1)
  obtain⟨xx,qO⟩:=yh hr xK jc qd Zb
  have J5:=qO.size
  clear Zb qd xK jc
  go_wp2
  go_ret
  exact⟨_,_,_,rfl,yq,by(try simp);omega,by first | omega | simp,by omega,by omega,xx,qO,HF.out.snoc (hft.out _)⟩
 have ex0:(x == 0)=false:=zG.2 hx_0
 by_cases hx_1:x=1
 ·subst hx_1
  go_wp2_with fail
  refine(xq hr jv xT _ (by omega) (by omega) (by omega)).mono ?_
  rintro e w2 ⟨u,rfl,QV,hu1,xO,xS,_⟩
  clear xT jv
  obtain⟨n,rfl⟩:=Int.eq_ofNat_of_zero_le QV
  have hn:n<xs.length:=by omega
  obtain⟨c0,x0,x1⟩:=hxs n hn
  have c2:=xS.cell c0 (by simp;exact hga)
  have hnz:(n:Int)<xs.length:=by omega
  have zdS:=xS.size
  generalize xs[n]=y at x0 x1 c2
  clear c0
  go_wp2_with fail
  refine(YN _ _ _ _ _ _ _ _ xO (by omega) x0 x1 UE K0).mono ?_
  rintro e w3 ⟨v3,wa,p3,rfl,um,VS,hp3,hp3',je,ko,hfA⟩
  have HF:Hid (Fits xs.length t wa):=hfA _
  clear hfA
  have xC:=zV xS ko
  have qf:=um.mono zdS
  have Ub:=xC.size
  have hl3':wa.length<=2:=by omega
  clear xO xS ko um c2 VS
  go_wp2_with (at_builtin;refine yp _ (by rfl) _ _ (by rfl) _ _ wa (by rfl) qf _ _ _ (by rfl) (by omega) (by omega) ?_;intro g4 cp4 w4 qd uy hBg4 zgz)
  obtain⟨xK,jc⟩:=yh hr je xC qf uy
  have zcd:=jc.size
  clear uy qf je xC
  go_wp2_with fail
  refine(Uv hr jc xK _ (by omega) UE K0).mono ?_
  rintro e w5 ⟨k5,q5,p5,rfl,hp5,hp5',xx,qO,hkp,hft⟩
  have yq:=hkp _ _ qd
  have J5:=qO.size
  clear hkp qd xK jc
  go_wp2_with (at_builtin;refine yp _ (by rfl) _ _ (by rfl) _ _ (wa ++ [(9,(n:Int))]) (by rfl) yq _ _ _ (by rfl) (by simp;omega) (by omega) ?_;intro g6 cp6 w6 qG kq hBg6 zgA)
  obtain⟨jf,jd⟩:=yh hr xx qO yq kq
  simp only[List.length_append,List.length_cons,List.length_nil,Nat.zero_add] at qG
  have hsz6:=jd.size
  clear kq yq xx qO
  go_wp2
  go_ret
  exact⟨_,_,_,rfl,qG,by(try simp);omega,by first | omega | simp,by omega,by omega,jf,jd,(HF.out.snoc (KL (by omega) (by omega))).snoc (hft.out _)⟩
 have ex1:(x == 1)=false:=zG.2 hx_1
 by_cases hx_2:x=2
 ·subst hx_2
  go_wp2_with fail
  refine(xq hr jv xT _ (by omega) (by omega) (by omega)).mono ?_
  rintro e w2 ⟨u,rfl,QV,hu1,xO,xS,_⟩
  clear xT jv
  obtain⟨n,rfl⟩:=Int.eq_ofNat_of_zero_le QV
  have hn:n<xs.length:=by omega
  obtain⟨c0,x0,x1⟩:=hxs n hn
  have c2:=xS.cell c0 (by simp;exact hga)
  have hnz:(n:Int)<xs.length:=by omega
  have zdS:=xS.size
  generalize xs[n]=y at x0 x1 c2
  clear c0
  go_wp2_with fail
  refine(YN _ _ _ _ _ _ _ _ xO (by omega) x0 x1 UE K0).mono ?_
  rintro e w3 ⟨v3,wa,p3,rfl,um,VS,hp3,hp3',je,ko,hfA⟩
  have HF:Hid (Fits xs.length t wa):=hfA _
  clear hfA
  have xC:=zV xS ko
  have qf:=um.mono zdS
  have Ub:=xC.size
  have hl3':wa.length<=2:=by omega
  clear xO xS ko um c2 VS
  go_wp2_with (at_builtin;refine yp _ (by rfl) _ _ (by rfl) _ _ wa (by rfl) qf _ _ _ (by rfl) (by omega) (by omega) ?_;intro g4 cp4 w4 qd uy hBg4 zgz)
  obtain⟨xK,jc⟩:=yh hr je xC qf uy
  have zcd:=jc.size
  clear uy qf je xC
  go_wp2_with fail
  refine(Uv hr jc xK _ (by omega) UE K0).mono ?_
  rintro e w5 ⟨k5,q5,p5,rfl,hp5,hp5',xx,qO,hkp,hft⟩
  have yq:=hkp _ _ qd
  have J5:=qO.size
  clear hkp qd xK jc
  go_wp2_with (at_builtin;refine yp _ (by rfl) _ _ (by rfl) _ _ (wa ++ [(9,(n:Int))]) (by rfl) yq _ _ _ (by rfl) (by simp;omega) (by omega) ?_;intro g6 cp6 w6 qG kq hBg6 zgA)
  obtain⟨jf,jd⟩:=yh hr xx qO yq kq
  simp only[List.length_append,List.length_cons,List.length_nil,Nat.zero_add] at qG
  have hsz6:=jd.size
  clear kq yq xx qO
  go_wp2
  go_ret
  exact⟨_,_,_,rfl,qG,by(try simp);omega,by first | omega | simp,by omega,by omega,jf,jd,(HF.out.snoc (KL (by omega) (by omega))).snoc (hft.out _)⟩
 have ex2:(x == 2)=false:=zG.2 hx_2
 by_cases hx_3:x=3
 ·subst hx_3
  go_wp2_with fail
  refine(xq hr jv xT _ (by omega) (by omega) (by omega)).mono ?_
  rintro e w2 ⟨u,rfl,QV,hu1,xO,xS,_⟩
  clear xT jv
  obtain⟨n,rfl⟩:=Int.eq_ofNat_of_zero_le QV
  have hn:n<xs.length:=by omega
  obtain⟨c0,x0,x1⟩:=hxs n hn
  have c2:=xS.cell c0 (by simp;exact hga)
  have hnz:(n:Int)<xs.length:=by omega
  have zdS:=xS.size
  generalize xs[n]=y at x0 x1 c2
  clear c0
  go_wp2_with fail
  refine(YN _ _ _ _ _ _ _ _ xO (by omega) x0 x1 UE K0).mono ?_
  rintro e w3 ⟨v3,wa,p3,rfl,um,VS,hp3,hp3',je,ko,hfA⟩
  have HF:Hid (Fits xs.length t wa):=hfA _
  clear hfA
  have xC:=zV xS ko
  have qf:=um.mono zdS
  have Ub:=xC.size
  have hl3':wa.length<=2:=by omega
  clear xO xS ko um c2 VS
  go_wp2_with (at_builtin;refine yp _ (by rfl) _ _ (by rfl) _ _ wa (by rfl) qf _ _ _ (by rfl) (by omega) (by omega) ?_;intro g4 cp4 w4 qd uy hBg4 zgz)
  obtain⟨xK,jc⟩:=yh hr je xC qf uy
  have zcd:=jc.size
  clear uy qf je xC
  go_wp2_with fail
  refine(Uv hr jc xK _ (by omega) UE K0).mono ?_
  rintro e w5 ⟨k5,q5,p5,rfl,hp5,hp5',xx,qO,hkp,hft⟩
  have yq:=hkp _ _ qd
  have J5:=qO.size
  clear hkp qd xK jc
  go_wp2_with (at_builtin;refine yp _ (by rfl) _ _ (by rfl) _ _ (wa ++ [(9,(n:Int))]) (by rfl) yq _ _ _ (by rfl) (by simp;omega) (by omega) ?_;intro g6 cp6 w6 qG kq hBg6 zgA)
  obtain⟨jf,jd⟩:=yh hr xx qO yq kq
  simp only[List.length_append,List.length_cons,List.length_nil,Nat.zero_add] at qG
  have hsz6:=jd.size
  clear kq yq xx qO
  go_wp2
  go_ret
  exact⟨_,_,_,rfl,qG,by(try simp);omega,by first | omega | simp,by omega,by omega,jf,jd,(HF.out.snoc (KL (by omega) (by omega))).snoc (hft.out _)⟩
 have ex3:(x == 3)=false:=zG.2 hx_3
 by_cases hx_4:x=4
 ·subst hx_4
  go_wp2_with fail
  have zaF:=jv.size
  refine(JM _ _ _ _ _ _ _ xT (by omega) UE K0).mono ?_
  rintro e w3 ⟨v3,wa,p3,rfl,um,VS,Kw,hp3,hp3',je,ko,hfA⟩
  have HF:Hid (Fits xs.length t wa):=hfA _
  clear hfA
  have xC:=zV jv ko
  have qf:=um.mono zaF
  have Ub:=xC.size
  clear xT jv ko um
  go_wp2_with fail
  refine(Uv hr xC je _ (by omega) UE K0).mono ?_
  rintro e w4 ⟨k4,q4,p4,rfl,hp4,hp4',xK,jc,hkp,hft⟩
  have qd:=hkp _ _ qf
  have zcd:=jc.size
  clear hkp qf je xC
  go_wp2_with (at_builtin;refine yp _ (by rfl) _ _ (by rfl) _ _ wa (by rfl) qd _ _ _ (by rfl) (by omega) (by omega) ?_;intro g5 cp5 w5 yq Zb hBg5 ze1)
  obtain⟨xx,qO⟩:=yh hr xK jc qd Zb
  have J5:=qO.size
  clear Zb qd xK jc
  go_wp2
  go_ret
  exact⟨_,_,_,rfl,yq,by(try simp);omega,by first | omega | simp,by omega,by omega,xx,qO,HF.out.snoc (hft.out _)⟩
 have ex4:(x == 4)=false:=zG.2 hx_4
 by_cases hx_5:x=5
 ·subst hx_5
  go_wp2_with fail
  have zaF:=jv.size
  refine(JM _ _ _ _ _ _ _ xT (by omega) UE K0).mono ?_
  rintro e w3 ⟨v3,wa,p3,rfl,um,VS,Kw,hp3,hp3',je,ko,hfA⟩
  have HF:Hid (Fits xs.length t wa):=hfA _
  clear hfA
  have xC:=zV jv ko
  have qf:=um.mono zaF
  have Ub:=xC.size
  clear xT jv ko um
  go_wp2_with fail
  refine(Uv hr xC je _ (by omega) UE K0).mono ?_
  rintro e w4 ⟨k4,q4,p4,rfl,hp4,hp4',xK,jc,hkp,hft⟩
  have qd:=hkp _ _ qf
  have zcd:=jc.size
  clear hkp qf je xC
  go_wp2_with (at_builtin;refine yp _ (by rfl) _ _ (by rfl) _ _ wa (by rfl) qd _ _ _ (by rfl) (by omega) (by omega) ?_;intro g5 cp5 w5 yq Zb hBg5 ze1)
  obtain⟨xx,qO⟩:=yh hr xK jc qd Zb
  have J5:=qO.size
  clear Zb qd xK jc
  go_wp2
  go_ret
  exact⟨_,_,_,rfl,yq,by(try simp);omega,by first | omega | simp,by omega,by omega,xx,qO,HF.out.snoc (hft.out _)⟩
 have ex5:(x == 5)=false:=zG.2 hx_5
 by_cases hx_6:x=6
 ·subst hx_6
  go_wp2_with fail
  refine(xq hr jv xT _ (by omega) (by omega) (by omega)).mono ?_
  rintro e w2 ⟨u,rfl,QV,hu1,xO,xS,_⟩
  clear xT jv
  go_wp2_with fail
  refine(uI hr xO xS [11,0,3,u] _ _ _ rfl (by simp)).mono ?_
  rintro e w3 ⟨v3,wa,rfl,qf,VS,Kw,je,xC,QR⟩
  have HF:Hid (Fits xs.length t wa):=by rw[QR];exact Fits.append (.one YE) (.one (zc0 QV hu1))
  clear QR
  simp only[List.length_cons,List.length_nil] at VS Kw
  have Ub:=xC.size
  clear xO xS
  go_wp2
  go_ret
  exact⟨_,_,_,rfl,qf,by(try simp);omega,by first | omega | simp,by omega,by omega,je,xC,HF.out⟩
 have ex6:(x == 6)=false:=zG.2 hx_6
 by_cases hx_7:x=7
 ·subst hx_7
  go_wp2_with fail
  refine(xq hr jv xT _ (by omega) (by omega) (by omega)).mono ?_
  rintro e w2 ⟨u,rfl,QV,hu1,xO,xS,_⟩
  clear xT jv
  by_cases hu:u=0
  ·subst hu
   go_wp2_with fail
   refine(xq hr xS xO _ (by omega) (by omega) (by omega)).mono ?_
   rintro e w3 ⟨y,rfl,XM,JJ,je,xC,_⟩
   clear xO xS
   go_wp2_with fail
   refine(xq hr xC je _ (by omega) (by omega) (by omega)).mono ?_
   rintro e w4 ⟨z,rfl,jM,xP,xK,jc,_⟩
   clear je xC
   go_wp2_with fail
   refine(uI hr xK jc [11,0,12,0,1,y,14,z] _ _ _ rfl (by simp)).mono ?_
   rintro e w5 ⟨v5,ops5,rfl,yq,hl5,hm5,xx,qO,QR⟩
   have HF:Hid (Fits xs.length t ops5):=by rw[QR];exact Fits.append (.one YE) (Fits.append (.one QL) (Fits.append (.one (Qk XM (by omega))) (.one (zeS jM xP))))
   clear QR
   simp only[List.length_cons,List.length_nil] at hl5 hm5
   have J5:=qO.size
   clear xK jc
   go_wp2
   go_ret
   exact⟨_,_,_,rfl,yq,by(try simp);omega,by first | omega | simp,by omega,by omega,xx,qO,HF.out⟩
  have eu:(u == 0)=false:=zG.2 hu
  go_wp2_with fail
  refine(xq hr xS xO _ (by omega) (by omega) (by omega)).mono ?_
  rintro e w3 ⟨y,rfl,XM,JJ,je,xC,_⟩
  clear xO xS
  go_wp2_with fail
  refine(xq hr xC je _ (by omega) (by omega) (by omega)).mono ?_
  rintro e w4 ⟨z,rfl,jM,xP,xK,jc,_⟩
  clear je xC
  go_wp2_with fail
  refine(uI hr xK jc [2,y,2,z,6,0,16,0] _ _ _ rfl (by simp)).mono ?_
  rintro e w5 ⟨v5,ops5,rfl,yq,hl5,hm5,xx,qO,QR⟩
  have HF:Hid (Fits xs.length t ops5):=by rw[QR];exact Fits.append (.one (uO XM JJ)) (Fits.append (.one (uO jM xP)) (Fits.append (.one fit_6) (.one Wi)))
  clear QR
  simp only[List.length_cons,List.length_nil] at hl5 hm5
  have J5:=qO.size
  clear xK jc
  go_wp2
  go_ret
  exact⟨_,_,_,rfl,yq,by(try simp);omega,by first | omega | simp,by omega,by omega,xx,qO,HF.out⟩
 have ex7:(x == 7)=false:=zG.2 hx_7
 by_cases hx_8:x=8
 ·subst hx_8
  go_wp2_with fail
  refine(xq hr jv xT _ (by omega) (by omega) (by omega)).mono ?_
  rintro e w2 ⟨y,rfl,XM,JJ,xO,xS,_⟩
  clear xT jv
  go_wp2_with fail
  refine(xq hr xS xO _ (by omega) (by omega) (by omega)).mono ?_
  rintro e w3 ⟨z,rfl,jM,xP,je,xC,_⟩
  clear xO xS
  go_wp2_with fail
  refine(uI hr je xC [2,y,1,z,15,0] _ _ _ rfl (by simp)).mono ?_
  rintro e w4 ⟨v4,wb,rfl,qd,Wu,hm4,xK,jc,QR⟩
  have HF:Hid (Fits xs.length t wb):=by rw[QR];exact Fits.append (.one (uO XM JJ)) (Fits.append (.one (Qk jM (by omega))) (.one zgN))
  clear QR
  simp only[List.length_cons,List.length_nil] at Wu hm4
  have zcd:=jc.size
  clear je xC
  go_wp2_with (at_builtin;refine yp _ (by rfl) _ _ (by rfl) _ _ wb (by rfl) qd _ _ _ (by rfl) (by omega) (by omega) ?_;intro g5 cp5 w5 yq Zb hBg5 ze1)
  obtain⟨xx,qO⟩:=yh hr xK jc qd Zb
  have J5:=qO.size
  clear Zb qd xK jc
  go_wp2
  go_ret
  exact⟨_,_,_,rfl,yq,by(try simp);omega,by first | omega | simp,by omega,by omega,xx,qO,HF.out.snoc zgu⟩
 have ex8:(x == 8)=false:=zG.2 hx_8
 go_wp2_with fail
 refine(xq hr jv xT _ (by omega) (by omega) (by omega)).mono ?_
 rintro e w2 ⟨y,rfl,XM,JJ,xO,xS,_⟩
 clear xT jv
 go_wp2_with fail
 refine(xq hr xS xO _ (by omega) (by omega) (by omega)).mono ?_
 rintro e w3 ⟨z,rfl,jM,xP,je,xC,_⟩
 clear xO xS
 go_wp2_with fail
 refine(uI hr je xC [1,y,1,z,5,0,16,0] _ _ _ rfl (by simp)).mono ?_
 rintro e w4 ⟨v4,wb,rfl,qd,Wu,hm4,xK,jc,QR⟩
 have HF:Hid (Fits xs.length t wb):=by rw[QR];exact Fits.append (.one (Qk XM (by omega))) (Fits.append (.one (Qk jM (by omega))) (Fits.append (.one fit_5) (.one Wi)))
 clear QR
 simp only[List.length_cons,List.length_nil] at Wu hm4
 have zcd:=jc.size
 clear je xC
 go_wp2
 go_ret
 exact⟨_,_,_,rfl,qd,by(try simp);omega,by first | omega | simp,by omega,by omega,xK,jc,HF.out⟩
theorem wR {w:World} {g:Nat} {t:TypeId} {n:Nat} {f:Nat->Value} {B:Nat} {v:Value} {L:yH} (hr:w.rowIs g t n f) (h:ye B w v L) (ht:t≠70):v.ownBlock≠some g:=by
 intro e
 obtain⟨c,hc,_⟩:=hr
 obtain⟨_,h2⟩:=h
 rcases h2 with⟨rfl,_⟩ | ⟨g',cap,cur,rfl,_,hh,_⟩
 ·cases e
 ·simp[Value.ownBlock] at e
  subst e
  rw[hc] at hh
  simp at hh
  exact ht hh.2
theorem yT {w w':World} {g:Nat} {t:TypeId} {n:Nat} {f:Nat->Value} {row:Option Nat} (hr:w.rowIs g t n f) (k:w.grownBy w' row) (xp:some g≠row):w'.rowIs g t n f:=hr.of_block (k.block g hr.lt xp)
theorem Rd.heap {w w':World} {b:Nat} {a:Option Addr} {len cap p:Nat} (h:Rd w b a len cap p) (e:w'.heap=w.heap):Rd w' b a len cap p:=by
 have hc:∀q,w'.cell? q=w.cell? q:=fun q=>by simp[World.cell?,e]
 have hf:∀q,w'.frozen? q=w.frozen? q:=fun q=>by simp[World.frozen?,e]
 exact⟨by rw[hc];exact h.s,by rw[hc];exact h.p,by rw[hf];exact h.f,h.l,fun i hi=>by
  obtain⟨b',o,x,h1,h2,h3,h4⟩:=h.c i hi
  exact⟨b',o,x,h1,h2,by rw[hc];exact h3,h4⟩⟩
theorem Rd.alloc {w:World} {b:Nat} {a:Option Addr} {len cap p:Nat} (h:Rd w b a len cap p) (o:Obj):Rd (w.alloc o) b a len cap p:=Rd.kept h h zD (World.grownBy_alloc w o none) (fun g e=>by cases e)
def VX (A T:Int) (v:Value):Nat->Value:=fun i=>if i=0 then zI A else if i=1 then zI T else v
theorem Qf (w:World) (A T:Int) (v:Value):(w.alloc (.cells #[.int .i64 A,.int .i64 T,v] 68)).rowIs w.heap.size 68 3 (VX A T v) :=
 ⟨_,Go.Deep.blk_alloc_new _ _,rfl,fun i hi=>by match i,hi with | 0,_=>rfl | 1,_=>rfl | 2,_=>rfl⟩
structure MS (w0 w:World) (b:Nat) (a:Option Addr) (len cap p g:Nat) (A T:Int) (v:Value) (L:yH):Prop where
 rd:Rd w b a len cap p
 gr:w0.grownBy w (some b)
 box:w.rowIs g 68 3 (VX A T v)
 own:w0.heap.size<g
 row:ye w0.heap.size w v L
 res:w.rowIs w0.heap.size 68 3 (VX 0 0 (zQ))
 r0:∃p0,Rd w0 b a len cap p0
namespace MS
variable {w0 w w' W:World} {b:Nat} {a:Option Addr} {len cap p q g:Nat} {A T:Int} {v v':Value} {L L':yH}
theorem blt (h:MS w0 w b a len cap p g A T v L):b<w0.heap.size:=by obtain⟨_,h0⟩:=h.r0;exact World.block_lt_of_cell? _ _ h0.s
theorem c0 (h:MS w0 w b a len cap p g A T v L):w.cell? (zH g 0)=some (zI A):=h.box.cell (by decide)
theorem c1 (h:MS w0 w b a len cap p g A T v L):w.cell? (zH g 1)=some (zI T):=h.box.cell (i:=1) (by decide)
theorem c2 (h:MS w0 w b a len cap p g A T v L):w.cell? (zH g 2)=some v:=h.box.cell (i:=2) (by decide)
theorem f2 (h:MS w0 w b a len cap p g A T v L):w.frozen? (zH g 2)=false:=h.box.frozen 2
theorem pick (h:MS w0 w b a len cap p g A T v L) (hrd:Rd w' b a len cap q) (hg:w.grownBy w' (some b)):MS w0 w' b a len cap q g A T v L :=
 ⟨hrd,zV h.gr hg,yT h.box hg (by have:=h.own;have:=h.blt;simp;omega),h.own,h.row.kept hg (fun k e hk=>by cases e;have:=(h.row.lt _ hk).1;have:=h.blt;omega),yT h.res hg (by have:=h.blt;simp;omega),h.r0⟩
theorem drew (h:MS w0 w b a len cap p g A T v L):MS w0 w.drew b a len cap p g A T v L:=⟨Rd.heap h.rd rfl,⟨h.gr.os,h.gr.tape,h.gr.output,h.gr.size,h.gr.block⟩,h.box,h.own,h.row,h.res,h.r0⟩
theorem appended (h:MS w0 w b a len cap p g A T v L) (hW:zO w W) (qF:W.grownBy w' v.ownBlock):Rd w' b a len cap p/\w0.grownBy w' (some b)/\w'.rowIs g 68 3 (VX A T v)/\w'.rowIs w0.heap.size 68 3 (VX 0 0 (zQ)):=by
 have hA:=Ze hW v.ownBlock
 have hA2:w.grownBy w' v.ownBlock:=⟨qF.os.trans hA.os,qF.tape.trans hA.tape,qF.output.trans hA.output,Nat.le_trans hA.size qF.size,fun i hi hn=>(qF.block i (Nat.lt_of_lt_of_le hi hA.size) hn).trans (hA.block i hi hn)⟩
 have yd:∀k,v.ownBlock=some k->w0.heap.size<=k:=fun k e=>(h.row.lt k e).1
 obtain⟨p0,h0⟩:=h.r0
 exact⟨Rd.kept h0 h.rd h.gr.size hA2 yd,xr h.gr hA2 yd,yT h.box hA2 (fun e=>wR h.box h.row (by decide) e.symm),yT h.res hA2 (fun e=>wR h.res h.row (by decide) e.symm)⟩
theorem stored (h:MS w0 w b a len cap p g A T v L) (hW:zO w W) (qF:W.grownBy w' v.ownBlock) (hrow':ye w0.heap.size w' v' L'):MS w0 (w'.setCell (zH g 2) v') b a len cap p g A T v' L':=by
 obtain⟨h1,h2,h3,h4⟩:=h.appended hW qF
 have zE:=h.own
 have k:=qM w' g 2 v'
 have e:∀k,some g=some k->w0.heap.size<=k:=fun k e=>by cases e;omega
 obtain⟨p0,h0⟩:=h.r0
 refine⟨Rd.kept h0 h1 h2.size k e,xr h2 k e,(h3.set 2 v').congr (fun i hi=>?_),zE,hrow'.kept k (fun q hq hk=>by cases hq;exact wR h3 hrow' (by decide) hk),yT h4 k (by simp;omega),h.r0⟩
 match i,hi with
 | 0,_=>simp[VX]
 | 1,_=>simp[VX]
 | 2,_=>simp[VX]
end MS
theorem zgQ {w:World} {b:Nat} {a:Option Addr} {len cap p:Nat} (hr:Rd w b a len cap p) (A T:Int) (k:Nat) :
 MS w (((((w.setCell (zH b 1) (.int .i64 ((p:Int)+1))).alloc (.cells #[.int .i64 0,.int .i64 0,.slice none 0 0] 68)).alloc (.cells #[] 70)).alloc (.cells #[.int .i64 A,.int .i64 T,.slice (some ⟨w.heap.size+1,0,none⟩) 0 0] 68)).drewN k) b a len cap (p+1) (w.heap.size+1+1) A T (.slice (some ⟨w.heap.size+1,0,none⟩) 0 0) []:=by
 have hn:Rd (w.setCell (zH b 1) (zI ((p:Int)+1))) b a len cap (p+1):=hr.next (q:=p+1)
 have hg:=QN w b (zI ((p:Int)+1))
 have hz:(w.setCell (zH b 1) (zI ((p:Int)+1))).heap.size=w.heap.size:=by simp[World.setCell]
 generalize w.setCell (zH b 1) (zI ((p:Int)+1))=V at *
 have r1:=Qf V 0 0 (zQ)
 have o2:=ye.made (V.alloc (.cells #[.int .i64 0,.int .i64 0,.slice none 0 0] 68))
 have b3:=Qf ((V.alloc (.cells #[.int .i64 0,.int .i64 0,.slice none 0 0] 68)).alloc (.cells #[] 70)) A T (.slice (some ⟨w.heap.size+1,0,none⟩) 0 0)
 simp only[World.size_alloc,hz] at r1 o2 b3
 have o3:ye w.heap.size _ _ []:=(o2.mono (Nat.le_succ _)).kept (row:=none) (World.grownBy_alloc _ (.cells #[.int .i64 A,.int .i64 T,.slice (some ⟨w.heap.size+1,0,none⟩) 0 0] 68) none) (fun g e=>by cases e)
 exact⟨Rd.heap (((hn.alloc _).alloc _).alloc _) rfl,kR (qr (qr (qr hg _) _) _) k,b3,by omega,o3,(r1.alloc _).alloc _,⟨p,hr⟩⟩
theorem zgR {w:World} {b:Nat} {a:Option Addr} {len cap p:Nat} (hr:Rd w b a len cap p) (A T:Int) (k:Nat) :
 MS w (((((w.setCell (zH b 1) (.int .i64 ((p:Int)+1))).alloc (.cells #[.int .i64 0,.int .i64 0,.slice none 0 0] 68)).alloc (.cells #[.int .i64 A,.int .i64 T,.slice (some ⟨w.heap.size+1+1,0,none⟩) 0 0] 68)).alloc (.cells #[] 70)).drewN k) b a len cap (p+1) (w.heap.size+1) A T (.slice (some ⟨w.heap.size+1+1,0,none⟩) 0 0) []:=by
 have hn:Rd (w.setCell (zH b 1) (zI ((p:Int)+1))) b a len cap (p+1):=hr.next (q:=p+1)
 have hg:=QN w b (zI ((p:Int)+1))
 have hz:(w.setCell (zH b 1) (zI ((p:Int)+1))).heap.size=w.heap.size:=by simp[World.setCell]
 generalize w.setCell (zH b 1) (zI ((p:Int)+1))=V at *
 have r1:=Qf V 0 0 (zQ)
 have b2:=Qf (V.alloc (.cells #[.int .i64 0,.int .i64 0,.slice none 0 0] 68)) A T (.slice (some ⟨w.heap.size+1+1,0,none⟩) 0 0)
 have o3:=ye.made ((V.alloc (.cells #[.int .i64 0,.int .i64 0,.slice none 0 0] 68)).alloc (.cells #[.int .i64 A,.int .i64 T,.slice (some ⟨w.heap.size+1+1,0,none⟩) 0 0] 68))
 simp only[World.size_alloc,hz] at r1 b2 o3
 exact⟨Rd.heap (((hn.alloc _).alloc _).alloc _) rfl,kR (qr (qr (qr hg _) _) _) k,b2.alloc _,by omega,o3.mono (by omega),(r1.alloc _).alloc _,⟨p,hr⟩⟩
end Go.Proofs.YtbjgjjkgfnfejaaGreatDoor
