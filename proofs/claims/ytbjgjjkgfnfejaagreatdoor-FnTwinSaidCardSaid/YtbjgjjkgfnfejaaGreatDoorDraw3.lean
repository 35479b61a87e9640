/-
  What draws, the small pieces: operations are gathered in rows of their own; l71Args, l71End, l71Look, l71Ops answer some operations (we need not know which), and but for the reader's place nothing that was there turns.
-/
import Derived.Test.YtbjgjjkgfnfejaaGreatDoorDraw1
import Derived.Deep.AppendLies
import Derived.Deep.RegionHeld3
namespace Go.Proofs.YtbjgjjkgfnfejaaGreatDoor
set_option maxHeartbeats 2000000
set_option maxRecDepth 100000
open Go.RowKit
def ua (ops:yH):List Value:=ops.flatMap fun o=>[zI o.1,zI o.2]
theorem Ys (a b:yH):ua (a ++ b)=ua a ++ ua b:=by simp[ua]
theorem Zb (a:yH):(ua a).length=a.length * 2:=by
 induction a with
 | nil=>rfl
 | cons x l ih=>simp[ua] at ih ⊢;omega
theorem Q3 (a:yH):∀(i:Nat) (h:i<a.length),(ua a)[i * 2]?=some (zI a[i].1)/\(ua a)[i * 2+1]?=some (zI a[i].2):=by
 induction a with
 | nil=>intro i h;exact absurd h yB
 | cons x l ih =>
  intro i h
  cases i with
  | zero=>exact⟨rfl,rfl⟩
  | succ i =>
   have:=ih i (by simpa using h)
   rw[show(i+1) * 2=i * 2+2 by omega]
   exact this
def yh (B:Nat) (w:World) (v:Value) (ops:yH):Prop:=w.ownsRow B 70 2 v ops.length (ua ops)
theorem yh.nil (B:Nat) (w:World):yh B w (zQ) []:=World.ownsRow_nil _ _ _ _
theorem yh.made (w:World):yh w.heap.size (w.alloc (.cells #[] 70)) (.slice (some ⟨w.heap.size,0,none⟩) 0 0) [] :=
 ⟨rfl,.inr ⟨w.heap.size,0,#[],rfl,Nat.le_refl _,Go.Deep.blk_alloc_new _ _,Nat.le_refl _,Nat.zero_le _,rfl,rfl⟩⟩
theorem yh.mono {B B':Nat} {w:World} {v:Value} {ops:yH} (h:yh B w v ops) (hB:B'<=B):yh B' w v ops:=by
 obtain⟨h1,h2⟩:=h
 refine⟨h1,?_⟩
 rcases h2 with h2 | ⟨g,cap,cur,hv,hg,r⟩
 ·exact .inl h2
 ·exact .inr ⟨g,cap,cur,hv,by omega,r⟩
theorem yh.kept {B:Nat} {w w':World} {v:Value} {ops:yH} {row:Option Nat} (h:yh B w v ops) (hg:w.grownBy w' row) (qF:∀g,row=some g->v.ownBlock≠some g):yh B w' v ops :=
 World.ownsRow.kept h hg (by
  cases row with
  | none=>cases hv:v.ownBlock with
   | none=>exact .inl rfl
   | some g=>exact .inr (by simp)
  | some g=>exact .inr (qF g rfl))
theorem yh.lt {B:Nat} {w:World} {v:Value} {ops:yH} (h:yh B w v ops):∀k,v.ownBlock=some k->B<=k/\k<w.heap.size:=World.ownsRow.lt h
theorem Rd.kept {w0 w w':World} {b:Nat} {a:Option Addr} {len cap p0 p:Nat} {row:Option Nat} (h0:Rd w0 b a len cap p0) (h:Rd w b a len cap p) (vJ:w0.heap.size<=w.heap.size) (k:w.grownBy w' row) (zT:∀g,row=some g->w0.heap.size<=g):Rd w' b a len cap p:=by
 have hb:b<w0.heap.size:=World.block_lt_of_cell? _ _ h0.s
 have ne:∀q,q<w0.heap.size->some q≠row:=fun q hq e=>by have:=zT q e.symm;omega
 refine⟨k.cell h.s (ne b hb),k.cell h.p (ne b hb),?_,h.l,fun i hi=>?_⟩
 ·rw[World.frozen?_of_block (k.block b (by omega) (ne b hb))];exact h.f
 ·obtain⟨b0,o0,x0,e0,_,hc0,_⟩:=h0.c i hi
  have yz:=World.block_lt_of_cell? _ _ hc0
  obtain⟨b',o,x,e1,hb',hc,hx⟩:=h.c i hi
  have hbb:b'=b0:=by
   rw[e0] at e1
   injection e1 with e1
   injection e1 with e1 _
   exact e1.symm
  subst hbb
  exact⟨b',o,x,e1,hb',k.cell hc (ne b' yz),hx⟩
theorem xi {w0 w w':World} {b:Nat} {row:Option Nat} (h:w0.grownBy w (some b)) (k:w.grownBy w' row) (zT:∀g,row=some g->w0.heap.size<=g):w0.grownBy w' (some b) :=
 ⟨k.os.trans h.os,k.tape.trans h.tape,k.output.trans h.output,Nat.le_trans h.size k.size,fun i hi hn=>(k.block i (Nat.lt_of_lt_of_le hi h.size) (fun e=>by have:=zT i e.symm;omega)).trans (h.block i hi hn)⟩
theorem kz (w:World) (b:Option Nat):w.grownBy w b:=⟨rfl,rfl,rfl,Nat.le_refl _,fun _ _ _=>rfl⟩
theorem qh {w w1:World} {b:Option Nat} (h:w.grownBy w1 b) (o:Obj):w.grownBy (w1.alloc o) b :=
 ⟨h.os,h.tape,h.output,by have:=h.size;simp;omega,fun k hk hn=>(Below.heap_alloc _ _ _ (by have:=h.size;omega)).trans (h.block k hk hn)⟩
theorem xj (w:World) (g o:Nat) (v:Value):w.grownBy (w.setCell (zH g o) v) (some g) :=
 ⟨rfl,rfl,rfl,by simp[World.setCell],fun k _ hk=>Below.heap_setCell _ _ _ _ (fun e=>hk (by rw[e]))⟩
theorem ZL {w0 w:World} {b g:Nat} {a:Option Addr} {len cap p0 p:Nat} (h0:Rd w0 b a len cap p0) (hr:Rd w b a len cap p) (hg:w0.grownBy w (some b)) (hgb:w0.heap.size<=g) (o1 o2:Nat) (v1 v2:Value) :
 Rd ((w.setCell (zH g o1) v1).setCell (zH g o2) v2) b a len cap p/\w0.grownBy ((w.setCell (zH g o1) v1).setCell (zH g o2) v2) (some b):=by
 have k1:=xj w g o1 v1
 have k2:=xj (w.setCell (zH g o1) v1) g o2 v2
 have zT:∀q,some g=some q->w0.heap.size<=q:=fun q e=>by cases e;exact hgb
 have r1:=Rd.kept h0 hr hg.size k1 zT
 have g1:=xi hg k1 zT
 exact⟨Rd.kept h0 r1 g1.size k2 zT,xi g1 k2 zT⟩
theorem Qe (M:yH):∀u∈ua M,u.oneCell'=true:=by
 intro u hu
 simp only[ua,List.mem_flatMap] at hu
 obtain⟨x,_,hx⟩:=hu
 simp at hx
 rcases hx with rfl | rfl <;> rfl
theorem ut {ops:Array Oper} {rest:List Oper} {o:Oper} {act:Act} {Q:Exit->Act->World->Prop} (w:World) (hgd:o.guard=none) (s x:Operand)
 (ho:o.op=.call {callee:=.builtin .append,args:=#[s,x],argTypes:=#[66,66]}) (B:Nat) (v:Value) (L:yH) (hs:act.eval s=v) (zy:yh B w v L) (M:yH) (gb c:Nat)
 (hx:act.eval x=zK gb 0 M.length c) (hnews:∀j u,(ua M)[j]?=some u->w.cell? ((⟨gb,0,none⟩:Addr).add j)=some u) (hM:0<M.length) (hL:L.length+M.length<=1000) (hB:B<=w.heap.size)
 (h:∀g cap w',yh B w' (zK g 0 (L.length+M.length) cap) (L ++ M)->w.grownBy w' v.ownBlock->B<=g->g<w'.heap.size ->
  wpList Tryz.prog ops Q rest (act.put o.dst (zK g 0 (L.length+M.length) cap)) w') :
 wpList Tryz.prog ops Q (o :: rest) act w:=by
 obtain⟨i0,hi,jT,xF,kf⟩:=info_parts Tryz.infoOp
 refine wpList_append_lies _ hgd s x 66 ho B 70 i0 _ 2 16 Tryz.underlying66 hi jT xF kf rfl (by omega) v L.length (ua L) hs zy ⟨gb,0,none⟩ M.length c (ua M) hx (Zb M)
  hnews (Qe M) hM (by unfold maxLen;omega) (by omega) hB w.heap.size rfl ?_
 intro g cap w' h1 h2 h3 h4
 refine h g cap w' ?_ h2 ?_ h4
 ·unfold yh
  rw[Ys,List.length_append]
  exact h1
 ·rcases h3 with h3 | h3
  ·exact(zy.lt g h3).1
  ·omega
theorem Xk {ops:Array Oper} {o:Oper} {act:Act} {K:Act->World->Prop} {Q:Exit->Act->World->Prop} {E:Prop} (w:World) (hgd:o.guard=none) (s x:Operand)
 (ho:o.op=.call {callee:=.builtin .append,args:=#[s,x],argTypes:=#[66,66]}) (B:Nat) (v:Value) (L:yH) (hs:act.eval s=v) (zy:yh B w v L) (M:yH) (gb c:Nat)
 (hx:act.eval x=zK gb 0 M.length c) (hnews:∀j u,(ua M)[j]?=some u->w.cell? ((⟨gb,0,none⟩:Addr).add j)=some u) (hM:0<M.length) (hL:L.length+M.length<=1000) (hB:B<=w.heap.size)
 (h:∀g cap w',yh B w' (zK g 0 (L.length+M.length) cap) (L ++ M)->w.grownBy w' v.ownBlock->B<=g->g<w'.heap.size ->
  K (act.put o.dst (zK g 0 (L.length+M.length) cap)) w') :
 if Region.wanted o (yielded ops act.tmps)=true then Oper.wp Tryz.prog o act w K Q else E:=by
 obtain⟨i0,hi,jT,xF,kf⟩:=info_parts Tryz.infoOp
 refine step_append_lies _ hgd s x 66 ho B 70 i0 _ 2 16 Tryz.underlying66 hi jT xF kf rfl (by omega) v L.length (ua L) hs zy ⟨gb,0,none⟩ M.length c (ua M) hx (Zb M)
  hnews (Qe M) hM (by unfold maxLen;omega) (by omega) hB w.heap.size rfl ?_
 intro g cap w' h1 h2 h3 h4
 refine h g cap w' ?_ h2 ?_ h4
 ·unfold yh
  rw[Ys,List.length_append]
  exact h1
 ·rcases h3 with h3 | h3
  ·exact(zy.lt g h3).1
  ·omega
theorem yq {ops:Array Oper} {rest:List Oper} {o:Oper} {act:Act} {Q:Exit->Act->World->Prop} (w:World) (hgd:o.guard=none) (s x:Operand)
 (ho:o.op=.call {callee:=.builtin .append,args:=#[s,x],argTypes:=#[66,66]}) (B:Nat) (v:Value) (L:yH) (hs:act.eval s=v) (zy:yh B w v L) (k q:Int) (c:Nat)
 (hx:act.eval x=zK w.heap.size 0 1 c) (hL:L.length<=900) (hB:B<=w.heap.size)
 (h:∀g cap w',yh B w' (.slice (some ⟨g,0,none⟩) (L.length+1) cap) (L ++ [(k,q)])->(w.alloc (.cells #[.int .i64 k,.int .i64 q] 70)).grownBy w' v.ownBlock->B<=g->g<w'.heap.size ->
  wpList Tryz.prog ops Q rest (act.put o.dst (zK g 0 (L.length+1) cap)) w') :
 wpList Tryz.prog ops Q (o :: rest) act (w.alloc (.cells #[.int .i64 k,.int .i64 q] 70)) :=
 ut _ hgd s x ho B v L hs (World.ownsRow.alloc zy _) [(k,q)] w.heap.size c hx (World.news_of_block (Go.Deep.blk_alloc_new w _)) (by simp) (by simp;omega) (by simp;omega) h
theorem yi {w0 w w':World} {b:Nat} {a:Option Addr} {len cap p0 p:Nat} {v:Value} {L:yH} {o:Obj} (h0:Rd w0 b a len cap p0) (hr:Rd w b a len cap p) (hg:w0.grownBy w (some b)) (zy:yh w0.heap.size w v L)
 (qA:(w.alloc o).grownBy w' v.ownBlock):Rd w' b a len cap p/\w0.grownBy w' (some b):=by
 have zT:∀g,v.ownBlock=some g->w0.heap.size<=g:=fun g e=>(zy.lt g e).1
 have hA:=World.grownBy_alloc w o v.ownBlock
 have hA2:w.grownBy w' v.ownBlock:=⟨qA.os.trans hA.os,qA.tape.trans hA.tape,qA.output.trans hA.output,Nat.le_trans hA.size qA.size,fun i hi hn=>(qA.block i (Nat.lt_of_lt_of_le hi hA.size) hn).trans (hA.block i hi hn)⟩
 exact⟨Rd.kept h0 hr hg.size hA2 zT,xi hg hA2 zT⟩
theorem Yy (w:World) (b:Nat) (a:Option Addr) (len cap p:Nat) (n t:Int) (hr:Rd w b a len cap p) (hp:p+4<=1000000) (WE:0<=n) (WG:n<=2) (VO:1<=t) (JU:t<=4) :
 Calls Tryz.prog 172 #[zJ b 0,zI n,zI t] w fun e w'=>∃v ops p',e=.returned v/\yh w.heap.size w' v ops/\(ops.length:Int)=n/\p<=p'/\p'<=p+4/\Rd w' b a len cap p'/\w.grownBy w' (some b):=by
 obtain⟨m,rfl⟩:=Int.eq_ofNat_of_zero_le WE
 have hbw:b<w.heap.size:=World.block_lt_of_cell? _ _ hr.s
 go_enter Tryz.func172,Tryz.ntmps172
 go_wp2
 go_loopg [7,8] m (fun g v i wr=>∃(L:yH) (q:Nat),L.length<=m/\g=m - L.length/\i=zI L.length/\yh w.heap.size wr v L/\p<=q/\q<=p+2 * L.length/\Rd wr b a len cap q/\w.grownBy wr (some b))
 case atStart=>exact⟨[],p,Nat.zero_le _,rfl,rfl,yh.made w,Nat.le_refl _,by simp,Rd.kept hr hr zD (World.grownBy_alloc w _ none) (fun g e=>by cases e),qh (kz _ _) _⟩
 case round =>
  obtain⟨L,q,hk,rfl,rfl,zT,hpq,hqp,hrd,hgr⟩:=hrel
  by_cases yz:L.length<m
  ·have uW:(L.length:Int)<(m:Int):=by omega
   have vJ:=hgr.size
   go_wp2_with fail
   refine(qe _ _ _ _ _ _ _ hrd (by omega) (by omega) (by omega)).mono ?_
   rintro e w1 ⟨x,rfl,Qi,Z5,xS,Yh⟩
   have uU:yh w.heap.size w1 _ L:=zT.kept Yh (fun g e h=>by cases e;have:=zT.lt _ h;omega)
   have jx:=zU hgr Yh
   have UF:=jx.size
   clear zT hrd hgr Yh
   by_cases h0:x=0
   ·subst h0
    go_wp2_with (at_builtin;refine yq _ (by rfl) _ _ (by rfl) _ _ L (by rfl) uU _ _ _ (by rfl) (by omega) (by omega) ?_;intro g cp w2 yN qA hBg jl)
    obtain⟨xP,xR⟩:=yi hr xS jx uU qA
    clear qA hBg jl uU xS jx
    go_wp2
    go_roundg (m - (L.length+1))
    case measure=>omega
    case rel=>exact⟨_,q+1,by simp;omega,by simp,by simp,yN,by omega,by simp;omega,xP,xR⟩
   have e0:(x == 0)=false:=zG.2 h0
   by_cases h1:x=1
   ·subst h1
    go_wp2_with fail
    refine(qe _ _ _ _ _ _ _ xS (by omega) (by omega) (by omega)).mono ?_
    rintro e w3 ⟨y,rfl,Vj,K4,jb,j9⟩
    have yT:yh w.heap.size w3 _ L:=uU.kept j9 (fun g e h=>by cases e;have:=uU.lt _ h;omega)
    have xz:=zU jx j9
    have Vi:=xz.size
    clear uU xS jx j9 UF
    go_wp2_with (at_builtin;refine yq _ (by rfl) _ _ (by rfl) _ _ L (by rfl) yT _ _ _ (by rfl) (by omega) (by omega) ?_;intro g cp w2 yN qA hBg jl)
    obtain⟨xP,xR⟩:=yi hr jb xz yT qA
    clear qA hBg jl yT jb xz
    go_wp2
    go_roundg (m - (L.length+1))
    case measure=>omega
    case rel=>exact⟨_,q+1+1,by simp;omega,by simp,by simp,yN,by omega,by simp;omega,xP,xR⟩
   ·have e1:(x == 1)=false:=zG.2 h1
    go_wp2_with fail
    refine(qe _ _ _ _ _ _ _ xS (by omega) (by omega) (by omega)).mono ?_
    rintro e w3 ⟨y,rfl,Vj,K4,jb,j9⟩
    have yT:yh w.heap.size w3 _ L:=uU.kept j9 (fun g e h=>by cases e;have:=uU.lt _ h;omega)
    have xz:=zU jx j9
    have Vi:=xz.size
    clear uU xS jx j9 UF
    go_wp2_with (at_builtin;refine yq _ (by rfl) _ _ (by rfl) _ _ L (by rfl) yT _ _ _ (by rfl) (by omega) (by omega) ?_;intro g cp w2 yN qA hBg jl)
    obtain⟨xP,xR⟩:=yi hr jb xz yT qA
    clear qA hBg jl yT jb xz
    go_wp2
    go_roundg (m - (L.length+1))
    case measure=>omega
    case rel=>exact⟨_,q+1+1,by simp;omega,by simp,by simp,yN,by omega,by simp;omega,xP,xR⟩
  ·obtain rfl:m=L.length:=by omega
   go_wp2
   go_ret
   exact⟨_,L,q,rfl,zT,rfl,hpq,by omega,hrd,hgr⟩
theorem zbm (w:World) (b:Nat) (a:Option Addr) (len cap p:Nat) (t:Int) (hr:Rd w b a len cap p) (hp:p+2<=1000000) (VO:1<=t) (JU:t<=4) :
 Calls Tryz.prog 171 #[zJ b 0,zI t] w fun e w'=>∃(k q:Int) (p':Nat),e=.returned (.agg #[zI k,zI q])/\p<=p'/\p'<=p+2/\Rd w' b a len cap p'/\w.grownBy w' (some b):=by
 have hbw:b<w.heap.size:=World.block_lt_of_cell? _ _ hr.s
 have Q7:=Rd.kept hr hr zD (World.grownBy_alloc w (.cells #[.int .i64 0,.int .i64 0] 70) none) (fun g e=>by cases e)
 have hgA:=qh (kz w (some b)) (.cells #[.int .i64 0,.int .i64 0] 70)
 have c0:(w.alloc (.cells #[.int .i64 0,.int .i64 0] 70)).rowIs w.heap.size 70 2 (fun _=>.int .i64 0):=⟨_,Go.Deep.blk_alloc_new _ _,rfl,fun i hi=>by match i,hi with | 0,_=>rfl | 1,_=>rfl⟩
 go_enter Tryz.func171,Tryz.ntmps171
 go_wp2_with fail
 generalize w.alloc (.cells #[.int .i64 0,.int .i64 0] 70)=W0 at *
 have vJ:=hgA.size
 refine(qe _ _ _ _ _ _ _ Q7 (by omega) (by omega) (by omega)).mono ?_
 rintro e w1 ⟨x,rfl,Qi,Z5,xS,Yh⟩
 have c1:w1.rowIs w.heap.size 70 2 (fun _=>zI 0):=c0.of_block (Yh.block _ c0.lt (by simp;omega))
 have jx:=zU hgA Yh
 clear Q7 hgA Yh c0
 by_cases h0:x=0
 ·subst h0
  obtain⟨f0,f1,c0',c1'⟩:w1.frozen? (zH w.heap.size 0)=false/\w1.frozen? (zH w.heap.size 1)=false/\w1.cell? (zH w.heap.size 0)=some (zI 0)/\w1.cell? (zH w.heap.size 1)=some (zI 0):=⟨c1.frozen 0,c1.frozen 1,c1.cell (by omega),c1.cell (by omega)⟩
  have R:=fun v1 v2=>ZL hr xS jx zD 0 1 v1 v2
  clear c1 xS jx
  go_wp2
  exact bodyPost_ret (v:=.agg #[zI 4,zI 0]) (by simp[results,Tryz.results171,go_sem,c0',c1']) rfl ⟨_,_,_,rfl,by omega,by omega,(R _ _).1,(R _ _).2⟩
 have e0:(x == 0)=false:=zG.2 h0
 by_cases h1:x=1
 ·subst h1
  obtain⟨f0,f1,c0',c1'⟩:w1.frozen? (zH w.heap.size 0)=false/\w1.frozen? (zH w.heap.size 1)=false/\w1.cell? (zH w.heap.size 0)=some (zI 0)/\w1.cell? (zH w.heap.size 1)=some (zI 0):=⟨c1.frozen 0,c1.frozen 1,c1.cell (by omega),c1.cell (by omega)⟩
  have R:=fun v1 v2=>ZL hr xS jx zD 0 1 v1 v2
  clear c1 xS jx
  go_wp2
  exact bodyPost_ret (v:=.agg #[zI 16,zI 0]) (by simp[results,Tryz.results171,go_sem,c0',c1']) rfl ⟨_,_,_,rfl,by omega,by omega,(R _ _).1,(R _ _).2⟩
 have e1:(x == 1)=false:=zG.2 h1
 by_cases h2:x=2
 ·subst h2
  obtain⟨f0,f1,c0',c1'⟩:w1.frozen? (zH w.heap.size 0)=false/\w1.frozen? (zH w.heap.size 1)=false/\w1.cell? (zH w.heap.size 0)=some (zI 0)/\w1.cell? (zH w.heap.size 1)=some (zI 0):=⟨c1.frozen 0,c1.frozen 1,c1.cell (by omega),c1.cell (by omega)⟩
  have R:=fun v1 v2=>ZL hr xS jx zD 0 1 v1 v2
  clear c1 xS jx
  go_wp2
  exact bodyPost_ret (v:=.agg #[zI 16,zI 0]) (by simp[results,Tryz.results171,go_sem,c0',c1']) rfl ⟨_,_,_,rfl,by omega,by omega,(R _ _).1,(R _ _).2⟩
 have e2:(x == 2)=false:=zG.2 h2
 have UF:=jx.size
 go_wp2_with fail
 refine(qe _ _ _ _ _ _ _ xS (by omega) (by omega) (by omega)).mono ?_
 rintro e w3 ⟨y,rfl,Vj,K4,jb,j9⟩
 have c3:w3.rowIs w.heap.size 70 2 (fun _=>zI 0):=c1.of_block (j9.block _ c1.lt (by simp;omega))
 have xz:=zU jx j9
 clear xS jx j9 c1
 obtain⟨f0,f1,c0',c1'⟩:w3.frozen? (zH w.heap.size 0)=false/\w3.frozen? (zH w.heap.size 1)=false/\w3.cell? (zH w.heap.size 0)=some (zI 0)/\w3.cell? (zH w.heap.size 1)=some (zI 0):=⟨c3.frozen 0,c3.frozen 1,c3.cell (by omega),c3.cell (by omega)⟩
 have R:=fun v1 v2=>ZL hr jb xz zD 0 1 v1 v2
 clear c3 jb xz
 go_wp2
 exact bodyPost_ret (v:=.agg #[zI 3,zI y]) (by simp[results,Tryz.results171,go_sem,c0',c1']) rfl ⟨_,_,_,rfl,by omega,by omega,(R _ _).1,(R _ _).2⟩
theorem Yo {w w':World} (h:zO w w') (b:Option Nat):w.grownBy w' b:=⟨h.os,h.tape,h.output,h.size,fun k hk _=>h.block k hk⟩
theorem XW {w W w':World} {v:Value} {L:yH} {B:Nat} (zy:yh B w v L) (qA:W.grownBy w' v.ownBlock) {p:Addr} (hp:p.block<B) (hW:zO w W) {u:Value} (h:w.cell? p=some u):w'.cell? p=some u :=
 qA.cell (zc hW h) (fun e=>by have:=zy.lt _ e.symm;omega)
theorem Uo {w0 w W w':World} {v:Value} {L:yH} (zy:yh w0.heap.size w v L) (qA:W.grownBy w' v.ownBlock) (hW:zO w W) (hb:zO w0 w):zO w0 w' :=
 (hb.trans (hW.mono hb.size)).grown qA (Nat.le_trans hb.size hW.size) (fun k e=>(zy.lt k e).1)
theorem zbn (w:World) (g cap:Nat) (xs:List Int) (hx:∀i,(hi:i<xs.length)->w.cell? (zH g i)=some (zI xs[i])) (hl:xs.length<=20) :
 Calls Tryz.prog 170 #[zK g 0 xs.length cap] w fun e w'=>∃v ops,e=.returned v/\yh w.heap.size w' v ops/\ops.length * 2<=xs.length/\xs.length<=ops.length * 2+1/\zO w w':=by
 go_enter Tryz.func170,Tryz.ntmps170
 go_wp2
 go_loopg [3,4] xs.length (fun d v i wr=>∃(L:yH) (k:Nat),k<=xs.length/\d=xs.length - k/\i=zI k/\yh w.heap.size wr v L/\zO w wr/\Hid (k=L.length * 2))
 case atStart=>exact⟨[],0,Nat.zero_le _,rfl,rfl,yh.made w,zR _ _,rfl⟩
 case round =>
  obtain⟨L,k,hk,rfl,rfl,zT,hb,HK⟩:=hrel
  by_cases yz:k+1<xs.length
  ·have uW:(k:Int)+1<(xs.length:Int):=by omega
   have hkz0:(k:Int)<(xs.length:Int):=by omega
   have U9:(0:Int)<=(k:Int):=by omega
   have hk1:(0:Int)<=(k:Int)+1:=by omega
   have hw:IntKind.i64.wrap ((k:Int)+1)=(k:Int)+1:=by rw[IntKind.wrap_i64];omega
   have d0:=zc hb (hx k (by omega))
   have d1:=zc hb (hx (k+1) (by omega))
   have vJ:=hb.size
   have hgw:g<w.heap.size:=World.block_lt_of_cell? _ _ (hx k (by omega))
   have JS:L.length<=20:=by have:=HK.out;omega
   generalize xs[k]=x0 at d0
   generalize xs[k+1]=x1 at d1
   go_wp2_with fail
   go_region_held3 (fun w'=>w'.cell? (zH g k)=some (zI x0)/\w'.cell? (zH g (k+1))=some (zI x1))
    (first | exact⟨XW zT qA hgw (zR _ _).drew d0,XW zT qA hgw (zR _ _).drew d1⟩ | go_keep)
    ((refine Xk _ (by rfl) _ _ (by rfl) w.heap.size _ L (by rfl) (World.ownsRow.alloc zT _) [(x0,x1)] wr.heap.size _ (by rfl) (World.news_of_block (Go.Deep.blk_alloc_new wr _)) (by simp) (by simp;omega) (by simp;omega) ?_;intro g' cp w2 yN qA hBg jl))
   have yL:zO w w2:=Uo zT qA (zR _ _).drew hb
   have HK2:Hid (k+2=(L ++ [(x0,x1)]).length * 2):=by have:=HK.out;show _=_;simp;omega
   clear qA zT hb d0 d1 HK hBg jl hw
   go_wp2
   go_roundg (xs.length - (k+2))
   case measure=>omega
   case rel=>exact⟨_,k+2,by omega,rfl,by go_num,yN,yL,HK2⟩
  ·go_wp2
   go_ret
   exact⟨_,L,rfl,zT,by have:=HK.out;omega,by have:=HK.out;omega,hb⟩
theorem Zr {w0 w:World} {b:Nat} {a:Option Addr} {len cap p0 p:Nat} (h0:Rd w0 b a len cap p0) (hr:Rd w b a len cap p) (hg:w0.grownBy w (some b)) (xs:List Int) (cs:Array Value) (t:TypeId) (c:Nat) (hcs:cs=(xs.map fun x=>Value.int .i64 x).toArray) (hl:xs.length<=20) :
 Calls Tryz.prog 170 #[zK w.heap.size 0 xs.length c] (w.alloc (.cells cs t)) fun e w'=>∃v ops,e=.returned v/\yh w0.heap.size w' v ops/\ops.length * 2<=xs.length/\xs.length<=ops.length * 2+1/\Rd w' b a len cap p/\w0.grownBy w' (some b):=by
 subst hcs
 refine(zbn _ w.heap.size c xs (fun i hi=>?_) hl).mono ?_
 ·simp[hi]
 ·rintro e w' ⟨v,ops,rfl,zT,hlen,hlen',hb⟩
  have hA:=World.grownBy_alloc w (.cells (xs.map fun x=>Value.int .i64 x).toArray t) none
  have hN:w.grownBy w' none:=⟨hb.os.trans hA.os,hb.tape.trans hA.tape,hb.output.trans hA.output,Nat.le_trans hA.size hb.size,fun i hi hn=>(hb.block i (Nat.lt_of_lt_of_le hi hA.size)).trans (hA.block i hi hn)⟩
  exact⟨v,ops,rfl,zT.mono (by have:=hg.size;simp;omega),hlen,hlen',Rd.kept h0 hr hg.size hN (fun g e=>by cases e),xi hg hN (fun g e=>by cases e)⟩
theorem xe {w0 w:World} {b:Nat} {a:Option Addr} {len cap p0 p:Nat} (h0:Rd w0 b a len cap p0) (hg:w0.grownBy w (some b)) (hr:Rd w b a len cap p) (n:Int) (hp:p<=1000000) (h1:1<=n) (h2:n<=1000000) :
 Calls Tryz.prog 79 #[zJ b 0,zI n] w fun e w'=>∃x:Int,e=.returned (zI x)/\0<=x/\x<n/\Rd w' b a len cap (p+1)/\w0.grownBy w' (some b)/\∀v L,yh w0.heap.size w v L->yh w0.heap.size w' v L:=by
 have hb:b<w0.heap.size:=World.block_lt_of_cell? _ _ h0.s
 refine(qe _ _ _ _ _ _ _ hr hp h1 h2).mono ?_
 rintro e w' ⟨x,rfl,Qi,Z5,hrd,hgr⟩
 exact⟨x,rfl,Qi,Z5,hrd,zU hg hgr,fun v L h=>h.kept hgr (fun g e k=>by cases e;have:=h.lt _ k;omega)⟩
theorem Jf (w:World) (b:Nat) (a:Option Addr) (len cap p:Nat) (t:Int) (hr:Rd w b a len cap p) (hp:p+4<=1000000) (VO:1<=t) (JU:t<=4) :
 Calls Tryz.prog 173 #[zJ b 0,zI t] w fun e w'=>∃v ops p',e=.returned v/\yh w.heap.size w' v ops/\ops.length<=3/\1<=ops.length/\p<=p'/\p'<=p+4/\Rd w' b a len cap p'/\w.grownBy w' (some b):=by
 go_enter Tryz.func173,Tryz.ntmps173
 go_wp2_with fail
 refine(Zr hr hr (kz _ _) [11,0] _ _ _ rfl (by decide)).mono ?_
 rintro e w1 ⟨v1,zej,rfl,uU,hl1,Qh,xS,jx⟩
 go_wp2_with fail
 refine(xe hr jx xS _ (by omega) (by omega) (by omega)).mono ?_
 rintro e w2 ⟨x,rfl,Qi,Z5,xP,xR,hkp⟩
 have yN:=hkp _ _ uU
 clear hkp uU xS jx
 simp only[List.length_cons,List.length_nil] at hl1 Qh
 have Kn:=hr
 by_cases h0:x=0
 ·subst h0
  go_wp2_with fail
  refine(xe hr xR xP _ (by omega) (by omega) (by omega)).mono ?_
  rintro e w3 ⟨u,rfl,Jx,hu1,jb,xz,_⟩
  clear yN xP xR
  go_wp2_with fail
  refine(Zr hr jb xz [2,u] _ _ _ rfl (by simp)).mono ?_
  rintro e w4 ⟨v4,ZE,rfl,yU,UB,Wb,Jc,xZ⟩
  simp only[List.length_cons,List.length_nil] at UB Wb
  obtain⟨q4,hq4,hq4',xH⟩:∃q4,p+1<=q4/\q4<=p+2/\Rd w4 b a len cap q4:=⟨_,by omega,by omega,Jc⟩
  clear Jc jb xz
  clear Kn
  go_wp2_with fail
  refine(xe hr xZ xH _ (by omega) (by omega) (by omega)).mono ?_
  rintro e w5 ⟨y,rfl,Vj,K4,xp,qE,hkp⟩
  have yt:=hkp _ _ yU
  have XA:=qE.size
  clear hkp yU xH xZ
  by_cases k0:y=0
  ·subst k0
   go_wp2_with (at_builtin;refine yq _ (by rfl) _ _ (by rfl) _ _ ZE (by rfl) yt _ _ _ (by rfl) (by omega) (by omega) ?_;intro g cp w6 qp ke hBg jl)
   obtain⟨jc,ja⟩:=yi hr xp qE yt ke
   clear ke hBg jl
   go_wp2
   go_ret
   exact⟨_,_,_,rfl,qp,by simp;omega,by simp,by omega,by omega,jc,ja⟩
  have f0:(y == 0)=false:=zG.2 k0
  by_cases k1:y=1
  ·subst k1
   go_wp2_with fail
   refine(xe hr qE xp _ (by omega) (by omega) (by omega)).mono ?_
   rintro e w7 ⟨z,rfl,jT,xF,Yi,wI,hkp⟩
   have kB:=hkp _ _ yt
   have zbg:=wI.size
   clear hkp yt xp qE
   go_wp2_with (at_builtin;refine yq _ (by rfl) _ _ (by rfl) _ _ ZE (by rfl) kB _ _ _ (by rfl) (by omega) (by omega) ?_;intro g cp w6 qp ke hBg jl)
   obtain⟨jc,ja⟩:=yi hr Yi wI kB ke
   clear ke hBg jl
   go_wp2
   go_ret
   exact⟨_,_,_,rfl,qp,by simp;omega,by simp,by omega,by omega,jc,ja⟩
  have f1:(y == 1)=false:=zG.2 k1
  by_cases k2:y=2
  ·subst k2
   go_wp2_with fail
   refine(xe hr qE xp _ (by omega) (by omega) (by omega)).mono ?_
   rintro e w7 ⟨z,rfl,jT,xF,Yi,wI,hkp⟩
   have kB:=hkp _ _ yt
   have zbg:=wI.size
   clear hkp yt xp qE
   go_wp2_with (at_builtin;refine yq _ (by rfl) _ _ (by rfl) _ _ ZE (by rfl) kB _ _ _ (by rfl) (by omega) (by omega) ?_;intro g cp w6 qp ke hBg jl)
   obtain⟨jc,ja⟩:=yi hr Yi wI kB ke
   clear ke hBg jl
   go_wp2
   go_ret
   exact⟨_,_,_,rfl,qp,by simp;omega,by simp,by omega,by omega,jc,ja⟩
  have f2:(y == 2)=false:=zG.2 k2
  by_cases k3:y=3
  ·subst k3
   go_wp2_with (at_builtin;refine yq _ (by rfl) _ _ (by rfl) _ _ ZE (by rfl) yt _ _ _ (by rfl) (by omega) (by omega) ?_;intro g cp w6 qp ke hBg jl)
   obtain⟨jc,ja⟩:=yi hr xp qE yt ke
   clear ke hBg jl
   go_wp2
   go_ret
   exact⟨_,_,_,rfl,qp,by simp;omega,by simp,by omega,by omega,jc,ja⟩
  have f3:(y == 3)=false:=zG.2 k3
  by_cases k4:y=4
  ·subst k4
   go_wp2_with (at_builtin;refine yq _ (by rfl) _ _ (by rfl) _ _ ZE (by rfl) yt _ _ _ (by rfl) (by omega) (by omega) ?_;intro g cp w6 qp ke hBg jl)
   obtain⟨jc,ja⟩:=yi hr xp qE yt ke
   clear ke hBg jl
   go_wp2
   go_ret
   exact⟨_,_,_,rfl,qp,by simp;omega,by simp,by omega,by omega,jc,ja⟩
  have f4:(y == 4)=false:=zG.2 k4
  go_wp2
  go_ret
  exact⟨_,_,_,rfl,yt,by omega,by omega,by omega,by omega,xp,qE⟩
 have e0:(x == 0)=false:=zG.2 h0
 by_cases h1:x=1
 ·subst h1
  go_wp2_with fail
  refine(Zr hr xP xR [11,0,12,0] _ _ _ rfl (by simp)).mono ?_
  rintro e w4 ⟨v4,ZE,rfl,yU,UB,Wb,Jc,xZ⟩
  simp only[List.length_cons,List.length_nil] at UB Wb
  obtain⟨q4,hq4,hq4',xH⟩:∃q4,p+1<=q4/\q4<=p+2/\Rd w4 b a len cap q4:=⟨_,by omega,by omega,Jc⟩
  clear Jc yN xP xR
  clear Kn
  go_wp2_with fail
  refine(xe hr xZ xH _ (by omega) (by omega) (by omega)).mono ?_
  rintro e w5 ⟨y,rfl,Vj,K4,xp,qE,hkp⟩
  have yt:=hkp _ _ yU
  have XA:=qE.size
  clear hkp yU xH xZ
  by_cases k0:y=0
  ·subst k0
   go_wp2_with (at_builtin;refine yq _ (by rfl) _ _ (by rfl) _ _ ZE (by rfl) yt _ _ _ (by rfl) (by omega) (by omega) ?_;intro g cp w6 qp ke hBg jl)
   obtain⟨jc,ja⟩:=yi hr xp qE yt ke
   clear ke hBg jl
   go_wp2
   go_ret
   exact⟨_,_,_,rfl,qp,by simp;omega,by simp,by omega,by omega,jc,ja⟩
  have f0:(y == 0)=false:=zG.2 k0
  by_cases k1:y=1
  ·subst k1
   go_wp2_with fail
   refine(xe hr qE xp _ (by omega) (by omega) (by omega)).mono ?_
   rintro e w7 ⟨z,rfl,jT,xF,Yi,wI,hkp⟩
   have kB:=hkp _ _ yt
   have zbg:=wI.size
   clear hkp yt xp qE
   go_wp2_with (at_builtin;refine yq _ (by rfl) _ _ (by rfl) _ _ ZE (by rfl) kB _ _ _ (by rfl) (by omega) (by omega) ?_;intro g cp w6 qp ke hBg jl)
   obtain⟨jc,ja⟩:=yi hr Yi wI kB ke
   clear ke hBg jl
   go_wp2
   go_ret
   exact⟨_,_,_,rfl,qp,by simp;omega,by simp,by omega,by omega,jc,ja⟩
  have f1:(y == 1)=false:=zG.2 k1
  by_cases k2:y=2
  ·subst k2
   go_wp2_with fail
   refine(xe hr qE xp _ (by omega) (by omega) (by omega)).mono ?_
   rintro e w7 ⟨z,rfl,jT,xF,Yi,wI,hkp⟩
   have kB:=hkp _ _ yt
   have zbg:=wI.size
   clear hkp yt xp qE
   go_wp2_with (at_builtin;refine yq _ (by rfl) _ _ (by rfl) _ _ ZE (by rfl) kB _ _ _ (by rfl) (by omega) (by omega) ?_;intro g cp w6 qp ke hBg jl)
   obtain⟨jc,ja⟩:=yi hr Yi wI kB ke
   clear ke hBg jl
   go_wp2
   go_ret
   exact⟨_,_,_,rfl,qp,by simp;omega,by simp,by omega,by omega,jc,ja⟩
  have f2:(y == 2)=false:=zG.2 k2
  by_cases k3:y=3
  ·subst k3
   go_wp2_with (at_builtin;refine yq _ (by rfl) _ _ (by rfl) _ _ ZE (by rfl) yt _ _ _ (by rfl) (by omega) (by omega) ?_;intro g cp w6 qp ke hBg jl)
   obtain⟨jc,ja⟩:=yi hr xp qE yt ke
   clear ke hBg jl
   go_wp2
   go_ret
   exact⟨_,_,_,rfl,qp,by simp;omega,by simp,by omega,by omega,jc,ja⟩
  have f3:(y == 3)=false:=zG.2 k3
  by_cases k4:y=4
  ·subst k4
   go_wp2_with (at_builtin;refine yq _ (by rfl) _ _ (by rfl) _ _ ZE (by rfl) yt _ _ _ (by rfl) (by omega) (by omega) ?_;intro g cp w6 qp ke hBg jl)
   obtain⟨jc,ja⟩:=yi hr xp qE yt ke
   clear ke hBg jl
   go_wp2
   go_ret
   exact⟨_,_,_,rfl,qp,by simp;omega,by simp,by omega,by omega,jc,ja⟩
  have f4:(y == 4)=false:=zG.2 k4
  go_wp2
  go_ret
  exact⟨_,_,_,rfl,yt,by omega,by omega,by omega,by omega,xp,qE⟩
 have e1:(x == 1)=false:=zG.2 h1
 by_cases h2:x=2
 ·subst h2
  go_wp2_with fail
  refine(Zr hr xP xR [11,0,12,0] _ _ _ rfl (by simp)).mono ?_
  rintro e w4 ⟨v4,ZE,rfl,yU,UB,Wb,Jc,xZ⟩
  simp only[List.length_cons,List.length_nil] at UB Wb
  obtain⟨q4,hq4,hq4',xH⟩:∃q4,p+1<=q4/\q4<=p+2/\Rd w4 b a len cap q4:=⟨_,by omega,by omega,Jc⟩
  clear Jc yN xP xR
  clear Kn
  go_wp2_with fail
  refine(xe hr xZ xH _ (by omega) (by omega) (by omega)).mono ?_
  rintro e w5 ⟨y,rfl,Vj,K4,xp,qE,hkp⟩
  have yt:=hkp _ _ yU
  have XA:=qE.size
  clear hkp yU xH xZ
  by_cases k0:y=0
  ·subst k0
   go_wp2_with (at_builtin;refine yq _ (by rfl) _ _ (by rfl) _ _ ZE (by rfl) yt _ _ _ (by rfl) (by omega) (by omega) ?_;intro g cp w6 qp ke hBg jl)
   obtain⟨jc,ja⟩:=yi hr xp qE yt ke
   clear ke hBg jl
   go_wp2
   go_ret
   exact⟨_,_,_,rfl,qp,by simp;omega,by simp,by omega,by omega,jc,ja⟩
  have f0:(y == 0)=false:=zG.2 k0
  by_cases k1:y=1
  ·subst k1
   go_wp2_with fail
   refine(xe hr qE xp _ (by omega) (by omega) (by omega)).mono ?_
   rintro e w7 ⟨z,rfl,jT,xF,Yi,wI,hkp⟩
   have kB:=hkp _ _ yt
   have zbg:=wI.size
   clear hkp yt xp qE
   go_wp2_with (at_builtin;refine yq _ (by rfl) _ _ (by rfl) _ _ ZE (by rfl) kB _ _ _ (by rfl) (by omega) (by omega) ?_;intro g cp w6 qp ke hBg jl)
   obtain⟨jc,ja⟩:=yi hr Yi wI kB ke
   clear ke hBg jl
   go_wp2
   go_ret
   exact⟨_,_,_,rfl,qp,by simp;omega,by simp,by omega,by omega,jc,ja⟩
  have f1:(y == 1)=false:=zG.2 k1
  by_cases k2:y=2
  ·subst k2
   go_wp2_with fail
   refine(xe hr qE xp _ (by omega) (by omega) (by omega)).mono ?_
   rintro e w7 ⟨z,rfl,jT,xF,Yi,wI,hkp⟩
   have kB:=hkp _ _ yt
   have zbg:=wI.size
   clear hkp yt xp qE
   go_wp2_with (at_builtin;refine yq _ (by rfl) _ _ (by rfl) _ _ ZE (by rfl) kB _ _ _ (by rfl) (by omega) (by omega) ?_;intro g cp w6 qp ke hBg jl)
   obtain⟨jc,ja⟩:=yi hr Yi wI kB ke
   clear ke hBg jl
   go_wp2
   go_ret
   exact⟨_,_,_,rfl,qp,by simp;omega,by simp,by omega,by omega,jc,ja⟩
  have f2:(y == 2)=false:=zG.2 k2
  by_cases k3:y=3
  ·subst k3
   go_wp2_with (at_builtin;refine yq _ (by rfl) _ _ (by rfl) _ _ ZE (by rfl) yt _ _ _ (by rfl) (by omega) (by omega) ?_;intro g cp w6 qp ke hBg jl)
   obtain⟨jc,ja⟩:=yi hr xp qE yt ke
   clear ke hBg jl
   go_wp2
   go_ret
   exact⟨_,_,_,rfl,qp,by simp;omega,by simp,by omega,by omega,jc,ja⟩
  have f3:(y == 3)=false:=zG.2 k3
  by_cases k4:y=4
  ·subst k4
   go_wp2_with (at_builtin;refine yq _ (by rfl) _ _ (by rfl) _ _ ZE (by rfl) yt _ _ _ (by rfl) (by omega) (by omega) ?_;intro g cp w6 qp ke hBg jl)
   obtain⟨jc,ja⟩:=yi hr xp qE yt ke
   clear ke hBg jl
   go_wp2
   go_ret
   exact⟨_,_,_,rfl,qp,by simp;omega,by simp,by omega,by omega,jc,ja⟩
  have f4:(y == 4)=false:=zG.2 k4
  go_wp2
  go_ret
  exact⟨_,_,_,rfl,yt,by omega,by omega,by omega,by omega,xp,qE⟩
 have e2:(x == 2)=false:=zG.2 h2
 obtain⟨q4,hq4,hq4',xH⟩:∃q4,p+1<=q4/\q4<=p+2/\Rd w2 b a len cap q4:=⟨_,by omega,by omega,xP⟩
 have yU:=yN
 have xZ:=xR
 have UB:=hl1
 clear yN xR xP
 clear Kn
 go_wp2_with fail
 refine(xe hr xZ xH _ (by omega) (by omega) (by omega)).mono ?_
 rintro e w5 ⟨y,rfl,Vj,K4,xp,qE,hkp⟩
 have yt:=hkp _ _ yU
 have XA:=qE.size
 clear hkp yU xH xZ
 by_cases k0:y=0
 ·subst k0
  go_wp2_with (at_builtin;refine yq _ (by rfl) _ _ (by rfl) _ _ zej (by rfl) yt _ _ _ (by rfl) (by omega) (by omega) ?_;intro g cp w6 qp ke hBg jl)
  obtain⟨jc,ja⟩:=yi hr xp qE yt ke
  clear ke hBg jl
  go_wp2
  go_ret
  exact⟨_,_,_,rfl,qp,by simp;omega,by simp,by omega,by omega,jc,ja⟩
 have f0:(y == 0)=false:=zG.2 k0
 by_cases k1:y=1
 ·subst k1
  go_wp2_with fail
  refine(xe hr qE xp _ (by omega) (by omega) (by omega)).mono ?_
  rintro e w7 ⟨z,rfl,jT,xF,Yi,wI,hkp⟩
  have kB:=hkp _ _ yt
  have zbg:=wI.size
  clear hkp yt xp qE
  go_wp2_with (at_builtin;refine yq _ (by rfl) _ _ (by rfl) _ _ zej (by rfl) kB _ _ _ (by rfl) (by omega) (by omega) ?_;intro g cp w6 qp ke hBg jl)
  obtain⟨jc,ja⟩:=yi hr Yi wI kB ke
  clear ke hBg jl
  go_wp2
  go_ret
  exact⟨_,_,_,rfl,qp,by simp;omega,by simp,by omega,by omega,jc,ja⟩
 have f1:(y == 1)=false:=zG.2 k1
 by_cases k2:y=2
 ·subst k2
  go_wp2_with fail
  refine(xe hr qE xp _ (by omega) (by omega) (by omega)).mono ?_
  rintro e w7 ⟨z,rfl,jT,xF,Yi,wI,hkp⟩
  have kB:=hkp _ _ yt
  have zbg:=wI.size
  clear hkp yt xp qE
  go_wp2_with (at_builtin;refine yq _ (by rfl) _ _ (by rfl) _ _ zej (by rfl) kB _ _ _ (by rfl) (by omega) (by omega) ?_;intro g cp w6 qp ke hBg jl)
  obtain⟨jc,ja⟩:=yi hr Yi wI kB ke
  clear ke hBg jl
  go_wp2
  go_ret
  exact⟨_,_,_,rfl,qp,by simp;omega,by simp,by omega,by omega,jc,ja⟩
 have f2:(y == 2)=false:=zG.2 k2
 by_cases k3:y=3
 ·subst k3
  go_wp2_with (at_builtin;refine yq _ (by rfl) _ _ (by rfl) _ _ zej (by rfl) yt _ _ _ (by rfl) (by omega) (by omega) ?_;intro g cp w6 qp ke hBg jl)
  obtain⟨jc,ja⟩:=yi hr xp qE yt ke
  clear ke hBg jl
  go_wp2
  go_ret
  exact⟨_,_,_,rfl,qp,by simp;omega,by simp,by omega,by omega,jc,ja⟩
 have f3:(y == 3)=false:=zG.2 k3
 by_cases k4:y=4
 ·subst k4
  go_wp2_with (at_builtin;refine yq _ (by rfl) _ _ (by rfl) _ _ zej (by rfl) yt _ _ _ (by rfl) (by omega) (by omega) ?_;intro g cp w6 qp ke hBg jl)
  obtain⟨jc,ja⟩:=yi hr xp qE yt ke
  clear ke hBg jl
  go_wp2
  go_ret
  exact⟨_,_,_,rfl,qp,by simp;omega,by simp,by omega,by omega,jc,ja⟩
 have f4:(y == 4)=false:=zG.2 k4
 go_wp2
 go_ret
 exact⟨_,_,_,rfl,yt,by omega,by omega,by omega,by omega,xp,qE⟩
theorem VH {w0 w:World} {b:Nat} {a:Option Addr} {len cap p0 p:Nat} (h0:Rd w0 b a len cap p0) (hg:w0.grownBy w (some b)) (hr:Rd w b a len cap p) (t:Int) (hp:p+2<=1000000) (h1:1<=t) (h2:t<=4) :
 Calls Tryz.prog 171 #[zJ b 0,zI t] w fun e w'=>∃(k q:Int) (p':Nat),e=.returned (.agg #[zI k,zI q])/\p<=p'/\p'<=p+2/\Rd w' b a len cap p'/\w0.grownBy w' (some b)/\∀v L,yh w0.heap.size w v L->yh w0.heap.size w' v L:=by
 have hb:b<w0.heap.size:=World.block_lt_of_cell? _ _ h0.s
 refine(zbm _ _ _ _ _ _ _ hr hp h1 h2).mono ?_
 rintro e w' ⟨k,q,p',rfl,h3,h4,hrd,hgr⟩
 exact⟨k,q,p',rfl,h3,h4,hrd,zU hg hgr,fun v L h=>h.kept hgr (fun g e k=>by cases e;have:=h.lt _ k;omega)⟩
theorem WO (w:World) (b:Nat) (a:Option Addr) (len cap p:Nat) (ga c:Nat) (xs:List Int) (t:Int) (hr:Rd w b a len cap p) (hp:p+10<=1000000) (hxs:∀i,(hi:i<xs.length)->w.cell? (zH ga i)=some (zI xs[i])/\0<=xs[i]/\xs[i]<=2) (hga:ga≠b)
 (hl1:1<=xs.length) (UB:xs.length<=4) (VO:1<=t) (JU:t<=4) :
 Calls Tryz.prog 143 #[zJ b 0,zK ga 0 xs.length c,zI t] w fun e w'=>∃v ops p',e=.returned v/\yh w.heap.size w' v ops/\ops.length<=4/\1<=ops.length/\p<=p'/\p'<=p+10/\Rd w' b a len cap p'/\w.grownBy w' (some b):=by
 go_enter Tryz.func143,Tryz.ntmps143
 go_wp2_with fail
 refine(xe hr (kz _ _) hr _ (by omega) (by omega) (by omega)).mono ?_
 rintro e w1 ⟨x,rfl,Qi,Z5,xS,jx,_⟩
 by_cases hx_0:x=0
 ·subst hx_0
  go_wp2_with fail
  refine(xe hr jx xS _ (by omega) (by omega) (by omega)).mono ?_
  rintro e w2 ⟨u,rfl,Jx,hu1,xP,xR,_⟩
  clear xS jx
  go_wp2_with fail
  refine(Zr hr xP xR [1,u] _ _ _ rfl (by simp)).mono ?_
  rintro e w3 ⟨v3,Yj,rfl,yT,Wa,VL,jb,xz⟩
  simp only[List.length_cons,List.length_nil] at Wa VL
  have Vi:=xz.size
  clear xP xR
  go_wp2_with fail
  refine(VH hr xz jb _ (by omega) VO JU).mono ?_
  rintro e w4 ⟨k4,q4,p4,rfl,hp4,hp4',xH,xZ,hkp⟩
  have yU:=hkp _ _ yT
  have zbf:=xZ.size
  clear hkp yT jb xz
  go_wp2_with (at_builtin;refine yq _ (by rfl) _ _ (by rfl) _ _ Yj (by rfl) yU _ _ _ (by rfl) (by omega) (by omega) ?_;intro g5 cp5 w5 yt wW hBg5 zdO)
  obtain⟨xp,qE⟩:=yi hr xH xZ yU wW
  have XA:=qE.size
  clear wW yU xH xZ
  go_wp2
  go_ret
  exact⟨_,_,_,rfl,yt,by(try simp);omega,by first | omega | simp,by omega,by omega,xp,qE⟩
 have ex0:(x == 0)=false:=zG.2 hx_0
 by_cases hx_1:x=1
 ·subst hx_1
  go_wp2_with fail
  refine(xe hr jx xS _ (by omega) (by omega) (by omega)).mono ?_
  rintro e w2 ⟨u,rfl,Jx,hu1,xP,xR,_⟩
  clear xS jx
  obtain⟨n,rfl⟩:=Int.eq_ofNat_of_zero_le Jx
  have hn:n<xs.length:=by omega
  obtain⟨c0,x0,x1⟩:=hxs n hn
  have c2:=xR.cell c0 (by simp;exact hga)
  have hnz:(n:Int)<xs.length:=by omega
  have zcI:=xR.size
  generalize xs[n]=y at x0 x1 c2
  clear c0
  go_wp2_with fail
  refine(Yy _ _ _ _ _ _ _ _ xP (by omega) x0 x1 VO JU).mono ?_
  rintro e w3 ⟨v3,Yj,p3,rfl,ub,Wa,hp3,hp3',jb,j9⟩
  have xz:=zU xR j9
  have yT:=ub.mono zcI
  have Vi:=xz.size
  have hl3':Yj.length<=2:=by omega
  clear xP xR j9 ub c2 Wa
  go_wp2_with (at_builtin;refine yq _ (by rfl) _ _ (by rfl) _ _ Yj (by rfl) yT _ _ _ (by rfl) (by omega) (by omega) ?_;intro g4 cp4 w4 yU wj hBg4 ze7)
  obtain⟨xH,xZ⟩:=yi hr jb xz yT wj
  have zbf:=xZ.size
  clear wj yT jb xz
  go_wp2_with fail
  refine(VH hr xZ xH _ (by omega) VO JU).mono ?_
  rintro e w5 ⟨k5,q5,p5,rfl,hp5,hp5',xp,qE,hkp⟩
  have yt:=hkp _ _ yU
  have XA:=qE.size
  clear hkp yU xH xZ
  go_wp2_with (at_builtin;refine yq _ (by rfl) _ _ (by rfl) _ _ (Yj ++ [(9,(n:Int))]) (by rfl) yt _ _ _ (by rfl) (by simp;omega) (by omega) ?_;intro g6 cp6 w6 qp ke hBg6 ze8)
  obtain⟨jc,ja⟩:=yi hr xp qE yt ke
  simp only[List.length_append,List.length_cons,List.length_nil,Nat.zero_add] at qp
  have hsz6:=ja.size
  clear ke yt xp qE
  go_wp2
  go_ret
  exact⟨_,_,_,rfl,qp,by(try simp);omega,by first | omega | simp,by omega,by omega,jc,ja⟩
 have ex1:(x == 1)=false:=zG.2 hx_1
 by_cases hx_2:x=2
 ·subst hx_2
  go_wp2_with fail
  refine(xe hr jx xS _ (by omega) (by omega) (by omega)).mono ?_
  rintro e w2 ⟨u,rfl,Jx,hu1,xP,xR,_⟩
  clear xS jx
  obtain⟨n,rfl⟩:=Int.eq_ofNat_of_zero_le Jx
  have hn:n<xs.length:=by omega
  obtain⟨c0,x0,x1⟩:=hxs n hn
  have c2:=xR.cell c0 (by simp;exact hga)
  have hnz:(n:Int)<xs.length:=by omega
  have zcI:=xR.size
  generalize xs[n]=y at x0 x1 c2
  clear c0
  go_wp2_with fail
  refine(Yy _ _ _ _ _ _ _ _ xP (by omega) x0 x1 VO JU).mono ?_
  rintro e w3 ⟨v3,Yj,p3,rfl,ub,Wa,hp3,hp3',jb,j9⟩
  have xz:=zU xR j9
  have yT:=ub.mono zcI
  have Vi:=xz.size
  have hl3':Yj.length<=2:=by omega
  clear xP xR j9 ub c2 Wa
  go_wp2_with (at_builtin;refine yq _ (by rfl) _ _ (by rfl) _ _ Yj (by rfl) yT _ _ _ (by rfl) (by omega) (by omega) ?_;intro g4 cp4 w4 yU wj hBg4 ze7)
  obtain⟨xH,xZ⟩:=yi hr jb xz yT wj
  have zbf:=xZ.size
  clear wj yT jb xz
  go_wp2_with fail
  refine(VH hr xZ xH _ (by omega) VO JU).mono ?_
  rintro e w5 ⟨k5,q5,p5,rfl,hp5,hp5',xp,qE,hkp⟩
  have yt:=hkp _ _ yU
  have XA:=qE.size
  clear hkp yU xH xZ
  go_wp2_with (at_builtin;refine yq _ (by rfl) _ _ (by rfl) _ _ (Yj ++ [(9,(n:Int))]) (by rfl) yt _ _ _ (by rfl) (by simp;omega) (by omega) ?_;intro g6 cp6 w6 qp ke hBg6 ze8)
  obtain⟨jc,ja⟩:=yi hr xp qE yt ke
  simp only[List.length_append,List.length_cons,List.length_nil,Nat.zero_add] at qp
  have hsz6:=ja.size
  clear ke yt xp qE
  go_wp2
  go_ret
  exact⟨_,_,_,rfl,qp,by(try simp);omega,by first | omega | simp,by omega,by omega,jc,ja⟩
 have ex2:(x == 2)=false:=zG.2 hx_2
 by_cases hx_3:x=3
 ·subst hx_3
  go_wp2_with fail
  refine(xe hr jx xS _ (by omega) (by omega) (by omega)).mono ?_
  rintro e w2 ⟨u,rfl,Jx,hu1,xP,xR,_⟩
  clear xS jx
  obtain⟨n,rfl⟩:=Int.eq_ofNat_of_zero_le Jx
  have hn:n<xs.length:=by omega
  obtain⟨c0,x0,x1⟩:=hxs n hn
  have c2:=xR.cell c0 (by simp;exact hga)
  have hnz:(n:Int)<xs.length:=by omega
  have zcI:=xR.size
  generalize xs[n]=y at x0 x1 c2
  clear c0
  go_wp2_with fail
  refine(Yy _ _ _ _ _ _ _ _ xP (by omega) x0 x1 VO JU).mono ?_
  rintro e w3 ⟨v3,Yj,p3,rfl,ub,Wa,hp3,hp3',jb,j9⟩
  have xz:=zU xR j9
  have yT:=ub.mono zcI
  have Vi:=xz.size
  have hl3':Yj.length<=2:=by omega
  clear xP xR j9 ub c2 Wa
  go_wp2_with (at_builtin;refine yq _ (by rfl) _ _ (by rfl) _ _ Yj (by rfl) yT _ _ _ (by rfl) (by omega) (by omega) ?_;intro g4 cp4 w4 yU wj hBg4 ze7)
  obtain⟨xH,xZ⟩:=yi hr jb xz yT wj
  have zbf:=xZ.size
  clear wj yT jb xz
  go_wp2_with fail
  refine(VH hr xZ xH _ (by omega) VO JU).mono ?_
  rintro e w5 ⟨k5,q5,p5,rfl,hp5,hp5',xp,qE,hkp⟩
  have yt:=hkp _ _ yU
  have XA:=qE.size
  clear hkp yU xH xZ
  go_wp2_with (at_builtin;refine yq _ (by rfl) _ _ (by rfl) _ _ (Yj ++ [(9,(n:Int))]) (by rfl) yt _ _ _ (by rfl) (by simp;omega) (by omega) ?_;intro g6 cp6 w6 qp ke hBg6 ze8)
  obtain⟨jc,ja⟩:=yi hr xp qE yt ke
  simp only[List.length_append,List.length_cons,List.length_nil,Nat.zero_add] at qp
  have hsz6:=ja.size
  clear ke yt xp qE
  go_wp2
  go_ret
  exact⟨_,_,_,rfl,qp,by(try simp);omega,by first | omega | simp,by omega,by omega,jc,ja⟩
 have ex3:(x == 3)=false:=zG.2 hx_3
 by_cases hx_4:x=4
 ·subst hx_4
  go_wp2_with fail
  have UF:=jx.size
  refine(Jf _ _ _ _ _ _ _ xS (by omega) VO JU).mono ?_
  rintro e w3 ⟨v3,Yj,p3,rfl,ub,Wa,VL,hp3,hp3',jb,j9⟩
  have xz:=zU jx j9
  have yT:=ub.mono UF
  have Vi:=xz.size
  clear xS jx j9 ub
  go_wp2_with fail
  refine(VH hr xz jb _ (by omega) VO JU).mono ?_
  rintro e w4 ⟨k4,q4,p4,rfl,hp4,hp4',xH,xZ,hkp⟩
  have yU:=hkp _ _ yT
  have zbf:=xZ.size
  clear hkp yT jb xz
  go_wp2_with (at_builtin;refine yq _ (by rfl) _ _ (by rfl) _ _ Yj (by rfl) yU _ _ _ (by rfl) (by omega) (by omega) ?_;intro g5 cp5 w5 yt wW hBg5 zdO)
  obtain⟨xp,qE⟩:=yi hr xH xZ yU wW
  have XA:=qE.size
  clear wW yU xH xZ
  go_wp2
  go_ret
  exact⟨_,_,_,rfl,yt,by(try simp);omega,by first | omega | simp,by omega,by omega,xp,qE⟩
 have ex4:(x == 4)=false:=zG.2 hx_4
 by_cases hx_5:x=5
 ·subst hx_5
  go_wp2_with fail
  have UF:=jx.size
  refine(Jf _ _ _ _ _ _ _ xS (by omega) VO JU).mono ?_
  rintro e w3 ⟨v3,Yj,p3,rfl,ub,Wa,VL,hp3,hp3',jb,j9⟩
  have xz:=zU jx j9
  have yT:=ub.mono UF
  have Vi:=xz.size
  clear xS jx j9 ub
  go_wp2_with fail
  refine(VH hr xz jb _ (by omega) VO JU).mono ?_
  rintro e w4 ⟨k4,q4,p4,rfl,hp4,hp4',xH,xZ,hkp⟩
  have yU:=hkp _ _ yT
  have zbf:=xZ.size
  clear hkp yT jb xz
  go_wp2_with (at_builtin;refine yq _ (by rfl) _ _ (by rfl) _ _ Yj (by rfl) yU _ _ _ (by rfl) (by omega) (by omega) ?_;intro g5 cp5 w5 yt wW hBg5 zdO)
  obtain⟨xp,qE⟩:=yi hr xH xZ yU wW
  have XA:=qE.size
  clear wW yU xH xZ
  go_wp2
  go_ret
  exact⟨_,_,_,rfl,yt,by(try simp);omega,by first | omega | simp,by omega,by omega,xp,qE⟩
 have ex5:(x == 5)=false:=zG.2 hx_5
 by_cases hx_6:x=6
 ·subst hx_6
  go_wp2_with fail
  refine(xe hr jx xS _ (by omega) (by omega) (by omega)).mono ?_
  rintro e w2 ⟨u,rfl,Jx,hu1,xP,xR,_⟩
  clear xS jx
  go_wp2_with fail
  refine(Zr hr xP xR [11,0,3,u] _ _ _ rfl (by simp)).mono ?_
  rintro e w3 ⟨v3,Yj,rfl,yT,Wa,VL,jb,xz⟩
  simp only[List.length_cons,List.length_nil] at Wa VL
  have Vi:=xz.size
  clear xP xR
  go_wp2
  go_ret
  exact⟨_,_,_,rfl,yT,by(try simp);omega,by first | omega | simp,by omega,by omega,jb,xz⟩
 have ex6:(x == 6)=false:=zG.2 hx_6
 by_cases hx_7:x=7
 ·subst hx_7
  go_wp2_with fail
  refine(xe hr jx xS _ (by omega) (by omega) (by omega)).mono ?_
  rintro e w2 ⟨u,rfl,Jx,hu1,xP,xR,_⟩
  clear xS jx
  by_cases hu:u=0
  ·subst hu
   go_wp2_with fail
   refine(xe hr xR xP _ (by omega) (by omega) (by omega)).mono ?_
   rintro e w3 ⟨y,rfl,Vj,K4,jb,xz,_⟩
   clear xP xR
   go_wp2_with fail
   refine(xe hr xz jb _ (by omega) (by omega) (by omega)).mono ?_
   rintro e w4 ⟨z,rfl,jT,xF,xH,xZ,_⟩
   clear jb xz
   go_wp2_with fail
   refine(Zr hr xH xZ [11,0,12,0,1,y,14,z] _ _ _ rfl (by simp)).mono ?_
   rintro e w5 ⟨v5,ops5,rfl,yt,hl5,hm5,xp,qE⟩
   simp only[List.length_cons,List.length_nil] at hl5 hm5
   have XA:=qE.size
   clear xH xZ
   go_wp2
   go_ret
   exact⟨_,_,_,rfl,yt,by(try simp);omega,by first | omega | simp,by omega,by omega,xp,qE⟩
  have eu:(u == 0)=false:=zG.2 hu
  go_wp2_with fail
  refine(xe hr xR xP _ (by omega) (by omega) (by omega)).mono ?_
  rintro e w3 ⟨y,rfl,Vj,K4,jb,xz,_⟩
  clear xP xR
  go_wp2_with fail
  refine(xe hr xz jb _ (by omega) (by omega) (by omega)).mono ?_
  rintro e w4 ⟨z,rfl,jT,xF,xH,xZ,_⟩
  clear jb xz
  go_wp2_with fail
  refine(Zr hr xH xZ [2,y,2,z,6,0,16,0] _ _ _ rfl (by simp)).mono ?_
  rintro e w5 ⟨v5,ops5,rfl,yt,hl5,hm5,xp,qE⟩
  simp only[List.length_cons,List.length_nil] at hl5 hm5
  have XA:=qE.size
  clear xH xZ
  go_wp2
  go_ret
  exact⟨_,_,_,rfl,yt,by(try simp);omega,by first | omega | simp,by omega,by omega,xp,qE⟩
 have ex7:(x == 7)=false:=zG.2 hx_7
 by_cases hx_8:x=8
 ·subst hx_8
  go_wp2_with fail
  refine(xe hr jx xS _ (by omega) (by omega) (by omega)).mono ?_
  rintro e w2 ⟨y,rfl,Vj,K4,xP,xR,_⟩
  clear xS jx
  go_wp2_with fail
  refine(xe hr xR xP _ (by omega) (by omega) (by omega)).mono ?_
  rintro e w3 ⟨z,rfl,jT,xF,jb,xz,_⟩
  clear xP xR
  go_wp2_with fail
  refine(Zr hr jb xz [2,y,1,z,15,0] _ _ _ rfl (by simp)).mono ?_
  rintro e w4 ⟨v4,ZE,rfl,yU,UB,Wb,xH,xZ⟩
  simp only[List.length_cons,List.length_nil] at UB Wb
  have zbf:=xZ.size
  clear jb xz
  go_wp2_with (at_builtin;refine yq _ (by rfl) _ _ (by rfl) _ _ ZE (by rfl) yU _ _ _ (by rfl) (by omega) (by omega) ?_;intro g5 cp5 w5 yt wW hBg5 zdO)
  obtain⟨xp,qE⟩:=yi hr xH xZ yU wW
  have XA:=qE.size
  clear wW yU xH xZ
  go_wp2
  go_ret
  exact⟨_,_,_,rfl,yt,by(try simp);omega,by first | omega | simp,by omega,by omega,xp,qE⟩
 have ex8:(x == 8)=false:=zG.2 hx_8
 go_wp2_with fail
 refine(xe hr jx xS _ (by omega) (by omega) (by omega)).mono ?_
 rintro e w2 ⟨y,rfl,Vj,K4,xP,xR,_⟩
 clear xS jx
 go_wp2_with fail
 refine(xe hr xR xP _ (by omega) (by omega) (by omega)).mono ?_
 rintro e w3 ⟨z,rfl,jT,xF,jb,xz,_⟩
 clear xP xR
 go_wp2_with fail
 refine(Zr hr jb xz [1,y,1,z,5,0,16,0] _ _ _ rfl (by simp)).mono ?_
 rintro e w4 ⟨v4,ZE,rfl,yU,UB,Wb,xH,xZ⟩
 simp only[List.length_cons,List.length_nil] at UB Wb
 have zbf:=xZ.size
 clear jb xz
 go_wp2
 go_ret
 exact⟨_,_,_,rfl,yU,by(try simp);omega,by first | omega | simp,by omega,by omega,xH,xZ⟩
theorem YA {w:World} {g:Nat} {t:TypeId} {n:Nat} {f:Nat->Value} {B:Nat} {v:Value} {L:yH} (hr:w.rowIs g t n f) (h:yh B w v L) (ht:t≠70):v.ownBlock≠some g:=by
 intro e
 obtain⟨c,hc,_⟩:=hr
 obtain⟨_,h2⟩:=h
 rcases h2 with⟨rfl,_⟩ | ⟨g',cap,cur,rfl,_,hh,_⟩
 ·cases e
 ·simp[Value.ownBlock] at e
  subst e
  rw[hc] at hh
  simp at hh
  exact ht hh.2
theorem qk {w w':World} {g:Nat} {t:TypeId} {n:Nat} {f:Nat->Value} {row:Option Nat} (hr:w.rowIs g t n f) (k:w.grownBy w' row) (qF:some g≠row):w'.rowIs g t n f:=hr.of_block (k.block g hr.lt qF)
theorem Rd.heap {w w':World} {b:Nat} {a:Option Addr} {len cap p:Nat} (h:Rd w b a len cap p) (e:w'.heap=w.heap):Rd w' b a len cap p:=by
 have hc:∀q,w'.cell? q=w.cell? q:=fun q=>by simp[World.cell?,e]
 have hf:∀q,w'.frozen? q=w.frozen? q:=fun q=>by simp[World.frozen?,e]
 exact⟨by rw[hc];exact h.s,by rw[hc];exact h.p,by rw[hf];exact h.f,h.l,fun i hi=>by
  obtain⟨b',o,x,h1,h2,h3,h4⟩:=h.c i hi
  exact⟨b',o,x,h1,h2,by rw[hc];exact h3,h4⟩⟩
theorem Rd.alloc {w:World} {b:Nat} {a:Option Addr} {len cap p:Nat} (h:Rd w b a len cap p) (o:Obj):Rd (w.alloc o) b a len cap p:=Rd.kept h h zD (World.grownBy_alloc w o none) (fun g e=>by cases e)
def Wh (A T:Int) (v:Value):Nat->Value:=fun i=>if i=0 then zI A else if i=1 then zI T else v
theorem QW (w:World) (A T:Int) (v:Value):(w.alloc (.cells #[.int .i64 A,.int .i64 T,v] 68)).rowIs w.heap.size 68 3 (Wh A T v) :=
 ⟨_,Go.Deep.blk_alloc_new _ _,rfl,fun i hi=>by match i,hi with | 0,_=>rfl | 1,_=>rfl | 2,_=>rfl⟩
structure MS (w0 w:World) (b:Nat) (a:Option Addr) (len cap p g:Nat) (A T:Int) (v:Value) (L:yH):Prop where
 rd:Rd w b a len cap p
 gr:w0.grownBy w (some b)
 box:w.rowIs g 68 3 (Wh A T v)
 own:w0.heap.size<g
 row:yh w0.heap.size w v L
 res:w.rowIs w0.heap.size 68 3 (Wh 0 0 (zQ))
 r0:∃p0,Rd w0 b a len cap p0
namespace MS
variable {w0 w w' W:World} {b:Nat} {a:Option Addr} {len cap p q g:Nat} {A T:Int} {v v':Value} {L L':yH}
theorem blt (h:MS w0 w b a len cap p g A T v L):b<w0.heap.size:=by obtain⟨_,h0⟩:=h.r0;exact World.block_lt_of_cell? _ _ h0.s
theorem c0 (h:MS w0 w b a len cap p g A T v L):w.cell? (zH g 0)=some (zI A):=h.box.cell (by decide)
theorem c1 (h:MS w0 w b a len cap p g A T v L):w.cell? (zH g 1)=some (zI T):=h.box.cell (i:=1) (by decide)
theorem c2 (h:MS w0 w b a len cap p g A T v L):w.cell? (zH g 2)=some v:=h.box.cell (i:=2) (by decide)
theorem f2 (h:MS w0 w b a len cap p g A T v L):w.frozen? (zH g 2)=false:=h.box.frozen 2
theorem pick (h:MS w0 w b a len cap p g A T v L) (hrd:Rd w' b a len cap q) (hg:w.grownBy w' (some b)):MS w0 w' b a len cap q g A T v L :=
 ⟨hrd,zU h.gr hg,qk h.box hg (by have:=h.own;have:=h.blt;simp;omega),h.own,h.row.kept hg (fun k e hk=>by cases e;have:=(h.row.lt _ hk).1;have:=h.blt;omega),qk h.res hg (by have:=h.blt;simp;omega),h.r0⟩
theorem drew (h:MS w0 w b a len cap p g A T v L):MS w0 w.drew b a len cap p g A T v L:=⟨Rd.heap h.rd rfl,⟨h.gr.os,h.gr.tape,h.gr.output,h.gr.size,h.gr.block⟩,h.box,h.own,h.row,h.res,h.r0⟩
theorem appended (h:MS w0 w b a len cap p g A T v L) (hW:zO w W) (qA:W.grownBy w' v.ownBlock):Rd w' b a len cap p/\w0.grownBy w' (some b)/\w'.rowIs g 68 3 (Wh A T v)/\w'.rowIs w0.heap.size 68 3 (Wh 0 0 (zQ)):=by
 have hA:=Yo hW v.ownBlock
 have hA2:w.grownBy w' v.ownBlock:=⟨qA.os.trans hA.os,qA.tape.trans hA.tape,qA.output.trans hA.output,Nat.le_trans hA.size qA.size,fun i hi hn=>(qA.block i (Nat.lt_of_lt_of_le hi hA.size) hn).trans (hA.block i hi hn)⟩
 have zT:∀k,v.ownBlock=some k->w0.heap.size<=k:=fun k e=>(h.row.lt k e).1
 obtain⟨p0,h0⟩:=h.r0
 exact⟨Rd.kept h0 h.rd h.gr.size hA2 zT,xi h.gr hA2 zT,qk h.box hA2 (fun e=>YA h.box h.row (by decide) e.symm),qk h.res hA2 (fun e=>YA h.res h.row (by decide) e.symm)⟩
theorem stored (h:MS w0 w b a len cap p g A T v L) (hW:zO w W) (qA:W.grownBy w' v.ownBlock) (hrow':yh w0.heap.size w' v' L'):MS w0 (w'.setCell (zH g 2) v') b a len cap p g A T v' L':=by
 obtain⟨h1,h2,h3,h4⟩:=h.appended hW qA
 have zy:=h.own
 have k:=xj w' g 2 v'
 have e:∀k,some g=some k->w0.heap.size<=k:=fun k e=>by cases e;omega
 obtain⟨p0,h0⟩:=h.r0
 refine⟨Rd.kept h0 h1 h2.size k e,xi h2 k e,(h3.set 2 v').congr (fun i hi=>?_),zy,hrow'.kept k (fun q hq hk=>by cases hq;exact YA h3 hrow' (by decide) hk),qk h4 k (by simp;omega),h.r0⟩
 match i,hi with
 | 0,_=>simp[Wh]
 | 1,_=>simp[Wh]
 | 2,_=>simp[Wh]
end MS
theorem zfn {w:World} {b:Nat} {a:Option Addr} {len cap p:Nat} (hr:Rd w b a len cap p) (A T:Int) (k:Nat) :
 MS w (((((w.setCell (zH b 1) (.int .i64 ((p:Int)+1))).alloc (.cells #[.int .i64 0,.int .i64 0,.slice none 0 0] 68)).alloc (.cells #[] 70)).alloc (.cells #[.int .i64 A,.int .i64 T,.slice (some ⟨w.heap.size+1,0,none⟩) 0 0] 68)).drewN k) b a len cap (p+1) (w.heap.size+1+1) A T (.slice (some ⟨w.heap.size+1,0,none⟩) 0 0) []:=by
 have hn:Rd (w.setCell (zH b 1) (zI ((p:Int)+1))) b a len cap (p+1):=hr.next (q:=p+1)
 have hg:=Qs w b (zI ((p:Int)+1))
 have hz:(w.setCell (zH b 1) (zI ((p:Int)+1))).heap.size=w.heap.size:=by simp[World.setCell]
 generalize w.setCell (zH b 1) (zI ((p:Int)+1))=V at *
 have r1:=QW V 0 0 (zQ)
 have o2:=yh.made (V.alloc (.cells #[.int .i64 0,.int .i64 0,.slice none 0 0] 68))
 have b3:=QW ((V.alloc (.cells #[.int .i64 0,.int .i64 0,.slice none 0 0] 68)).alloc (.cells #[] 70)) A T (.slice (some ⟨w.heap.size+1,0,none⟩) 0 0)
 simp only[World.size_alloc,hz] at r1 o2 b3
 have o3:yh w.heap.size _ _ []:=(o2.mono (Nat.le_succ _)).kept (row:=none) (World.grownBy_alloc _ (.cells #[.int .i64 A,.int .i64 T,.slice (some ⟨w.heap.size+1,0,none⟩) 0 0] 68) none) (fun g e=>by cases e)
 exact⟨Rd.heap (((hn.alloc _).alloc _).alloc _) rfl,ky (qh (qh (qh hg _) _) _) k,b3,by omega,o3,(r1.alloc _).alloc _,⟨p,hr⟩⟩
theorem zfo {w:World} {b:Nat} {a:Option Addr} {len cap p:Nat} (hr:Rd w b a len cap p) (A T:Int) (k:Nat) :
 MS w (((((w.setCell (zH b 1) (.int .i64 ((p:Int)+1))).alloc (.cells #[.int .i64 0,.int .i64 0,.slice none 0 0] 68)).alloc (.cells #[.int .i64 A,.int .i64 T,.slice (some ⟨w.heap.size+1+1,0,none⟩) 0 0] 68)).alloc (.cells #[] 70)).drewN k) b a len cap (p+1) (w.heap.size+1) A T (.slice (some ⟨w.heap.size+1+1,0,none⟩) 0 0) []:=by
 have hn:Rd (w.setCell (zH b 1) (zI ((p:Int)+1))) b a len cap (p+1):=hr.next (q:=p+1)
 have hg:=Qs w b (zI ((p:Int)+1))
 have hz:(w.setCell (zH b 1) (zI ((p:Int)+1))).heap.size=w.heap.size:=by simp[World.setCell]
 generalize w.setCell (zH b 1) (zI ((p:Int)+1))=V at *
 have r1:=QW V 0 0 (zQ)
 have b2:=QW (V.alloc (.cells #[.int .i64 0,.int .i64 0,.slice none 0 0] 68)) A T (.slice (some ⟨w.heap.size+1+1,0,none⟩) 0 0)
 have o3:=yh.made ((V.alloc (.cells #[.int .i64 0,.int .i64 0,.slice none 0 0] 68)).alloc (.cells #[.int .i64 A,.int .i64 T,.slice (some ⟨w.heap.size+1+1,0,none⟩) 0 0] 68))
 simp only[World.size_alloc,hz] at r1 b2 o3
 exact⟨Rd.heap (((hn.alloc _).alloc _).alloc _) rfl,ky (qh (qh (qh hg _) _) _) k,b2.alloc _,by omega,o3.mono (by omega),(r1.alloc _).alloc _,⟨p,hr⟩⟩
end Go.Proofs.YtbjgjjkgfnfejaaGreatDoor
