/-
  The first call of a program on pages: emptyPages and MachNew of the program, MachNew of the model.
-/
import Derived.Test.YtjbgpcileapogaaGreatMRow
import Derived.Test.YtjbgpcileapogaaGreatMThing4
namespace Go.Proofs.YtjbgpcileapogaaGreat
open Go.RowKit
theorem KG {P:Program} {o:Oper} {y:Nat->Option Bool} {a:Act} {w w':World} {v:Value} {K:Act->World->Prop} {Q:Exit->Act->World->Prop} {E:Prop} (hg:Region.wanted o y=true) (hr:(execOp a.eval o).run P w=.ok (.value v) w') (hK:K (a.put o.dst v) w') :
 if Region.wanted o y=true then Oper.wp P o a w K Q else E:=by
 rw[if_pos hg]
 unfold Oper.wp
 rw[hr]
 exact hK
theorem vR {P:Program} {t:TypeId} {o:Oper} {act:Act} {w w':World} {s x:Operand} {v xv v':Value} (ho:o.op=.call {callee:=.builtin .append,args:=#[s,x],argTypes:=#[t,t]}) (hs:act.eval s=v) (hx:act.eval x=xv)
 (hr:(Builtin.append_ #[t,t] o.type #[v,xv]).run P w=.ok v' w'):(execOp act.eval o).run P w=.ok (.value v') w':=by
 unfold execOp
 simp only[ho,resolve,invoke,builtin,Sem.run_bind,Sem.run_pure,Result.andThen_ok,List.map_toArray,List.map_cons,List.map_nil,hs,hx,hr]
def zX (n k:Nat):List Int:=(List.range k).map fun i=>(((i+1) % n:Nat):Int)
theorem Yw (n k:Nat):zX n (k+1)=zX n k ++ [(((k+1) % n:Nat):Int)]:=by simp[zX,List.range_succ]
theorem qp (n k:Nat):(zX n k).length=k:=by simp[zX]
def ZW (vf:Value) (k:Nat):List Value:=(List.replicate k [Value.int .i64 (-1),vf]).flatten
theorem zbl (vf:Value) (k:Nat):ZW vf (k+1)=ZW vf k ++ [.int .i64 (-1),vf]:=by simp[ZW,List.replicate_succ']
theorem zaJ (vf:Value):∀(k i:Nat),i<k->(ZW vf k)[i * 2]?=some (.int .i64 (-1))/\(ZW vf k)[i * 2+1]?=some vf
 | 0,i,h=>absurd h zF
 | k+1,i,h=>by
  cases i with
  | zero=>simp[ZW,List.replicate_succ]
  | succ i =>
   have ih:=zaJ vf k i (by omega)
   have e:ZW vf (k+1)=.int .i64 (-1) :: vf :: ZW vf k:=by simp[ZW,List.replicate_succ]
   rw[e,show(i+1) * 2=i * 2+1+1 by omega]
   exact ih
theorem Tryz.infoPageN:(Tryz.prog.info? 101).map (fun i=>(i.zero,i.size,i.bytes))=some (some (.agg #[.int .i64 0,.slice none 0 0]),2,32):=by kernel_rfl
theorem Tryz.infoIntN:(Tryz.prog.info? 3).map (fun i=>(i.zero,i.size,i.bytes))=some (some (.int .i64 0),1,8):=by kernel_rfl
set_option maxRecDepth 100000 in
set_option maxHeartbeats 4000000 in
theorem Jm (n:Nat) (c:Int) (w:World) (hn:n<=1000) :
 Calls Tryz.prog 48 #[.int .i64 (n:Int),.int .i64 c] w fun e w'=>∃vp vo,e=.returned (.agg #[.int .i64 c,vp,vo,.int .i64 (-1),.slice none 0 0,.int .i64 0,.slice none 0 0,.int .i64 0]) /\
  yl w.heap.size 2 w' vp n (ZW (.slice none 0 0) n)/\zO w.heap.size w' vo (zX n n)/\(∀g,vp.ownBlock=some g->vo.ownBlock≠some g)/\Below w.heap.size w w':=by
 obtain⟨i0,hi,hz0,hz1,hz2⟩:=info_parts Tryz.infoPageN
 obtain⟨j0,ji,jz0,jz1,jz2⟩:=info_parts Tryz.infoIntN
 go_enter Tryz.func48,Tryz.ntmps48
 go_upto_region 2 with fail
 refine ye (fun W=>Below w.heap.size w W/\Bx W w.heap.size 42 [.int .i64 0,.slice none 0 0,.slice none 0 0,.int .i64 0,.slice none 0 0,.int .i64 0,.slice none 0 0,.int .i64 0]
  /\ Bx W (w.heap.size+1) 42 [.int .i64 c,.slice none 0 0,.slice none 0 0,.int .i64 (-1),.slice none 0 0,.int .i64 0,.slice none 0 0,.int .i64 0]/\w.heap.size+1+1=W.heap.size) ⟨(zB _ _).alloc (by simp) _,(Bx.new w _ _).alloc _,Bx.newAt _ _ _ (by simp),by simp⟩ ?_
 rintro W ⟨hb,hr,hx,hW⟩
 have hW2:w.heap.size+1<W.heap.size:=by omega
 clear hW
 go_wp2_with fail
 go_loopg [6,10] n (fun d _ i wr=>∃(k:Nat) (vp vo:Value),k<=n/\d=n - k/\i=.int .i64 (k:Int)/\yl W.heap.size 2 wr vp k (ZW (.slice none 0 0) k)/\zO W.heap.size wr vo (zX n k)/\(∀g,vp.ownBlock=some g->vo.ownBlock≠some g)/\Below w.heap.size w wr/\W.heap.size<=wr.heap.size
  /\ Bx wr w.heap.size 42 [.int .i64 0,.slice none 0 0,.slice none 0 0,.int .i64 0,.slice none 0 0,.int .i64 0,.slice none 0 0,.int .i64 0]
  /\ Bx wr (w.heap.size+1) 42 [.int .i64 c,vp,vo,.int .i64 (-1),.slice none 0 0,.int .i64 0,.slice none 0 0,.int .i64 0])
 case atStart=>exact⟨0,.slice none 0 0,.slice none 0 0,Nat.zero_le _,rfl,rfl,yl.nil _ _ _,zO.nil _ _,fun g e=>by simp[Value.ownBlock] at e,hb,Nat.le_refl _,hr,hx⟩
 case round =>
  clear hb hr hx
  obtain⟨k,vp,vo,hk,rfl,rfl,zS,jS,hap,hb,hz,hr,hx⟩:=hrel
  obtain⟨ap,cp,hvp,_⟩:=zS.slice
  obtain⟨ao,co,xz,_⟩:=jS.slice
  subst hvp xz
  by_cases hlt:k<n
  ·have hkz:(k:Int)<(n:Int):=by omega
   have N1:=zB wr (.cells #[.int .i64 (-1),.slice none 0 0] 101)
   have y1:=Bx.new wr 101 [.int .i64 (-1),.slice none 0 0]
   have r1:=zS.below N1
   have x1:=hx.below N1
   have z1:=N1.size
   obtain⟨⟨_,p1,p2,_,_,_,_,_⟩,⟨_,f1,f2,_,_,_,_,_⟩⟩:=xy hx
   have hhi:∀g,(Value.slice ap k cp).ownBlock=some g->W.heap.size<=g/\g<wr.heap.size:=zS.lt
   have hho:∀g,(Value.slice ao (zX n k).length co).ownBlock=some g->W.heap.size<=g/\g<wr.heap.size:=jS.lt
   go_upto_region 6 with(at_builtin;refine Qu Tryz.underlying38 hi hz0 hz1 rfl (by rw[hz2];omega) _ (by rfl) _ _ (by rfl) _ k _ [.int .i64 (-1),.slice none 0 0] (by rfl) wr.heap.size 1 (by rfl) r1 rfl (fun u hu=>by simp at hu;rcases hu with rfl | rfl <;> rfl) (fun j u hu=>y1.cell j hu) (by omega) (by omega) ?_;intro v2 w2 hrow2 hg2 hor2;have hx2:=x1.grown hg2 (fun e=>by have:=(hhi _ e).1;omega);have x8':=hx2.cell 1 rfl;have f8':=hx2.frozen 1;obtain⟨a2,c2,hv2,_⟩:=hrow2.slice;subst hv2)
   have hs2:W.heap.size<=w2.heap.size:=by have:=hg2.size;omega
   have o1:=jS.below N1
   have QA:∀g,(Value.slice a2 (k+1) c2).ownBlock=some g->W.heap.size<=g/\(Value.slice ao (zX n k).length co).ownBlock≠some g:=fun g e=>by
    refine⟨(hrow2.lt g e).1,fun e2=>?_⟩
    rcases hor2 with h | h
    ·exact hap g (h ▸ e) e2
    ·rw[h] at e
     injection e with e
     have:=(hho g e2).2
     omega
   refine ye (fun W'=>Below w.heap.size w W'/\yl W.heap.size 2 W' (.slice a2 (k+1) c2) (k+1) (ZW (.slice none 0 0) (k+1))/\zO W.heap.size W' (.slice ao (zX n k).length co) (zX n k)/\W.heap.size<=W'.heap.size
    /\ Bx W' w.heap.size 42 [.int .i64 0,.slice none 0 0,.slice none 0 0,.int .i64 0,.slice none 0 0,.int .i64 0,.slice none 0 0,.int .i64 0]/\Bx W' (w.heap.size+1) 42 [.int .i64 c,.slice a2 (k+1) c2,.slice ao (zX n k).length co,.int .i64 (-1),.slice none 0 0,.int .i64 0,.slice none 0 0,.int .i64 0]) ?_ ?_
   ·have HW:=(Wr.refl1 (w.heap.size+1) w2).set1 (o:=1) (.slice a2 (k+1) c2)
    have hbz:=hb.size
    exact⟨HW.below1 ((hb.trans (N1.mono hbz)).grown hg2 (by omega) (fun q e=>by have:=(hhi _ e).1;omega)) zD (Nat.le_succ _),by rw[zbl];exact hrow2.wr HW (fun g e e2=>by have:=(QA g e).1;omega),HW.ints (o1.grown hg2 (fun g e e2=>hap g e2 e)) (fun g e e2=>by have:=(hho g e).1;omega),by rw[World.size_setCell];exact hs2,HW.bx ((hr.below N1).grown hg2 (fun e=>by have:=(hhi _ e).1;omega)) (by omega),hx2.set 1 _⟩
   clear hx2 x8' f8' hrow2 hg2 hor2 o1 hs2 hhi p1 p2 f1 f2 z1 x1 r1 y1 N1 hx hr hz hb zS jS hap
   rintro w3 ⟨hb,zS,jS,hz,hr,hx⟩
   obtain⟨L,hL⟩:∃L,zX n k=L:=⟨_,rfl⟩
   have HLS:Hid (zX n (k+1)=L ++ [(((k+1) % n:Nat):Int)]):=by show _=_;rw[<-hL];exact Yw _ _
   have hll:L.length+1<=3000000:=by rw[<-hL,qp];omega
   rw[hL] at jS hx QA hho
   clear hL
   obtain⟨q,hq⟩:∃q,(k+1) % n=q:=⟨_,rfl⟩
   have hqt:((k:Int)+1).tmod (n:Int)=(q:Int):=by rw[<-hq];exact_mod_cast (Int.ofNat_tmod (k+1) n).symm
   rw[hq] at HLS
   obtain⟨⟨_,_,p2,_,_,_,_,_⟩,⟨_,_,f2,_,_,_,_,_⟩⟩:=xy hx
   have N1:Below w3.heap.size w3 (w3.alloc (.cells #[.int .i64 (q:Int)] 3)).drew:=(zB _ _).drew
   have hnew:∀j,(hj:j < [(q:Int)].length)->(w3.alloc (.cells #[.int .i64 (q:Int)] 3)).drew.cell? ((⟨w3.heap.size,0,none⟩:Addr).add j)=some (.int .i64 [(q:Int)][j]):=fun j hj=>by
    obtain rfl:j=0:=by simpa using hj
    simp[go_sem,Addr.add]
   obtain⟨g4,o4,c4,w4,zcb,hrow4,hg4,zbZ⟩:=vG (P:=Tryz.prog) (ty:=39) Tryz.underlying39 ji jz0 jz1 jz2 (jS.below N1) ⟨w3.heap.size,0,none⟩ 1 1 [(q:Int)] rfl hnew (.inl (by omega)) hll (Nat.le_trans (by omega) N1.size)
   have hx4:=(hx.below N1).grown hg4 (fun e=>by have h9:W.heap.size<=w.heap.size+1:=(jS.lt _ e).1;omega)
   have p4:=hx4.cell 2 rfl
   have f4:=hx4.frozen 2
   have hlt3:w.heap.size+1<w3.heap.size:=hx.lt
   have hnz:¬(n=0):=by omega
   have hwk:IntKind.i64.wrap ((k:Int)+1)=(k:Int)+1:=by rw[IntKind.wrap_i64];omega
   have HE:Hid (yl W.heap.size 2 (w4.setCell ⟨w.heap.size+1,2,none⟩ (.slice (some ⟨g4,o4,none⟩) (L.length+1) c4)) (.slice a2 (k+1) c2) (k+1) (ZW (.slice none 0 0) (k+1))/\zO W.heap.size (w4.setCell ⟨w.heap.size+1,2,none⟩ (.slice (some ⟨g4,o4,none⟩) (L.length+1) c4)) (.slice (some ⟨g4,o4,none⟩) (L.length+1) c4) (zX n (k+1)) /\
    (∀g,(Value.slice a2 (k+1) c2).ownBlock=some g->(Value.slice (some ⟨g4,o4,none⟩) (L.length+1) c4).ownBlock≠some g)/\Below w.heap.size w (w4.setCell ⟨w.heap.size+1,2,none⟩ (.slice (some ⟨g4,o4,none⟩) (L.length+1) c4))/\W.heap.size<=(w4.setCell ⟨w.heap.size+1,2,none⟩ (.slice (some ⟨g4,o4,none⟩) (L.length+1) c4)).heap.size /\
    Bx (w4.setCell ⟨w.heap.size+1,2,none⟩ (.slice (some ⟨g4,o4,none⟩) (L.length+1) c4)) w.heap.size 42 [.int .i64 0,.slice none 0 0,.slice none 0 0,.int .i64 0,.slice none 0 0,.int .i64 0,.slice none 0 0,.int .i64 0]/\Bx (w4.setCell ⟨w.heap.size+1,2,none⟩ (.slice (some ⟨g4,o4,none⟩) (L.length+1) c4)) (w.heap.size+1) 42 [.int .i64 c,.slice a2 (k+1) c2,.slice (some ⟨g4,o4,none⟩) (L.length+1) c4,.int .i64 (-1),.slice none 0 0,.int .i64 0,.slice none 0 0,.int .i64 0]):=by
    have HW:=(Wr.refl1 (w.heap.size+1) w4).set1 (o:=2) (.slice (some ⟨g4,o4,none⟩) (L.length+1) c4)
    have hlo:∀g,(Value.slice ao L.length co).ownBlock=some g->W.heap.size<=g:=fun g e=>(jS.lt g e).1
    have hbz:=hb.size
    have hn1:=N1.size
    refine⟨((zS.below N1).grown hg4 (fun g e e2=>(QA g e).2 e2)).wr HW (fun g e e2=>by have:=(QA g e).1;omega),by rw[HLS.out];exact HW.ints hrow4 (fun g e e2=>by have:=(hrow4.lt g e).1;omega),fun g e e2=>?_,HW.below1 ((hb.trans (N1.mono hbz)).grown hg4 (by omega) (fun q e=>by have:=hlo q e;omega)) zD (Nat.le_succ _),by rw[World.size_setCell];have:=hg4.size;omega,HW.bx ((hr.below N1).grown hg4 (fun e=>by have:=hlo _ e;omega)) (by omega),hx4.set 2 _⟩
    have e3:g4=g:=by injection e2
    subst e3
    rcases zbZ with h | h
    ·exact(QA g4 e).2 h
    ·have:=(zS.lt g4 e).2
     omega
   clear hx4 hrow4 hg4 zbZ hnew N1 jS zS hb hr hx QA hho hz
   go_wp2_with fail
   go_region_law (refine KG (by simp[Region.wanted]) (vR rfl (by go_simp) (by go_simp) zcb) ?_)
   all_goals
    go_wp2
    go_roundg (n - (k+1))
    case measure=>omega
    case rel=>exact⟨k+1,_,_,by omega,rfl,by go_num,HE.out⟩
  ·obtain rfl:k=n:=by omega
   have hkz:¬((k:Int)<(k:Int)):=by omega
   obtain⟨⟨r0,r1,r2,r3,r4,r5,r6,r7⟩,⟨g0,g1,g2,g3,g4,g5,g6,g7⟩⟩:=xy hr
   obtain⟨⟨p0,p1,p2,p3,p4,p5,p6,p7⟩,_⟩:=xy hx
   go_wp2
   refine jh (fun W'=>Below w.heap.size w W'/\yl w.heap.size 2 W' (.slice ap k cp) k (ZW (.slice none 0 0) k)/\zO w.heap.size W' (.slice ao (zX k k).length co) (zX k k)/\Bx W' w.heap.size 42 [.int .i64 c,.slice ap k cp,.slice ao (zX k k).length co,.int .i64 (-1),.slice none 0 0,.int .i64 0,.slice none 0 0,.int .i64 0]) ?_ ?_
   ·have HW:=((((((((Wr.refl1 w.heap.size wr).set1 (o:=0) (.int .i64 c)).set1 (o:=1) (.slice ap k cp)).set1 (o:=2) (.slice ao (zX k k).length co)).set1 (o:=3) (.int .i64 (-1))).set1 (o:=4) (.slice none 0 0)).set1 (o:=5) (.int .i64 0)).set1 (o:=6) (.slice none 0 0)).set1 (o:=7) (.int .i64 0)
    exact⟨HW.below1 hb zD zD,(zS.wr HW (fun g e e2=>by have:=(zS.lt g e).1;omega)).mono (by omega),(HW.ints jS (fun g e e2=>by have:=(jS.lt g e).1;omega)).mono (by omega),(((((((hr.set 0 _).set 1 _).set 2 _).set 3 _).set 4 _).set 5 _).set 6 _).set 7 _⟩
   rintro W9 ⟨hb9,kO,hord9,hx9⟩
   obtain⟨⟨q0,q1,q2,q3,q4,q5,q6,q7⟩,_⟩:=xy hx9
   exact bodyPost_ret (v:=.agg #[.int .i64 c,.slice ap k cp,.slice ao (zX k k).length co,.int .i64 (-1),.slice none 0 0,.int .i64 0,.slice none 0 0,.int .i64 0]) (by simp[results,Tryz.results48,go_sem,q0,q1,q2,q3,q4,q5,q6,q7]) rfl ⟨_,_,rfl,kO,hord9,hap,hb9⟩
def yQ (r c:Int):Bool:=yO r 1 4 && yO c 14 60
theorem xp {r c:Int} (h:yQ r c=true):1<=r/\r<=4/\14<=c/\c<=60:=by
 unfold yQ at h
 simp only[Bool.and_eq_true] at h
 have h1:=zH.1 h.1
 have h2:=zH.1 h.2
 omega
set_option maxRecDepth 100000 in
theorem Xr (r c:Int) (w:World):Calls Tryz.prog 47 #[.int .i64 r,.int .i64 c] w fun e w'=>e=.returned (.bool (yQ r c))/\w'=w:=by
 go_enter Tryz.func47,Tryz.ntmps47
 by_cases h1:1<=r
 ·by_cases h2:r<=4
  ·by_cases h3:14<=c
   ·by_cases h4:c<=60
    ·go_wp2
     go_ret
     exact⟨by simp[yQ,yO,h1,h2,h3,h4],rfl⟩
    ·go_wp2
     go_ret
     exact⟨by simp[yQ,yO,h1,h2,h3,h4],rfl⟩
   ·go_wp2
    go_ret
    exact⟨by simp[yQ,yO,h1,h2];omega,rfl⟩
  ·go_wp2
   go_ret
   exact⟨by simp[yQ,yO,h1];omega,rfl⟩
 ·go_wp2
  go_ret
  exact⟨by simp[yQ,yO];omega,rfl⟩
def Qa (n t:Nat):List Pg:=(List.range n).map fun i=>⟨-1,if i=0 then [⟨0,0,-1,List.replicate t (0,0),[]⟩] else []⟩
def Xn (n t:Nat) (c:Int):Mc:=⟨c,Qa n t,zX n n,0,[],1,[],0⟩
structure NewM (B:Nat) (w:World) (n t:Nat) (vp vo:Value) (gf:Nat) (vt vs:Value):Prop where
 p:yl B 2 w vp n (.int .i64 (-1) :: .slice (some ⟨gf,0,none⟩) 1 1 :: ZW (.slice none 0 0) (n - 1))
 f:Bx w gf 103 [.int .i64 0,.int .i64 0,.int .i64 (-1),vt,vs]
 t:zj B w vt (List.replicate t (0,0))
 s:zj B w vs []
 o:zO B w vo (zX n n)
 low:B<=gf
 a1:vp.ownBlock≠some gf
 a2:∀g,vp.ownBlock=some g->vo.ownBlock≠some g
 a3:∀g,vp.ownBlock=some g->vt.ownBlock≠some g
 a4:vo.ownBlock≠some gf
 a5:vt.ownBlock≠some gf
 a6:∀g,vo.ownBlock=some g->vt.ownBlock≠some g
 sn:vs=.slice none 0 0
theorem NewM.wr {B:Nat} {w w':World} {n t gf k gp op cp gt ct:Nat} {vo vs:Value} (h:NewM B w n t (.slice (some ⟨gp,op,none⟩) n cp) vo gf (.slice (some ⟨gt,0,none⟩) t ct) vs) (hw:Wr (fun g=>g=k) w w') (h1:gp≠k) (h2:gf≠k) (h3:vo.ownBlock=some k->False) (h4:gt≠k) (h5:vs.ownBlock≠some k) :
 NewM B w' n t (.slice (some ⟨gp,op,none⟩) n cp) vo gf (.slice (some ⟨gt,0,none⟩) t ct) vs :=
 ⟨h.p.wr hw (fun g e e2=>h1 (by have h9:gp=g:=by {injection e};omega)),hw.bx h.f h2,hw.pair h.t (fun g e e2=>h4 (by have h9:gt=g:=by {injection e};omega)),hw.pair h.s (fun g e e2=>h5 (e2 ▸ e)),hw.ints h.o (fun g e e2=>h3 (e2 ▸ e)),h.low,h.a1,h.a2,h.a3,h.a4,h.a5,h.a6,h.sn⟩
def XA (B:Nat) (w:World) (v:Value) (cs:List Cl):Prop :=
 ∃L:List (Cl × Value × Value),L.map (·.1)=cs/\yz B w v L/\∀i,(hi:i<L.length) ->
  zj B w L[i].2.1 L[i].1.zg/\zj B w L[i].2.2 L[i].1.ze/\(∀g,L[i].2.1.ownBlock=some g->v.ownBlock≠some g)/\(∀g,L[i].2.2.ownBlock=some g->v.ownBlock≠some g)
theorem XA.nil (B:Nat) (w:World):XA B w (.slice none 0 0) []:=⟨[],rfl,yz.nil B w,fun _ hi=>absurd hi zF⟩
theorem XA.lt {B:Nat} {w:World} {v:Value} {cs:List Cl} (h:XA B w v cs):∀g,v.ownBlock=some g->B<=g/\g<w.heap.size:=by
 obtain⟨L,_,hc,_⟩:=h
 exact hc.lt
theorem XA.slice {B:Nat} {w:World} {v:Value} {cs:List Cl} (h:XA B w v cs):∃a zp,v=.slice a cs.length zp:=by
 obtain⟨L,rfl,hc,_⟩:=h
 obtain⟨a,zp,e,_⟩:=hc.slice
 exact⟨a,zp,by simpa using e⟩
theorem XA.kept {B:Nat} {w w':World} {v:Value} {cs:List Cl} (h:XA B w v cs) (hs:w.heap.size<=w'.heap.size) (hb:∀g,B<=g->g<w.heap.size->w'.heap[g]?=w.heap[g]?):XA B w' v cs:=by
 obtain⟨L,hL,hc,hr⟩:=h
 refine⟨L,hL,hc.kept hs fun g e=>hb g (hc.lt g e).1 (hc.lt g e).2,fun i hi=>?_⟩
 obtain⟨h1,h2,h3,h4⟩:=hr i hi
 exact⟨h1.kept hs fun g e=>hb g (h1.lt g e).1 (h1.lt g e).2,h2.kept hs fun g e=>hb g (h2.lt g e).1 (h2.lt g e).2,h3,h4⟩
theorem XA.below {B:Nat} {w w':World} {v:Value} {cs:List Cl} (h:XA B w v cs) (hb:Below w.heap.size w w'):XA B w' v cs:=h.kept hb.size fun g _ h2=>hb.block g h2
theorem XA.wr {B k:Nat} {w w':World} {v:Value} {cs:List Cl} (h:XA B w v cs) (hw:Wr (fun g=>g=k) w w') (hk:k<B):XA B w' v cs:=h.kept hw.size fun g h1 h2=>hw.block g h2 (by omega)
theorem XA.mono {B B':Nat} {w:World} {v:Value} {cs:List Cl} (h:XA B w v cs) (hB:B'<=B):XA B' w v cs:=by
 obtain⟨L,hL,hc,hr⟩:=h
 exact⟨L,hL,yl.mono hc hB,fun i hi=>⟨(hr i hi).1.mono hB,(hr i hi).2.1.mono hB,(hr i hi).2.2⟩⟩
theorem XA.at {B:Nat} {w:World} {v:Value} {cs:List Cl} (h:XA B w v cs):qo w v cs:=by
 obtain⟨L,rfl,hc,hr⟩:=h
 exact hc.at fun i hi=>⟨(hr i hi).1.at,(hr i hi).2.1.at⟩
theorem zao {ty:TypeId} {B:Nat} {w:World} {v:Value} {cs:List Cl} (h:XA B w v cs) (c:Cl) (u1 u2:Value) (h1:zj B w u1 c.zg) (h2:zj B w u2 c.ze)
 (a1:∀g,u1.ownBlock=some g->v.ownBlock≠some g) (a2:∀g,u2.ownBlock=some g->v.ownBlock≠some g) (H k:Nat)
 (hx:∀j u,([.int .i64 c.m,.int .i64 c.pc,u1,u2,.int .i64 c.zf,.bool c.zv]:List Value)[j]?=some u->w.cell? ⟨H,j,none⟩=some u) (hL:cs.length<=900000) (hB:B<=w.heap.size) :
 ∃a' c' w',(Builtin.append_ #[26,26] ty #[v,.slice (some ⟨H,0,none⟩) 1 k]).run Tryz.prog w=.ok (.slice a' (cs.length+1) c') w'/\XA B w' (.slice a' (cs.length+1) c') (cs ++ [c])/\w.grownBy w' v.ownBlock:=by
 obtain⟨L,rfl,hc,hr⟩:=h
 obtain⟨b1,k1,e1,_⟩:=h1.slice
 obtain⟨b2,k2,e2,_⟩:=h2.slice
 obtain⟨v',w',hrun,zS,hg,ho⟩:=uk (ty:=ty) hc (c,u1,u2) (by rw[e1];rfl) (by rw[e2];rfl) H k hx (by simpa using hL) hB
 obtain⟨a',c',e',_⟩:=zS.slice
 have el:v'=.slice a' ((L.map (·.1)).length+1) c':=by simpa using e'
 rw[el] at hrun zS ho
 have hap:∀(g:Nat) (u:Value),u.ownBlock=some g->g<w.heap.size->v.ownBlock≠some g->(Value.slice a' ((L.map (·.1)).length+1) c').ownBlock≠some g:=fun g u _ hl hn e=>by
  rcases ho with h | h
  ·exact hn (by rw[<-h];exact e)
  ·rw[h] at e
   injection e with e
   omega
 refine⟨a',c',w',hrun,⟨L ++ [(c,u1,u2)],by simp,zS,fun i hi=>?_⟩,hg⟩
 have kk:∀(xs:zL) (u:Value),zj B w u xs->(∀g,u.ownBlock=some g->v.ownBlock≠some g)->zj B w' u xs:=fun xs u hp hn=>hp.kept hg.size fun g e=>hg.block g (hp.lt g e).2 fun e2=>hn g e e2.symm
 rcases Nat.lt_or_ge i L.length with hlt | hge
 ·obtain⟨p1,p2,p3,p4⟩:=hr i hlt
  rw[List.getElem_append_left hlt]
  exact⟨kk _ _ p1 p3,kk _ _ p2 p4,fun g e=>hap g _ e (p1.lt g e).2 (p3 g e),fun g e=>hap g _ e (p2.lt g e).2 (p4 g e)⟩
 ·have:i=L.length:=by simp at hi;omega
  subst this
  simp only[List.getElem_append_right zD,Nat.sub_self,List.getElem_cons_zero]
  exact⟨kk _ _ h1 a1,kk _ _ h2 a2,fun g e=>hap g _ e (h1.lt g e).2 (a1 g e),fun g e=>hap g _ e (h2.lt g e).2 (a2 g e)⟩
def xh (m:Mc) (i k:Nat):List Cl:=(List.range k).map fun q=>vk m i q (Wx m (i:Int) (q:Int))
def yK (m:Mc) (i:Nat):List Cl:=(List.range i).flatMap fun j=>xh m j (uK m (j:Int)).zk.length
def yX (m:Mc) (k:Nat):List Cl:=(List.range k).map fun q:Nat=>qE m (jM m (q:Int))
def yW (m:Mc):Hp:=⟨yK m m.zd.length ++ yX m m.zh.length,un m,0,[],0⟩
theorem Kn (m:Mc) (i k:Nat):xh m i (k+1)=xh m i k ++ [vk m i k (Wx m (i:Int) (k:Int))]:=by simp[xh,List.range_succ]
theorem kw (m:Mc) (i:Nat):yK m (i+1)=yK m i ++ xh m i (uK m (i:Int)).zk.length:=by simp[yK,List.range_succ]
theorem Ks (m:Mc) (k:Nat):yX m (k+1)=yX m k ++ [qE m (jM m (k:Int))]:=by simp[yX,List.range_succ]
theorem wY (m:Mc) (i k:Nat):(xh m i k).length=k:=by simp[xh]
theorem um (m:Mc) (k:Nat):(yX m k).length=k:=by simp[yX]
theorem jA {m:Mc}:∀{i:Nat},i<=m.zd.length->(yK m i).length=yC m.zd i
 | 0,_=>by simp[yK,wj]
 | i+1,h=>by rw[kw,List.length_append,jA (Nat.le_of_succ_le h),wY,kB (show i<m.zd.length by omega),xn (show i<m.zd.length by omega)]
structure zaQ (m:Mc):Prop where
 fr:∀i k,(hi:i<m.zd.length)->(hk:k<m.zd[i].zk.length)->(m.zd[i].zk[k].zg.length<=1000/\m.zd[i].zk[k].ze.length<=1000) /\
  (∀q,(hq:q<m.zd[i].zk[k].zg.length)->m.zd[i].zk[k].zg[q].1=2->qy m m.zd[i].zk[k].zg[q].2=true)/\(∀q,(hq:q<m.zd[i].zk[k].ze.length)->m.zd[i].zk[k].ze[q].1=2->qy m m.zd[i].zk[k].ze[q].2=true)
 bs:∀i,(hi:i<m.zd.length)->(m.zd[i].base == -1 || qy m m.zd[i].base)=true
 tw:∀j,(hj:j<m.zh.length)->(m.zh[j].left.zg.length<=1000/\m.zh[j].left.ze.length<=1000)/\(m.zh[j].page=-1->(m.zh[j].left.zf == -1 || qy m m.zh[j].left.zf)=true /\
  (∀i,(hi:i<m.zh[j].left.zg.length)->m.zh[j].left.zg[i].1=2->(m.zh[j].left.zg[i].2 == -1 || qy m m.zh[j].left.zg[i].2)=true)/\(∀i,(hi:i<m.zh[j].left.ze.length)->m.zh[j].left.ze[i].1=2->(m.zh[j].left.ze[i].2 == -1 || qy m m.zh[j].left.ze[i].2)=true))
theorem zbB {a b x1 x2 s d y1 y2:Value} (h:Value.agg #[a,b,x1,x2,s,d]=.agg #[a,b,y1,y2,s,d]):(x1,x2)=(y1,y2):=by
 injection h with h
 injection h with h
 injection h with _ h
 injection h with _ h
 injection h with h1 h
 injection h with h2 h
 rw[h1,h2]
structure ThS (wS V3:World) (g3 g4 B:Nat) (L1 L3:List Value) (now:Int) (w:World) (v:Value) (cs:List Cl):Prop where
 b:Below wS.heap.size wS w
 x1:Bx w wS.heap.size 42 L1
 x2:Bx w (wS.heap.size+1) 29 [.slice none 0 0,.int .i64 0,.int .i64 0,.slice none 0 0,.int .i64 0]
 x3:Bx w g3 128 L3
 x4:Bx w g4 29 [v,.int .i64 now,.int .i64 0,.slice none 0 0,.int .i64 0]
 t:XA B w v cs
 z:B<=w.heap.size
 b3:Below g4 V3 w
 e3:V3.heap.size=g4
 q3:wS.heap.size+1<g3
 q4:g3<g4
 qB:g4<B
theorem ThS.below {wS V3:World} {g3 g4 B:Nat} {L1 L3:List Value} {now:Int} {w w':World} {v:Value} {cs:List Cl} (h:ThS wS V3 g3 g4 B L1 L3 now w v cs) (hb:Below w.heap.size w w'):ThS wS V3 g3 g4 B L1 L3 now w' v cs :=
 ⟨h.b.trans (hb.mono h.b.size),h.x1.below hb,h.x2.below hb,h.x3.below hb,h.x4.below hb,h.t.below hb,Nat.le_trans h.z hb.size,h.b3.trans (hb.mono (by have:=h.z;have:=h.qB;omega)),h.e3,h.q3,h.q4,h.qB⟩
theorem ThS.append {ty:TypeId} {wS V3:World} {g3 g4 B:Nat} {L1 L3:List Value} {now:Int} {w w3:World} {v:Value} {cs:List Cl} (h:ThS wS V3 g3 g4 B L1 L3 now w v cs) (hw:Below w.heap.size w w3) (c:Cl) (u1 u2:Value)
 (h1:zj w.heap.size w3 u1 c.zg) (h2:zj w.heap.size w3 u2 c.ze) (H k:Nat) (hx:∀j u,([.int .i64 c.m,.int .i64 c.pc,u1,u2,.int .i64 c.zf,.bool c.zv]:List Value)[j]?=some u->w3.cell? ⟨H,j,none⟩=some u) (hL:cs.length<=900000) :
 ∃a' c' w4,(Builtin.append_ #[26,26] ty #[v,.slice (some ⟨H,0,none⟩) 1 k]).run Tryz.prog w3=.ok (.slice a' (cs.length+1) c') w4/\w4.cell? ⟨g4,0,none⟩=some v/\w4.frozen? ⟨g4,0,none⟩=false /\
  ThS wS V3 g3 g4 B L1 L3 now (w4.setCell ⟨g4,0,none⟩ (.slice a' (cs.length+1) c')) (.slice a' (cs.length+1) c') (cs ++ [c]):=by
 have hv:=h.t.lt
 have hz:=h.z
 have hbz:=h.b.size
 have q3:=h.q3
 have q4:=h.q4
 have qB:=h.qB
 obtain⟨a',c',w4,hrun,hT,hg⟩:=zao (ty:=ty) (h.t.below hw) c u1 u2 (h1.mono hz) (h2.mono hz) (fun g e e2=>by have l1:=(h1.lt g e).1;have l2:=(hv g e2).2;omega) (fun g e e2=>by have l1:=(h2.lt g e).1;have l2:=(hv g e2).2;omega) H k hx hL (Nat.le_trans hz hw.size)
 have nb:∀g,g<B->v.ownBlock≠some g:=fun g hgB e=>by have:=(hv g e).1;omega
 have y4:=(h.x4.below hw).grown hg (nb g4 (by omega))
 have HW:=(Wr.refl1 g4 w4).set1 (o:=0) (.slice a' (cs.length+1) c')
 refine⟨a',c',w4,hrun,y4.cell 0 rfl,y4.frozen 0,?_,?_,?_,?_,?_,hT.wr HW (by omega),?_,?_,h.e3,q3,q4,qB⟩
 ·exact HW.below1 ((h.b.trans (hw.mono hbz)).grown hg (Nat.le_trans hbz hw.size) (fun q e=>by have:=(hv q e).1;omega)) zD (by omega)
 ·exact HW.bx ((h.x1.below hw).grown hg (nb _ (by omega))) (by omega)
 ·exact HW.bx ((h.x2.below hw).grown hg (nb _ (by omega))) (by omega)
 ·exact HW.bx ((h.x3.below hw).grown hg (nb _ (by omega))) (by omega)
 ·exact y4.set 0 _
 ·rw[World.size_setCell]
  exact Nat.le_trans (Nat.le_trans hz hw.size) hg.size
 ·exact HW.below1 ((h.b3.trans (hw.mono (by omega))).grown hg (by have:=hw.size;omega) (fun q e=>by have:=(hv q e).1;omega)) (by rw[h.e3];exact Nat.le_refl _) zD
set_option maxRecDepth 100000 in
set_option maxHeartbeats 4000000 in
theorem Qm (vp vo vt vs:Value) (m:Mc) (wS:World) (h:yF wS vp vo vt vs m) (hT:zaQ m) (hn:m.zd.length<=1048576) (hN:zY m.zd+m.zh.length<=900000) :
 Calls Tryz.prog 62 #[.agg (zI vp vo vt vs m).toArray] wS fun e w'=>∃vc,e=.returned (.agg #[vc,.int .i64 (un m),.int .i64 0,.slice none 0 0,.int .i64 0])/\qo w' vc (yW m).za/\Below wS.heap.size wS w':=by
 have HT:Hid (zaQ m):=hT
 have hM:=h
 clear hT
 have HTP:Hid (∀(W:World),Below wS.heap.size wS W->Calls Tryz.prog 83 #[.agg (zI vp vo vt vs m).toArray] W fun e w'=>∃vl,e=.returned (.agg (zI vp vo vt vs m ++ [vl,.int .i64 (zY m.zd:Int)]).toArray)/\zO W.heap.size w' vl (xl m.zd)/\Below W.heap.size W w'):=fun W hW=>wg _ _ _ _ m W (hM.below hW) hn (by omega)
 have HRU:Hid (∀(W:World) (vl:Value),Pl W vp vo vt vs vl m->Calls Tryz.prog 124 #[.agg (zI vp vo vt vs m ++ [vl,.int .i64 (zY m.zd:Int)]).toArray] W fun e w'=>e=.returned (.int .i64 (un m))/\Below W.heap.size W w'):=fun W vl hp=>Kl _ _ _ _ _ m W hp
 have HFR:Hid (∀(W:World) (vl:Value) (i k:Nat) (hi:i<m.zd.length) (hk:k<m.zd[i].zk.length),Pl W vp vo vt vs vl m->Calls Tryz.prog 125 #[.agg (zI vp vo vt vs m ++ [vl,.int .i64 (zY m.zd:Int)]).toArray,.int .i64 (i:Int),.int .i64 (k:Int)] W fun e w'=>∃u1 u2,e=.returned (.agg #[.int .i64 (vk m i k m.zd[i].zk[k]).m,.int .i64 (vk m i k m.zd[i].zk[k]).pc,u1,u2,.int .i64 (vk m i k m.zd[i].zk[k]).zf,.bool (vk m i k m.zd[i].zk[k]).zv])/\zj W.heap.size w' u1 (vk m i k m.zd[i].zk[k]).zg/\zj W.heap.size w' u2 (vk m i k m.zd[i].zk[k]).ze/\Below W.heap.size W w'):=fun W vl i k hi hk hp =>
  (QV _ _ _ _ _ m i k _ W hp hi hk rfl (HT.out.bs i hi) (HT.out.fr i k hi hk).1 (HT.out.fr i k hi hk).2).mono fun e w' ⟨u1,u2,e1,r1,r2,_,b⟩=>⟨u1,u2,e1,r1,r2,b⟩
 have HTW:Hid (∀(W:World) (vl w1 w2:Value) (j:Nat) (hj:j<m.zh.length),Pl W vp vo vt vs vl m->zR W w1 m.zh[j].left.zg->zR W w2 m.zh[j].left.ze->Calls Tryz.prog 126 #[.agg (zI vp vo vt vs m ++ [vl,.int .i64 (zY m.zd:Int)]).toArray,.agg #[.int .i64 m.zh[j].page,.int .i64 m.zh[j].place,.int .i64 m.zh[j].left.m,.int .i64 m.zh[j].left.pc,w1,w2,.int .i64 m.zh[j].left.zf,.bool m.zh[j].left.zv]] W fun e w'=>∃u1 u2,e=.returned (.agg #[.int .i64 (qE m m.zh[j]).m,.int .i64 (qE m m.zh[j]).pc,u1,u2,.int .i64 (qE m m.zh[j]).zf,.bool (qE m m.zh[j]).zv])/\zj W.heap.size w' u1 (qE m m.zh[j]).zg/\zj W.heap.size w' u2 (qE m m.zh[j]).ze/\Below W.heap.size W w'):=fun W vl w1 w2 j hj hp h1 h2 =>
  (XV _ _ _ _ _ m m.zh[j] w1 w2 W hp h1 h2 (HT.out.tw j hj).1 (HT.out.tw j hj).2).mono fun e w' ⟨u1,u2,e1,r1,r2,_,b⟩=>⟨u1,u2,e1,r1,r2,b⟩
 clear HT
 obtain⟨ap,cp,hvp,hlp,hcp⟩:=id hM.p
 obtain⟨ao,co,xz⟩:=hM.o.shape
 obtain⟨at',ct,xZ,hlt',hct⟩:=id hM.t
 obtain⟨as',cs,hvs⟩:=hM.s.shape
 subst hvp xz xZ hvs
 unfold zI at HTP HRU HFR HTW
 simp only[List.cons_append,List.nil_append] at HTP HRU HFR HTW
 unfold zI
 go_enter Tryz.func62,Tryz.ntmps62
 go_upto_region 1 with fail
 refine ye (fun W=>Below wS.heap.size wS W/\Bx W wS.heap.size 42 [.int .i64 m.cells,.slice ap m.zd.length cp,.slice ao m.order.length co,.int .i64 m.now,.slice at' m.zh.length ct,.int .i64 m.born,.slice as' m.zl.length cs,.int .i64 m.code]/\Bx W (wS.heap.size+1) 29 [.slice none 0 0,.int .i64 0,.int .i64 0,.slice none 0 0,.int .i64 0]) ⟨(zB _ _).alloc (by simp) _,(Bx.new wS _ _).alloc _,Bx.newAt _ _ _ (by simp)⟩ ?_
 rintro W1 ⟨B1,Wl,y1'⟩
 obtain⟨⟨x0,x1,x2,x3,x4,x5,x6,x7⟩,_⟩:=xy Wl
 have z1:=B1.size
 go_wp2_with fail
 refine(HTP.out W1 B1).mono ?_
 rintro e V1 ⟨vl,rfl,rl,t1⟩
 obtain⟨al,cl,hvl,_⟩:=rl.slice
 subst hvl
 have BV1:=B1.trans (t1.mono z1)
 have xV1:=Wl.below t1
 have yV1:=y1'.below t1
 have hy1:wS.heap.size+1<V1.heap.size:=yV1.lt
 have hP:Pl V1 (.slice ap m.zd.length cp) (.slice ao m.order.length co) (.slice at' m.zh.length ct) (.slice as' m.zl.length cs) (.slice al (xl m.zd).length cl) m:=⟨hM.below BV1,rl.at,by omega,by omega⟩
 clear t1 Wl y1' B1 z1 x0 x1 x2 x3 x4 x5 x6 x7 rl HTP
 go_upto_region 2 with fail
 obtain⟨g3,hg3⟩:∃g,V1.heap.size=g:=⟨_,rfl⟩
 rw[hg3]
 refine ye (fun W=>Below V1.heap.size V1 W/\Bx W g3 128 [.int .i64 m.cells,.slice ap m.zd.length cp,.slice ao m.order.length co,.int .i64 m.now,.slice at' m.zh.length ct,.int .i64 m.born,.slice as' m.zl.length cs,.int .i64 m.code,.slice al (xl m.zd).length cl,.int .i64 (zY m.zd:Int)]) ⟨zB _ _,Bx.newAt _ _ _ hg3⟩ ?_
 rintro W2 ⟨t2,z3⟩
 have B2:=BV1.trans (t2.mono BV1.size)
 have xV2:=xV1.below t2
 have yV2:=yV1.below t2
 have hP2:=hP.below t2
 have zB2:=B2.size
 clear t2 xV1 yV1 BV1 hP
 obtain⟨⟨x0,x1,x2,x3,x4,x5,x6,x7,x8,x9⟩,_⟩:=Zc z3
 have hg3l:g3<W2.heap.size:=z3.lt
 go_wp2_with fail
 refine(HRU.out W2 _ hP2).mono ?_
 rintro e V3 ⟨rfl,t3⟩
 have B3:=B2.trans (t3.mono zB2)
 have xV3:=xV2.below t3
 have yV3:=yV2.below t3
 have zV3:=z3.below t3
 have hP3:=hP2.below t3
 have hs3:=t3.size
 clear t3 B2 xV2 yV2 z3 hP2 x0 x1 x2 x3 x4 x5 x6 x7 x8 x9 HRU
 go_upto_region 3 with fail
 obtain⟨g4,hg4⟩:∃g,V3.heap.size=g:=⟨_,rfl⟩
 rw[hg4]
 obtain⟨now,QB⟩:∃now,un m=now:=⟨_,rfl⟩
 rw[QB]
 obtain⟨B,hBe⟩:∃B,g4+1=B:=⟨_,rfl⟩
 refine ye (fun W=>Below V3.heap.size V3 W/\ThS wS V3 g3 g4 B [.int .i64 m.cells,.slice ap m.zd.length cp,.slice ao m.order.length co,.int .i64 m.now,.slice at' m.zh.length ct,.int .i64 m.born,.slice as' m.zl.length cs,.int .i64 m.code] [.int .i64 m.cells,.slice ap m.zd.length cp,.slice ao m.order.length co,.int .i64 m.now,.slice at' m.zh.length ct,.int .i64 m.born,.slice as' m.zl.length cs,.int .i64 m.code,.slice al (xl m.zd).length cl,.int .i64 (zY m.zd:Int)] now W (.slice none 0 0) (yK m 0)) ⟨zB _ _,B3.alloc B3.size _,xV3.alloc _,yV3.alloc _,zV3.alloc _,Bx.newAt _ _ _ hg4,XA.nil _ _,by simp;omega,hg4 ▸ zB _ _,hg4,by omega,by omega,by omega⟩ ?_
 rintro W4 ⟨t4,hth⟩
 clear t4 B3 xV3 yV3 zV3 hs3 hBe hg4 hg3
 obtain⟨⟨x0,x1,x2,x3,x4,x5,x6,x7⟩,_⟩:=xy hth.x1
 go_wp2
 go_loopg [5,6,17,18,19,20,21,22,23,24,25,26,27,28,29,30,31,32,33,34,35,36,37,38,39,40] m.zd.length (fun g _ _ i _ _ _ _ _ _ _ _ _ _ _ _ _ _ _ _ _ _ _ _ _ _ _ wr=>∃(k:Nat) (v:Value),k<=m.zd.length/\g=m.zd.length - k/\i=.int .i64 k/\ThS wS V3 g3 g4 B [.int .i64 m.cells,.slice ap m.zd.length cp,.slice ao m.order.length co,.int .i64 m.now,.slice at' m.zh.length ct,.int .i64 m.born,.slice as' m.zl.length cs,.int .i64 m.code] [.int .i64 m.cells,.slice ap m.zd.length cp,.slice ao m.order.length co,.int .i64 m.now,.slice at' m.zh.length ct,.int .i64 m.born,.slice as' m.zl.length cs,.int .i64 m.code,.slice al (xl m.zd).length cl,.int .i64 (zY m.zd:Int)] now wr v (yK m k))
 case atStart=>exact⟨0,_,Nat.zero_le _,rfl,rfl,hth⟩
 case round =>
  obtain⟨k,v,hk,rfl,rfl,hth⟩:=hrel
  by_cases hlt:k<m.zd.length
  ·obtain⟨a5,k5,hv5⟩:=hth.t.slice
   subst hv5
   have hkz:(k:Int)<(m.zd.length:Int):=by omega
   obtain⟨bp,op,vf,hap,jN⟩:=hcp k hlt
   subst hap
   obtain⟨af,cf,Z4⟩:=jN.f.shape
   have c1:=zc hth.b jN.c1
   rw[Z4] at c1
   have HFA:Hid ((yK m k).length=yC m.zd k):=jA hk
   have hsu:=xn hlt
   have hsl:=ka m.zd (k:=k+1) hlt
   have HPA:Hid (yK m (k+1)=yK m k ++ xh m k m.zd[k].zk.length):=by show _=_;rw[kw,kB hlt]
   obtain⟨nf,hnf⟩:∃nf,m.zd[k].zk.length=nf:=⟨_,rfl⟩
   rw[hnf] at c1 hsu HPA
   have HNF:Hid (m.zd[k].zk.length=nf):=hnf
   clear hnf Z4 jN hcp hct
   have hnb:nf<=900000:=by omega
   obtain⟨⟨x0,x1,x2,x3,x4,x5,x6,x7⟩,_⟩:=xy hth.x1
   go_wp2
   clear x0 x1 x2 x3 x4 x5 x6 x7 c1
   go_loopg [6,27,28,29,30,31,32,33,34,35,36,37,38,39] nf (fun g _ i _ _ _ _ _ _ _ _ _ _ _ _ wr=>∃(q:Nat) (v:Value),q<=nf/\g=nf - q/\i=.int .i64 q/\ThS wS V3 g3 g4 B [.int .i64 m.cells,.slice (some ⟨bp,op,none⟩) m.zd.length cp,.slice ao m.order.length co,.int .i64 m.now,.slice at' m.zh.length ct,.int .i64 m.born,.slice as' m.zl.length cs,.int .i64 m.code] [.int .i64 m.cells,.slice (some ⟨bp,op,none⟩) m.zd.length cp,.slice ao m.order.length co,.int .i64 m.now,.slice at' m.zh.length ct,.int .i64 m.born,.slice as' m.zl.length cs,.int .i64 m.code,.slice al (xl m.zd).length cl,.int .i64 (zY m.zd:Int)] now wr v (yK m k ++ xh m k q))
   case atStart=>exact⟨0,_,Nat.zero_le _,rfl,rfl,by simpa [xh] using hth⟩
   case round =>
    clear hth
    obtain⟨q,v,hq,rfl,rfl,hth⟩:=hrel
    by_cases hqt:q<nf
    ·have hqz:(q:Int)<(nf:Int):=by omega
     have hql:q<m.zd[k].zk.length:=by rw[HNF.out];exact hqt
     have HCS:Hid (yK m k ++ xh m k (q+1)=(yK m k ++ xh m k q) ++ [vk m k q m.zd[k].zk[q]]):=by show _=_;rw[Kn,zaB hlt hql,List.append_assoc]
     have HLN:Hid ((yK m k ++ xh m k q).length<=900000):=by show _<=_;rw[List.length_append,HFA.out,wY];omega
     obtain⟨cc,hcc⟩:∃cc,yK m k ++ xh m k q=cc:=⟨_,rfl⟩
     rw[hcc] at hth HCS HLN
     have HC0:=fun(W:World) (hW:Below wr.heap.size wr W)=>HFR.out W _ k q hlt hql ((hP3.below (hth.e3.symm ▸ hth.b3)).below hW)
     obtain⟨c,hc⟩:∃c,vk m k q m.zd[k].zk[q]=c:=⟨_,rfl⟩
     rw[hc] at HC0 HCS
     have HC:Hid (∀(W:World),Below wr.heap.size wr W->_):=HC0
     clear HC0 hc hcc
     obtain⟨a2,k2,hv2⟩:=hth.t.slice
     subst hv2
     have h0:=hth.x4.cell 0 rfl
     obtain⟨⟨x0,x1,x2,x3,x4,x5,x6,x7,x8,x9⟩,_⟩:=Zc hth.x3
     go_upto_region 9 with fail
     refine Qp [[],[0],[],[],[],[2,3,4],[2,3,4,5],[0,1,2,3,4,5,6],[0,1,2,3,4,5,6,7],[0,1,2,3,4,5,6,7,8]] [[0],[1],[2],[3],[4],[5],[5,6],[],[],[]] [[],[],[],[],[],[],[],[],[],[]] [qb (.pointer (some ⟨g4,0,none⟩)),qb (.slice a2 cc.length k2),qb (.agg #[.int .i64 m.cells,.slice (some ⟨bp,op,none⟩) m.zd.length cp,.slice ao m.order.length co,.int .i64 m.now,.slice at' m.zh.length ct,.int .i64 m.born,.slice as' m.zl.length cs,.int .i64 m.code,.slice al (xl m.zd).length cl,.int .i64 (zY m.zd:Int)]),qb (.int .i64 (k:Int)),qb (.int .i64 (q:Int)),X2 5 (fun(x:Value × Value) l=>l=[.agg #[.int .i64 c.m,.int .i64 c.pc,x.1,x.2,.int .i64 c.zf,.bool c.zv]]) (fun x w1=>(∃a0 c0 a1 c1,x.1=.slice a0 c.zg.length c0/\x.2=.slice a1 c.ze.length c1)/\zj wr.heap.size w1 x.1 c.zg/\zj wr.heap.size w1 x.2 c.ze),X2 6 (fun(x:(Value × Value) × Nat) l=>l=[.agg #[.int .i64 c.m,.int .i64 c.pc,x.1.1,x.1.2,.int .i64 c.zf,.bool c.zv],.slice (some ⟨x.2,0,none⟩) 1 1]) (fun x w1=>∀j u,([.int .i64 c.m,.int .i64 c.pc,x.1.1,x.1.2,.int .i64 c.zf,.bool c.zv]:List Value)[j]?=some u->w1.cell? ⟨x.2,j,none⟩=some u),wV fun _=>True,wV fun _=>True,wV fun _=>True] 7 2 rfl (by kernel_rfl) (by kernel_rfl) (by kernel_rfl) (by kernel_rfl) ?_ ?_
     ·refine zi (zi (zi (zi (zi (zi (zi (qj) ?_) ?_) ?_) ?_) ?_) ?_) ?_
      ·intro a w val own hB hf zx hk
       have s4:=hf.at (d:=4) (v:=.pointer (some ⟨g4,0,none⟩)) (by kernel_rfl) rfl
       exact zs (v:=.pointer (some ⟨g4,0,none⟩)) hB
      ·intro a w val own hB hf zx hk
       obtain⟨k0,f0⟩:=hk 0 (show 0∈[0] by decide)
       have s30:=k0 30 rfl
       rw[zu f0] at s30
       clear k0 f0
       have ch:=zc hB h0
       exact zs (v:=.slice a2 cc.length k2) hB
      ·intro a w val own hB hf zx hk
       have s3:=hf.at (d:=3) (v:=.pointer (some ⟨g3,0,none⟩)) (by kernel_rfl) rfl
       have cx0:=zc hB x0
       have cx1:=zc hB x1
       have cx2:=zc hB x2
       have cx3:=zc hB x3
       have cx4:=zc hB x4
       have cx5:=zc hB x5
       have cx6:=zc hB x6
       have cx7:=zc hB x7
       have cx8:=zc hB x8
       have cx9:=zc hB x9
       exact zs (v:=.agg #[.int .i64 m.cells,.slice (some ⟨bp,op,none⟩) m.zd.length cp,.slice ao m.order.length co,.int .i64 m.now,.slice at' m.zh.length ct,.int .i64 m.born,.slice as' m.zl.length cs,.int .i64 m.code,.slice al (xl m.zd).length cl,.int .i64 (zY m.zd:Int)]) hB
      ·intro a w val own hB hf zx hk
       have s5:=hf.at (d:=5) (v:=.int .i64 (k:Int)) (by kernel_rfl) rfl
       exact zs (v:=.int .i64 (k:Int)) hB
      ·intro a w val own hB hf zx hk
       have s6:=hf.at (d:=6) (v:=.int .i64 (q:Int)) (by kernel_rfl) rfl
       exact zs (v:=.int .i64 (q:Int)) hB
      ·intro a w val own hB hf zx hk
       obtain⟨k2,f2⟩:=hk 2 (show 2∈[2,3,4] by decide)
       have s32:=k2 32 rfl
       rw[zu f2] at s32
       clear k2 f2
       obtain⟨k3,f3⟩:=hk 3 (show 3∈[2,3,4] by decide)
       have s33:=k3 33 rfl
       rw[zu f3] at s33
       clear k3 f3
       obtain⟨k4,f4⟩:=hk 4 (show 4∈[2,3,4] by decide)
       have s34:=k4 34 rfl
       rw[zu f4] at s34
       clear k4 f4
       have Zp:=hB.size
       refine jg hB rfl rfl (by unfold execOp;go_simp) ((HC.out w hB).mono ?_)
       rintro e w' ⟨v1,v2,rfl,r1,r2,hb'⟩
       refine⟨_,rfl,hb',(v1,v2),rfl,Made.new fun w1 hs _ hr=>⟨?_,?_,?_⟩⟩
       ·obtain⟨a0,c0,e0,_⟩:=r1.slice
        obtain⟨a1,c1,e1,_⟩:=r2.slice
        exact⟨a0,c0,a1,c1,e0,e1⟩
       ·exact(r1.kept hs fun g e=>hr g (r1.lt g e).1 (r1.lt g e).2).mono Zp
       ·exact(r2.kept hs fun g e=>hr g (r2.lt g e).1 (r2.lt g e).2).mono Zp
      ·intro a w val own hB hf zx hk
       obtain⟨kc,xc,ec,mc⟩:=hk 5 (show 5∈[2,3,4,5] by decide)
       have vc:=yB ec
       have Wk:=kc 35 rfl
       rw[vc] at Wk
       obtain⟨⟨a0,c0,a1,c1,q1,q2⟩,rc1,rc2⟩:=mc.here hB
       clear kc ec
       obtain⟨xa,xb⟩:=xc
       dsimp only at q1 q2
       subst q1 q2
       refine uN (v:=.slice (some ⟨w.heap.size,0,none⟩) 1 1) (w':=w.alloc (.cells #[.int .i64 c.m,.int .i64 c.pc,.slice a0 c.zg.length c0,.slice a1 c.ze.length c1,.int .i64 c.zf,.bool c.zv] 37)) hB rfl rfl (by unfold execOp;go_simp) (zB _ _) ⟨((.slice a0 c.zg.length c0,.slice a1 c.ze.length c1),w.heap.size),?_,Made.new fun w1 _ _ hr=>?_⟩
       ·show [val 5,_]=_
        rw[vc]
        rfl
       ·exact fun j u hu=>((Bx.new w 37 [.int .i64 c.m,.int .i64 c.pc,.slice a0 c.zg.length c0,.slice a1 c.ze.length c1,.int .i64 c.zf,.bool c.zv]).kept (hr _ zD (by simp))).cell j hu
     intro aE qF val own hB hf zx hk
     obtain⟨kc,xc,ec,mc⟩:=hk 5 (by decide)
     have vc:=yB ec
     have Wk:=kc 35 rfl
     rw[vc] at Wk
     obtain⟨⟨a0,c0,a1,c1,q1,q2⟩,rc1,rc2⟩:=mc.here hB
     clear kc ec
     obtain⟨kb,xb,eb,mb⟩:=hk 6 (by decide)
     have eb':[val 5,val 6]=_:=eb
     injection eb' with Ww ebb
     have vb:=yB ebb
     have s36:=kb 36 rfl
     rw[vb] at s36
     obtain⟨⟨ya,yb⟩,H⟩:=xb
     have hxx:xc=(ya,yb):=by rw[vc] at Ww;exact zbB Ww
     subst hxx
     have mh:=mb.here hB
     dsimp only at mh q1 q2 rc1 rc2
     obtain⟨kl,fl⟩:=hk 1 (by decide)
     have s31:=kl 31 rfl
     rw[zu fl] at s31
     obtain⟨a',c',w4,hrun,g4c,g4f,hS⟩:=ThS.append (ty:=26) hth hB c _ _ rc1 rc2 H 1 mh HLN.out
     clear kl fl kb eb ebb vb vc Ww mb mc mh q1 q2 rc1 rc2
     have hu:=xD hf [30,31,32,33,34,35,36,37,38] (by kernel_rfl)
     dsimp only at hu
     simp only[List.foldl_cons,List.foldl_nil,List.setIfInBounds_toArray,List.set_cons_succ,List.set_cons_zero] at hu
     rw[s31,s36] at hu
     generalize aE.tmps[30]?.getD undef=u30 at hu
     generalize aE.tmps[32]?.getD undef=u32 at hu
     generalize aE.tmps[33]?.getD undef=u33 at hu
     generalize aE.tmps[34]?.getD undef=u34 at hu
     generalize aE.tmps[35]?.getD undef=u35 at hu
     generalize aE.tmps[37]?.getD undef=u37 at hu
     generalize aE.tmps[38]?.getD undef=u38 at hu
     obtain rfl:=kX hu (show aE.defers=[] from hf.defers)
     clear hu hk zx hf s31 s36 Wk
     refine qs (v:=.slice a' (cc.length+1) c') (w':=w4) rfl rfl (vR rfl (by go_simp) (by go_simp) hrun) ?_
     simp only[Act.put]
     refine qs (v:=.pointer (some ⟨g4,0,none⟩)) (w':=w4) rfl rfl (by unfold execOp;go_simp) ?_
     simp only[Act.put]
     refine xx (w':=w4.setCell ⟨g4,0,none⟩ (.slice a' (cc.length+1) c')) rfl rfl (by unfold execOp;go_simp) ?_
     simp only[Act.put]
     clear hrun g4c g4f
     refine kH (fun W=>ThS wS V3 g3 g4 B [.int .i64 m.cells,.slice (some ⟨bp,op,none⟩) m.zd.length cp,.slice ao m.order.length co,.int .i64 m.now,.slice at' m.zh.length ct,.int .i64 m.born,.slice as' m.zl.length cs,.int .i64 m.code] [.int .i64 m.cells,.slice (some ⟨bp,op,none⟩) m.zd.length cp,.slice ao m.order.length co,.int .i64 m.now,.slice at' m.zh.length ct,.int .i64 m.born,.slice as' m.zl.length cs,.int .i64 m.code,.slice al (xl m.zd).length cl,.int .i64 (zY m.zd:Int)] now W (.slice a' (cc.length+1) c') (cc ++ [c])) hS ?_
     rintro W5 h5
     clear hS hB
     go_wp2
     go_roundg (nf - (q+1))
     case measure=>omega
     case rel=>exact⟨q+1,_,by omega,rfl,by go_num,by rw[HCS.out];exact h5⟩
    ·obtain rfl:q=nf:=by omega
     have hqz:¬((q:Int)<(q:Int)):=by omega
     go_wp2
     go_roundg (m.zd.length - (k+1))
     case measure=>omega
     case rel=>exact⟨k+1,_,by omega,rfl,by go_num,by rw[HPA.out];exact hth⟩
  ·obtain rfl:k=m.zd.length:=by omega
   have hkz:¬((m.zd.length:Int)<(m.zd.length:Int)):=by omega
   have HFA:Hid ((yK m m.zd.length).length=zY m.zd):=jA hk
   obtain⟨⟨x0,x1,x2,x3,x4,x5,x6,x7⟩,_⟩:=xy hth.x1
   clear hcp HFR
   go_wp2
   clear x0 x1 x2 x3 x4 x5 x6 x7
   go_loopg [8,44,45,46,47,48,49,50,51,52,53,54,55,56] m.zh.length (fun g _ i _ _ _ _ _ _ _ _ _ _ _ _ wr=>∃(q:Nat) (v:Value),q<=m.zh.length/\g=m.zh.length - q/\i=.int .i64 q/\ThS wS V3 g3 g4 B [.int .i64 m.cells,.slice ap m.zd.length cp,.slice ao m.order.length co,.int .i64 m.now,.slice at' m.zh.length ct,.int .i64 m.born,.slice as' m.zl.length cs,.int .i64 m.code] [.int .i64 m.cells,.slice ap m.zd.length cp,.slice ao m.order.length co,.int .i64 m.now,.slice at' m.zh.length ct,.int .i64 m.born,.slice as' m.zl.length cs,.int .i64 m.code,.slice al (xl m.zd).length cl,.int .i64 (zY m.zd:Int)] now wr v (yK m m.zd.length ++ yX m q))
   case atStart=>exact⟨0,_,Nat.zero_le _,rfl,rfl,by simpa [yX] using hth⟩
   case round =>
    clear hth
    obtain⟨q,v,hq,rfl,rfl,hth⟩:=hrel
    by_cases hqt:q<m.zh.length
    ·have hqz:(q:Int)<(m.zh.length:Int):=by omega
     have HCS:Hid (yK m m.zd.length ++ yX m (q+1)=(yK m m.zd.length ++ yX m q) ++ [qE m m.zh[q]]):=by show _=_;rw[Ks,vQ hqt,List.append_assoc]
     have HLN:Hid ((yK m m.zd.length ++ yX m q).length<=900000):=by show _<=_;rw[List.length_append,HFA.out,um];omega
     obtain⟨cc,hcc⟩:∃cc,yK m m.zd.length ++ yX m q=cc:=⟨_,rfl⟩
     rw[hcc] at hth HCS HLN
     obtain⟨bt,ot,Ku,vs',hat,Z3⟩:=hct q hqt
     subst hat
     have htr:=Z3.below hth.b
     have HC0:=fun(W:World) (hp:Pl W _ _ _ _ _ m)=>HTW.out W (.slice al (xl m.zd).length cl) Ku vs' q hqt hp
     obtain⟨T,hTe⟩:∃T,m.zh[q]=T:=⟨_,rfl⟩
     rw[hTe] at htr HC0 HCS
     obtain⟨c,hc⟩:∃c,qE m T=c:=⟨_,rfl⟩
     rw[hc] at HC0 HCS
     obtain⟨d0,d1,d2,d3,d4,d5,d6,d7,dt,ds⟩:=htr
     obtain⟨b1,k3,e1⟩:=dt.shape
     obtain⟨b2,k4,e2⟩:=ds.shape
     subst e1 e2
     clear hc hcc hTe Z3 HTW hct
     go_upto_region 15 with fail
     refine ye (fun W=>Below wr.heap.size wr W/\Bx W wr.heap.size 90 [.int .i64 T.page,.int .i64 T.place,.int .i64 T.left.m,.int .i64 T.left.pc,.slice b1 T.left.zg.length k3,.slice b2 T.left.ze.length k4,.int .i64 T.left.zf,.bool T.left.zv]) ⟨zB _ _,Bx.new _ _ _⟩ ?_
     rintro W7 ⟨t7,y7'⟩
     replace hth:=hth.below t7
     replace dt:=dt.below t7
     replace ds:=ds.below t7
     clear t7 d0 d1 d2 d3 d4 d5 d6 d7
     have HC:Hid (∀(W:World),Below W7.heap.size W7 W->_):=fun W hW=>HC0 W ((hP3.below (hth.e3.symm ▸ hth.b3)).below hW) (dt.below hW) (ds.below hW)
     clear HC0 dt ds
     obtain⟨a2,k2,hv2⟩:=hth.t.slice
     subst hv2
     have h0:=hth.x4.cell 0 rfl
     obtain⟨⟨x0,x1,x2,x3,x4,x5,x6,x7,x8,x9⟩,_⟩:=Zc hth.x3
     obtain⟨⟨y0,y1,y2,y3,y4,y5,y6,y7⟩,_⟩:=xy y7'
     refine Qp [[],[0],[],[],[2,3],[2,3,4],[0,1,2,3,4,5],[0,1,2,3,4,5,6],[0,1,2,3,4,5,6,7]] [[0],[1],[2],[3],[4],[4,5],[],[],[]] [[],[],[],[],[],[],[],[],[]] [qb (.pointer (some ⟨g4,0,none⟩)),qb (.slice a2 cc.length k2),qb (.agg #[.int .i64 m.cells,.slice ap m.zd.length cp,.slice ao m.order.length co,.int .i64 m.now,.slice (some ⟨bt,ot,none⟩) m.zh.length ct,.int .i64 m.born,.slice as' m.zl.length cs,.int .i64 m.code,.slice al (xl m.zd).length cl,.int .i64 (zY m.zd:Int)]),qb (.agg #[.int .i64 T.page,.int .i64 T.place,.int .i64 T.left.m,.int .i64 T.left.pc,.slice b1 T.left.zg.length k3,.slice b2 T.left.ze.length k4,.int .i64 T.left.zf,.bool T.left.zv]),X2 4 (fun(x:Value × Value) l=>l=[.agg #[.int .i64 c.m,.int .i64 c.pc,x.1,x.2,.int .i64 c.zf,.bool c.zv]]) (fun x w1=>(∃a0 c0 a1 c1,x.1=.slice a0 c.zg.length c0/\x.2=.slice a1 c.ze.length c1)/\zj W7.heap.size w1 x.1 c.zg/\zj W7.heap.size w1 x.2 c.ze),X2 5 (fun(x:(Value × Value) × Nat) l=>l=[.agg #[.int .i64 c.m,.int .i64 c.pc,x.1.1,x.1.2,.int .i64 c.zf,.bool c.zv],.slice (some ⟨x.2,0,none⟩) 1 1]) (fun x w1=>∀j u,([.int .i64 c.m,.int .i64 c.pc,x.1.1,x.1.2,.int .i64 c.zf,.bool c.zv]:List Value)[j]?=some u->w1.cell? ⟨x.2,j,none⟩=some u),wV fun _=>True,wV fun _=>True,wV fun _=>True] 6 2 rfl (by kernel_rfl) (by kernel_rfl) (by kernel_rfl) (by kernel_rfl) ?_ ?_
     ·refine zi (zi (zi (zi (zi (zi (qj) ?_) ?_) ?_) ?_) ?_) ?_
      ·intro a w val own hB hf zx hk
       have s4:=hf.at (d:=4) (v:=.pointer (some ⟨g4,0,none⟩)) (by kernel_rfl) rfl
       exact zs (v:=.pointer (some ⟨g4,0,none⟩)) hB
      ·intro a w val own hB hf zx hk
       obtain⟨k0,f0⟩:=hk 0 (show 0∈[0] by decide)
       have s48:=k0 48 rfl
       rw[zu f0] at s48
       clear k0 f0
       have ch:=zc hB h0
       exact zs (v:=.slice a2 cc.length k2) hB
      ·intro a w val own hB hf zx hk
       have s3:=hf.at (d:=3) (v:=.pointer (some ⟨g3,0,none⟩)) (by kernel_rfl) rfl
       have cx0:=zc hB x0
       have cx1:=zc hB x1
       have cx2:=zc hB x2
       have cx3:=zc hB x3
       have cx4:=zc hB x4
       have cx5:=zc hB x5
       have cx6:=zc hB x6
       have cx7:=zc hB x7
       have cx8:=zc hB x8
       have cx9:=zc hB x9
       exact zs (v:=.agg #[.int .i64 m.cells,.slice ap m.zd.length cp,.slice ao m.order.length co,.int .i64 m.now,.slice (some ⟨bt,ot,none⟩) m.zh.length ct,.int .i64 m.born,.slice as' m.zl.length cs,.int .i64 m.code,.slice al (xl m.zd).length cl,.int .i64 (zY m.zd:Int)]) hB
      ·intro a w val own hB hf zx hk
       have s8:=hf.at (d:=8) (v:=.pointer (some ⟨wr.heap.size,0,none⟩)) (by kernel_rfl) rfl
       have cy0:=zc hB y0
       have cy1:=zc hB y1
       have cy2:=zc hB y2
       have cy3:=zc hB y3
       have cy4:=zc hB y4
       have cy5:=zc hB y5
       have cy6:=zc hB y6
       have cy7:=zc hB y7
       exact zs (v:=.agg #[.int .i64 T.page,.int .i64 T.place,.int .i64 T.left.m,.int .i64 T.left.pc,.slice b1 T.left.zg.length k3,.slice b2 T.left.ze.length k4,.int .i64 T.left.zf,.bool T.left.zv]) hB
      ·intro a w val own hB hf zx hk
       obtain⟨k2,f2⟩:=hk 2 (show 2∈[2,3] by decide)
       have s50:=k2 50 rfl
       rw[zu f2] at s50
       clear k2 f2
       obtain⟨k3,f3⟩:=hk 3 (show 3∈[2,3] by decide)
       have s51:=k3 51 rfl
       rw[zu f3] at s51
       clear k3 f3
       have Zp:=hB.size
       refine jg hB rfl rfl (by unfold execOp;go_simp) ((HC.out w hB).mono ?_)
       rintro e w' ⟨v1,v2,rfl,r1,r2,hb'⟩
       refine⟨_,rfl,hb',(v1,v2),rfl,Made.new fun w1 hs _ hr=>⟨?_,?_,?_⟩⟩
       ·obtain⟨a0,c0,e0,_⟩:=r1.slice
        obtain⟨a1,c1,e1,_⟩:=r2.slice
        exact⟨a0,c0,a1,c1,e0,e1⟩
       ·exact(r1.kept hs fun g e=>hr g (r1.lt g e).1 (r1.lt g e).2).mono Zp
       ·exact(r2.kept hs fun g e=>hr g (r2.lt g e).1 (r2.lt g e).2).mono Zp
      ·intro a w val own hB hf zx hk
       obtain⟨kc,xc,ec,mc⟩:=hk 4 (show 4∈[2,3,4] by decide)
       have vc:=yB ec
       have s52:=kc 52 rfl
       rw[vc] at s52
       obtain⟨⟨a0,c0,a1,c1,q1,q2⟩,rc1,rc2⟩:=mc.here hB
       clear kc ec
       obtain⟨xa,xb⟩:=xc
       dsimp only at q1 q2
       subst q1 q2
       refine uN (v:=.slice (some ⟨w.heap.size,0,none⟩) 1 1) (w':=w.alloc (.cells #[.int .i64 c.m,.int .i64 c.pc,.slice a0 c.zg.length c0,.slice a1 c.ze.length c1,.int .i64 c.zf,.bool c.zv] 37)) hB rfl rfl (by unfold execOp;go_simp) (zB _ _) ⟨((.slice a0 c.zg.length c0,.slice a1 c.ze.length c1),w.heap.size),?_,Made.new fun w1 _ _ hr=>?_⟩
       ·show [val 4,_]=_
        rw[vc]
        rfl
       ·exact fun j u hu=>((Bx.new w 37 [.int .i64 c.m,.int .i64 c.pc,.slice a0 c.zg.length c0,.slice a1 c.ze.length c1,.int .i64 c.zf,.bool c.zv]).kept (hr _ zD (by simp))).cell j hu
     intro aE qF val own hB hf zx hk
     obtain⟨kc,xc,ec,mc⟩:=hk 4 (by decide)
     have vc:=yB ec
     have s52:=kc 52 rfl
     rw[vc] at s52
     obtain⟨⟨a0,c0,a1,c1,q1,q2⟩,rc1,rc2⟩:=mc.here hB
     clear kc ec
     obtain⟨kb,xb,eb,mb⟩:=hk 5 (by decide)
     have eb':[val 4,val 5]=_:=eb
     injection eb' with Ww ebb
     have vb:=yB ebb
     have s53:=kb 53 rfl
     rw[vb] at s53
     obtain⟨⟨ya,yb⟩,H⟩:=xb
     have hxx:xc=(ya,yb):=by rw[vc] at Ww;exact zbB Ww
     subst hxx
     have mh:=mb.here hB
     dsimp only at mh q1 q2 rc1 rc2
     obtain⟨kl,fl⟩:=hk 1 (by decide)
     have s49:=kl 49 rfl
     rw[zu fl] at s49
     obtain⟨a',c',w4,hrun,g4c,g4f,hS⟩:=ThS.append (ty:=26) hth hB c _ _ rc1 rc2 H 1 mh HLN.out
     clear kl fl kb eb ebb vb vc Ww mb mc mh q1 q2 rc1 rc2
     have hu:=xD hf [48,49,50,51,52,53,54,55] (by kernel_rfl)
     dsimp only at hu
     simp only[List.foldl_cons,List.foldl_nil,List.setIfInBounds_toArray,List.set_cons_succ,List.set_cons_zero] at hu
     rw[s49,s53] at hu
     generalize aE.tmps[48]?.getD undef=u48 at hu
     generalize aE.tmps[50]?.getD undef=u50 at hu
     generalize aE.tmps[51]?.getD undef=u51 at hu
     generalize aE.tmps[52]?.getD undef=u52 at hu
     generalize aE.tmps[54]?.getD undef=u54 at hu
     generalize aE.tmps[55]?.getD undef=u55 at hu
     obtain rfl:=kX hu (show aE.defers=[] from hf.defers)
     clear hu hk zx hf s49 s53 s52
     refine qs (v:=.slice a' (cc.length+1) c') (w':=w4) rfl rfl (vR rfl (by go_simp) (by go_simp) hrun) ?_
     simp only[Act.put]
     refine qs (v:=.pointer (some ⟨g4,0,none⟩)) (w':=w4) rfl rfl (by unfold execOp;go_simp) ?_
     simp only[Act.put]
     refine xx (w':=w4.setCell ⟨g4,0,none⟩ (.slice a' (cc.length+1) c')) rfl rfl (by unfold execOp;go_simp) ?_
     simp only[Act.put]
     clear hrun g4c g4f
     refine kH (fun W=>ThS wS V3 g3 g4 B [.int .i64 m.cells,.slice ap m.zd.length cp,.slice ao m.order.length co,.int .i64 m.now,.slice (some ⟨bt,ot,none⟩) m.zh.length ct,.int .i64 m.born,.slice as' m.zl.length cs,.int .i64 m.code] [.int .i64 m.cells,.slice ap m.zd.length cp,.slice ao m.order.length co,.int .i64 m.now,.slice (some ⟨bt,ot,none⟩) m.zh.length ct,.int .i64 m.born,.slice as' m.zl.length cs,.int .i64 m.code,.slice al (xl m.zd).length cl,.int .i64 (zY m.zd:Int)] now W (.slice a' (cc.length+1) c') (cc ++ [c])) hS ?_
     rintro W5 h5
     clear hS hB
     go_wp2
     go_roundg (m.zh.length - (q+1))
     case measure=>omega
     case rel=>exact⟨q+1,_,by omega,rfl,by go_num,by rw[HCS.out];exact h5⟩
    ·obtain rfl:q=m.zh.length:=by omega
     have hqz:¬((m.zh.length:Int)<(m.zh.length:Int)):=by omega
     obtain⟨a2,k2,hv2⟩:=hth.t.slice
     subst hv2
     have hx4:=hth.x4
     have hx2:=hth.x2
     have hb9:=hth.b
     have ht9:=hth.t
     have q3:=hth.q3
     have q4:=hth.q4
     have qB:=hth.qB
     clear hth
     have HCS:Hid (yK m m.zd.length ++ yX m m.zh.length=(yW m).za):=rfl
     obtain⟨cs9,hcs9⟩:∃cs9,yK m m.zd.length ++ yX m m.zh.length=cs9:=⟨_,rfl⟩
     rw[hcs9] at hx4 ht9 HCS
     obtain⟨n9,hn9⟩:∃n9,cs9.length=n9:=⟨_,rfl⟩
     rw[hn9] at hx4 ht9
     have HNW:Hid (un m=now):=QB
     clear hn9 hcs9 QB HFA HTW hct hP3
     have p0:=hx4.cell 0 rfl
     have r0:=hx2.cell 0 rfl
     have f0:=hx2.frozen 0
     have p1:=hx4.cell 1 rfl
     have r1:=hx2.cell 1 rfl
     have f1:=hx2.frozen 1
     have p2:=hx4.cell 2 rfl
     have r2:=hx2.cell 2 rfl
     have f2:=hx2.frozen 2
     have p3:=hx4.cell 3 rfl
     have r3:=hx2.cell 3 rfl
     have f3:=hx2.frozen 3
     have p4:=hx4.cell 4 rfl
     have r4:=hx2.cell 4 rfl
     have f4:=hx2.frozen 4
     go_wp2
     refine jh (fun W=>Below wS.heap.size wS W/\Bx W (wS.heap.size+1) 29 [.slice a2 n9 k2,.int .i64 now,.int .i64 0,.slice none 0 0,.int .i64 0]/\XA B W (.slice a2 n9 k2) cs9) ?_ ?_
     ·have HW:=(((((Wr.refl1 (wS.heap.size+1) wr).set1 (o:=0) (.slice a2 n9 k2)).set1 (o:=1) (.int .i64 now)).set1 (o:=2) (.int .i64 0)).set1 (o:=3) (.slice none 0 0)).set1 (o:=4) (.int .i64 0)
      exact⟨HW.below1 hb9 zD (Nat.le_succ _),((((hx2.set 0 _).set 1 _).set 2 _).set 3 _).set 4 _,ht9.wr HW (by omega)⟩
     rintro W9 ⟨B9,x9,r9⟩
     have i0:=x9.cell 0 rfl
     have i1:=x9.cell 1 rfl
     have i2:=x9.cell 2 rfl
     have i3:=x9.cell 3 rfl
     have i4:=x9.cell 4 rfl
     exact bodyPost_ret (v:=.agg #[.slice a2 n9 k2,.int .i64 now,.int .i64 0,.slice none 0 0,.int .i64 0]) (by simp[results,Tryz.results62,go_sem,i0,i1,i2,i3,i4]) rfl ⟨_,by rw[HNW.out],HCS.out ▸ r9.at,B9⟩
end Go.Proofs.YtjbgpcileapogaaGreat
