/-
  The first call of a program on pages: emptyPages and MachNew of the program, MachNew of the model.
-/
import Derived.Test.YtbjgjjkgfnfejaaGreatDoorMRow
import Derived.Test.YtbjgjjkgfnfejaaGreatDoorMThing3
namespace Go.Proofs.YtbjgjjkgfnfejaaGreatDoor
set_option maxHeartbeats 4000000
set_option maxRecDepth 100000
open Go.RowKit
theorem UB {P:Program} {o:Oper} {y:Nat->Option Bool} {a:Act} {w w':World} {v:Value} {K:Act->World->Prop} {Q:Exit->Act->World->Prop} {E:Prop} (hg:Region.wanted o y=true) (hr:(execOp a.eval o).run P w=.ok (.value v) w') (hK:K (a.put o.dst v) w') :
 if Region.wanted o y=true then Oper.wp P o a w K Q else E:=by
 rw[if_pos hg]
 unfold Oper.wp
 rw[hr]
 exact hK
theorem uL {P:Program} {t:TypeId} {o:Oper} {act:Act} {w w':World} {s x:Operand} {v xv v':Value} (ho:o.op=.call {callee:=.builtin .append,args:=#[s,x],argTypes:=#[t,t]}) (hs:act.eval s=v) (hx:act.eval x=xv)
 (hr:(Builtin.append_ #[t,t] o.type #[v,xv]).run P w=.ok v' w'):(execOp act.eval o).run P w=.ok (.value v') w':=by
 unfold execOp
 simp only[ho,resolve,invoke,builtin,Sem.run_bind,Sem.run_pure,Result.andThen_ok,List.map_toArray,List.map_cons,List.map_nil,hs,hx,hr]
def yG (n k:Nat):List Int:=(List.range k).map fun i=>(((i+1) % n:Nat):Int)
theorem Vm (n k:Nat):yG n (k+1)=yG n k ++ [(((k+1) % n:Nat):Int)]:=by simp[yG,List.range_succ]
theorem vy (n k:Nat):(yG n k).length=k:=by simp[yG]
def ZD (vf:Value) (k:Nat):List Value:=(List.replicate k [Value.int .i64 (-1),vf]).flatten
theorem UV (vf:Value) (k:Nat):ZD vf (k+1)=ZD vf k ++ [zI (-1),vf]:=by simp[ZD,List.replicate_succ']
theorem WW (vf:Value):∀(k i:Nat),i<k->(ZD vf k)[i * 2]?=some (zI (-1))/\(ZD vf k)[i * 2+1]?=some vf
 | 0,i,h=>absurd h yB
 | k+1,i,h=>by
  cases i with
  | zero=>simp[ZD,List.replicate_succ]
  | succ i =>
   have ih:=WW vf k i (by omega)
   have e:ZD vf (k+1)=zI (-1) :: vf :: ZD vf k:=by simp[ZD,List.replicate_succ]
   rw[e,show(i+1) * 2=i * 2+1+1 by omega]
   exact ih
theorem Tryz.infoPageN:(Tryz.prog.info? 78).map (fun i=>(i.zero,i.size,i.bytes))=some (some (.agg #[zI 0,zQ]),2,32):=by kernel_rfl
theorem Tryz.infoIntN:(Tryz.prog.info? 3).map (fun i=>(i.zero,i.size,i.bytes))=some (some (zI 0),1,8):=by kernel_rfl
theorem KK (n:Nat) (c:Int) (w:World) (hn:n<=1000) :
 Calls Tryz.prog 40 #[zI (n:Int),zI c] w fun e w'=>∃vp vo,e=.returned (.agg #[zI c,vp,vo,zI (-1),zQ,zI 0,zQ,zI 0]) /\
  ym w.heap.size 2 w' vp n (ZD (zQ) n)/\zL w.heap.size w' vo (yG n n)/\(∀g,vp.ownBlock=some g->vo.ownBlock≠some g)/\zO w w':=by
 obtain⟨i0,hi,jM,xP,vJ⟩:=info_parts Tryz.infoPageN
 obtain⟨j0,ji,jz0,jz1,jz2⟩:=info_parts Tryz.infoIntN
 go_enter Tryz.func40,Tryz.ntmps40
 go_upto_region 2 with fail
 refine yg (fun W=>zO w W/\Bx W w.heap.size 34 [zI 0,zQ,zQ,zI 0,zQ,zI 0,zQ,zI 0]
  /\ Bx W (w.heap.size+1) 34 [.int .i64 c,.slice none 0 0,.slice none 0 0,.int .i64 (-1),.slice none 0 0,.int .i64 0,.slice none 0 0,.int .i64 0]/\w.heap.size+1+1=W.heap.size) ⟨(zR _ _).alloc (by simp) _,(Bx.new w _ _).alloc _,Bx.newAt _ _ _ (by simp),by simp⟩ ?_
 rintro W ⟨hb,hr,hx,hW⟩
 have hW2:w.heap.size+1<W.heap.size:=by omega
 clear hW
 go_wp2_with fail
 go_loopg [6,10] n (fun d _ i wr=>∃(k:Nat) (vp vo:Value),k<=n/\d=n - k/\i=zI (k:Int)/\ym W.heap.size 2 wr vp k (ZD (zQ) k)/\zL W.heap.size wr vo (yG n k)/\(∀g,vp.ownBlock=some g->vo.ownBlock≠some g)/\zO w wr/\W.heap.size<=wr.heap.size
  /\ Bx wr w.heap.size 34 [zI 0,zQ,zQ,zI 0,zQ,zI 0,zQ,zI 0]
  /\ Bx wr (w.heap.size+1) 34 [zI c,vp,vo,zI (-1),zQ,zI 0,zQ,zI 0])
 case atStart=>exact⟨0,zQ,zQ,Nat.zero_le _,rfl,rfl,ym.nil _ _ _,zL.nil _ _,fun g e=>by simp[Value.ownBlock] at e,hb,Nat.le_refl _,hr,hx⟩
 case round =>
  clear hb hr hx
  obtain⟨k,vp,vo,hk,rfl,rfl,yd,ud,hap,hb,hz,hr,hx⟩:=hrel
  obtain⟨ap,cp,qz,_⟩:=yd.slice
  obtain⟨ao,co,jw,_⟩:=ud.slice
  subst qz jw
  by_cases yt:k<n
  ·have v7:(k:Int)<(n:Int):=by omega
   have N1:=zR wr (.cells #[.int .i64 (-1),.slice none 0 0] 78)
   have y1:=Bx.new wr 78 [.int .i64 (-1),.slice none 0 0]
   have r1:=yd.below N1
   have x1:=hx.below N1
   have z1:=N1.size
   obtain⟨⟨_,p1,p2,_,_,_,_,_⟩,⟨_,f1,f2,_,_,_,_,_⟩⟩:=jW hx
   have hhi:∀g,(Value.slice ap k cp).ownBlock=some g->W.heap.size<=g/\g<wr.heap.size:=yd.lt
   have hho:∀g,(Value.slice ao (yG n k).length co).ownBlock=some g->W.heap.size<=g/\g<wr.heap.size:=ud.lt
   go_upto_region 6 with(at_builtin;refine Us Tryz.underlying29 hi jM xP rfl (by rw[vJ];omega) _ (by rfl) _ _ (by rfl) _ k _ [zI (-1),zQ] (by rfl) wr.heap.size 1 (by rfl) r1 rfl (fun u hu=>by simp at hu;rcases hu with rfl | rfl <;> rfl) (fun j u hu=>y1.cell j hu) (by omega) (by omega) ?_;intro v2 w2 yO qF X7;have uW:=x1.grown qF (fun e=>by have:=(hhi _ e).1;omega);have x8':=uW.cell 1 rfl;have f8':=uW.frozen 1;obtain⟨a2,c2,hv2,_⟩:=yO.slice;subst hv2)
   have hs2:W.heap.size<=w2.heap.size:=by have:=qF.size;omega
   have o1:=ud.below N1
   have X2:∀g,(Value.slice a2 (k+1) c2).ownBlock=some g->W.heap.size<=g/\(Value.slice ao (yG n k).length co).ownBlock≠some g:=fun g e=>by
    refine⟨(yO.lt g e).1,fun e2=>?_⟩
    rcases X7 with h | h
    ·exact hap g (h ▸ e) e2
    ·rw[h] at e
     injection e with e
     have:=(hho g e2).2
     omega
   refine yg (fun W'=>zO w W'/\ym W.heap.size 2 W' (.slice a2 (k+1) c2) (k+1) (ZD (zQ) (k+1))/\zL W.heap.size W' (.slice ao (yG n k).length co) (yG n k)/\W.heap.size<=W'.heap.size
    /\ Bx W' w.heap.size 34 [zI 0,zQ,zQ,zI 0,zQ,zI 0,zQ,zI 0]/\Bx W' (w.heap.size+1) 34 [zI c,.slice a2 (k+1) c2,.slice ao (yG n k).length co,zI (-1),zQ,zI 0,zQ,zI 0]) ?_ ?_
   ·have HW:=(Wr.refl1 (w.heap.size+1) w2).set1 (o:=1) (.slice a2 (k+1) c2)
    have hbz:=hb.size
    exact⟨HW.below1 ((hb.trans (N1.mono hbz)).grown qF (by omega) (fun q e=>by have:=(hhi _ e).1;omega)) zD (Nat.le_succ _),by rw[UV];exact yO.wr HW (fun g e e2=>by have:=(X2 g e).1;omega),HW.ints (o1.grown qF (fun g e e2=>hap g e2 e)) (fun g e e2=>by have:=(hho g e).1;omega),by rw[World.size_setCell];exact hs2,HW.bx ((hr.below N1).grown qF (fun e=>by have:=(hhi _ e).1;omega)) (by omega),uW.set 1 _⟩
   clear uW x8' f8' yO qF X7 o1 hs2 hhi p1 p2 f1 f2 z1 x1 r1 y1 N1 hx hr hz hb yd ud hap
   rintro w3 ⟨hb,yd,ud,hz,hr,hx⟩
   obtain⟨L,hL⟩:∃L,yG n k=L:=⟨_,rfl⟩
   have HLS:Hid (yG n (k+1)=L ++ [(((k+1) % n:Nat):Int)]):=by show _=_;rw[<-hL];exact Vm _ _
   have hll:L.length+1<=3000000:=by rw[<-hL,vy];omega
   rw[hL] at ud hx X2 hho
   clear hL
   obtain⟨q,hq⟩:∃q,(k+1) % n=q:=⟨_,rfl⟩
   have hqt:((k:Int)+1).tmod (n:Int)=(q:Int):=by rw[<-hq];exact_mod_cast (Int.ofNat_tmod (k+1) n).symm
   rw[hq] at HLS
   obtain⟨⟨_,_,p2,_,_,_,_,_⟩,⟨_,_,f2,_,_,_,_,_⟩⟩:=jW hx
   have N1:zO w3 (w3.alloc (.cells #[.int .i64 (q:Int)] 3)).drew:=(zR _ _).drew
   have hnew:∀j,(hj:j < [(q:Int)].length)->(w3.alloc (.cells #[.int .i64 (q:Int)] 3)).drew.cell? ((⟨w3.heap.size,0,none⟩:Addr).add j)=some (.int .i64 [(q:Int)][j]):=fun j hj=>by
    obtain rfl:j=0:=by simpa using hj
    simp[go_sem,Addr.add]
   obtain⟨g4,o4,c4,w4,zfc,qd,uy,ze8⟩:=uB (P:=Tryz.prog) (ty:=30) Tryz.underlying30 ji jz0 jz1 jz2 (ud.below N1) ⟨w3.heap.size,0,none⟩ 1 1 [(q:Int)] rfl hnew (.inl (by omega)) hll (Nat.le_trans (by omega) N1.size)
   have Kx:=(hx.below N1).grown uy (fun e=>by have h9:W.heap.size<=w.heap.size+1:=(ud.lt _ e).1;omega)
   have p4:=Kx.cell 2 rfl
   have f4:=Kx.frozen 2
   have hlt3:w.heap.size+1<w3.heap.size:=hx.lt
   have hnz:¬(n=0):=by omega
   have hwk:IntKind.i64.wrap ((k:Int)+1)=(k:Int)+1:=by rw[IntKind.wrap_i64];omega
   have HE:Hid (ym W.heap.size 2 (w4.setCell (zH (w.heap.size+1) 2) (zK g4 o4 (L.length+1) c4)) (.slice a2 (k+1) c2) (k+1) (ZD (zQ) (k+1))/\zL W.heap.size (w4.setCell (zH (w.heap.size+1) 2) (zK g4 o4 (L.length+1) c4)) (zK g4 o4 (L.length+1) c4) (yG n (k+1)) /\
    (∀g,(Value.slice a2 (k+1) c2).ownBlock=some g->(zK g4 o4 (L.length+1) c4).ownBlock≠some g)/\zO w (w4.setCell (zH (w.heap.size+1) 2) (zK g4 o4 (L.length+1) c4))/\W.heap.size<=(w4.setCell (zH (w.heap.size+1) 2) (zK g4 o4 (L.length+1) c4)).heap.size /\
    Bx (w4.setCell (zH (w.heap.size+1) 2) (zK g4 o4 (L.length+1) c4)) w.heap.size 34 [zI 0,zQ,zQ,zI 0,zQ,zI 0,zQ,zI 0]/\Bx (w4.setCell (zH (w.heap.size+1) 2) (zK g4 o4 (L.length+1) c4)) (w.heap.size+1) 34 [zI c,.slice a2 (k+1) c2,zK g4 o4 (L.length+1) c4,zI (-1),zQ,zI 0,zQ,zI 0]):=by
    have HW:=(Wr.refl1 (w.heap.size+1) w4).set1 (o:=2) (zK g4 o4 (L.length+1) c4)
    have hlo:∀g,(Value.slice ao L.length co).ownBlock=some g->W.heap.size<=g:=fun g e=>(ud.lt g e).1
    have hbz:=hb.size
    have Ww:=N1.size
    refine⟨((yd.below N1).grown uy (fun g e e2=>(X2 g e).2 e2)).wr HW (fun g e e2=>by have:=(X2 g e).1;omega),by rw[HLS.out];exact HW.ints qd (fun g e e2=>by have:=(qd.lt g e).1;omega),fun g e e2=>?_,HW.below1 ((hb.trans (N1.mono hbz)).grown uy (by omega) (fun q e=>by have:=hlo q e;omega)) zD (Nat.le_succ _),by rw[World.size_setCell];have:=uy.size;omega,HW.bx ((hr.below N1).grown uy (fun e=>by have:=hlo _ e;omega)) (by omega),Kx.set 2 _⟩
    have e3:g4=g:=by injection e2
    subst e3
    rcases ze8 with h | h
    ·exact(X2 g4 e).2 h
    ·have:=(yd.lt g4 e).2
     omega
   clear Kx qd uy ze8 hnew N1 ud yd hb hr hx X2 hho hz
   go_wp2_with fail
   go_region_law (refine UB (by simp[Region.wanted]) (uL rfl (by go_simp) (by go_simp) zfc) ?_)
   all_goals
    go_wp2
    go_roundg (n - (k+1))
    case measure=>omega
    case rel=>exact⟨k+1,_,_,by omega,rfl,by go_num,HE.out⟩
  ·obtain rfl:k=n:=by omega
   have v7:¬((k:Int)<(k:Int)):=by omega
   obtain⟨⟨r0,r1,r2,r3,r4,r5,r6,r7⟩,⟨g0,g1,g2,g3,g4,g5,g6,g7⟩⟩:=jW hr
   obtain⟨⟨p0,p1,p2,p3,p4,p5,p6,p7⟩,_⟩:=jW hx
   go_wp2
   refine xW (fun W'=>zO w W'/\ym w.heap.size 2 W' (.slice ap k cp) k (ZD (zQ) k)/\zL w.heap.size W' (.slice ao (yG k k).length co) (yG k k)/\Bx W' w.heap.size 34 [zI c,.slice ap k cp,.slice ao (yG k k).length co,zI (-1),zQ,zI 0,zQ,zI 0]) ?_ ?_
   ·have HW:=((((((((Wr.refl1 w.heap.size wr).set1 (o:=0) (zI c)).set1 (o:=1) (.slice ap k cp)).set1 (o:=2) (.slice ao (yG k k).length co)).set1 (o:=3) (zI (-1))).set1 (o:=4) (zQ)).set1 (o:=5) (zI 0)).set1 (o:=6) (zQ)).set1 (o:=7) (zI 0)
    exact⟨HW.below1 hb zD zD,(yd.wr HW (fun g e e2=>by have:=(yd.lt g e).1;omega)).mono (by omega),(HW.ints ud (fun g e e2=>by have:=(ud.lt g e).1;omega)).mono (by omega),(((((((hr.set 0 _).set 1 _).set 2 _).set 3 _).set 4 _).set 5 _).set 6 _).set 7 _⟩
   rintro W9 ⟨hb9,wN,hord9,hx9⟩
   obtain⟨⟨q0,q1,q2,q3,q4,q5,q6,q7⟩,_⟩:=jW hx9
   exact bodyPost_ret (v:=.agg #[zI c,.slice ap k cp,.slice ao (yG k k).length co,zI (-1),zQ,zI 0,zQ,zI 0]) (by simp[results,Tryz.results40,go_sem,q0,q1,q2,q3,q4,q5,q6,q7]) rfl ⟨_,_,rfl,wN,hord9,hap,hb9⟩
def qP (r c:Int):Bool:=qy r 1 4 && qy c 14 60
theorem jZ {r c:Int} (h:qP r c=true):1<=r/\r<=4/\14<=c/\c<=60:=by
 unfold qP at h
 simp only[Bool.and_eq_true] at h
 have h1:=zx.1 h.1
 have h2:=zx.1 h.2
 omega
theorem JP (r c:Int) (w:World):Calls Tryz.prog 39 #[zI r,zI c] w fun e w'=>e=.returned (.bool (qP r c))/\w'=w:=by
 go_enter Tryz.func39,Tryz.ntmps39
 by_cases h1:1<=r
 ·by_cases h2:r<=4
  ·by_cases h3:14<=c
   ·by_cases h4:c<=60
    ·go_wp2
     go_ret
     exact⟨by simp[qP,qy,h1,h2,h3,h4],rfl⟩
    ·go_wp2
     go_ret
     exact⟨by simp[qP,qy,h1,h2,h3,h4],rfl⟩
   ·go_wp2
    go_ret
    exact⟨by simp[qP,qy,h1,h2];omega,rfl⟩
  ·go_wp2
   go_ret
   exact⟨by simp[qP,qy,h1];omega,rfl⟩
 ·go_wp2
  go_ret
  exact⟨by simp[qP,qy];omega,rfl⟩
def xy (n t:Nat):List Pg:=(List.range n).map fun i=>⟨-1,if i=0 then [⟨0,0,-1,List.replicate t (0,0),[]⟩] else []⟩
def yV (n t:Nat) (c:Int):Mc:=⟨c,xy n t,yG n n,0,[],1,[],0⟩
structure VV (B:Nat) (w:World) (n t:Nat) (vp vo:Value) (gf:Nat) (vt vs:Value):Prop where
 p:ym B 2 w vp n (zI (-1) :: zK gf 0 1 1 :: ZD (zQ) (n - 1))
 f:Bx w gf 75 [zI 0,zI 0,zI (-1),vt,vs]
 t:zl B w vt (List.replicate t (0,0))
 s:zl B w vs []
 o:zL B w vo (yG n n)
 low:B<=gf
 a1:vp.ownBlock≠some gf
 a2:∀g,vp.ownBlock=some g->vo.ownBlock≠some g
 a3:∀g,vp.ownBlock=some g->vt.ownBlock≠some g
 a4:vo.ownBlock≠some gf
 a5:vt.ownBlock≠some gf
 a6:∀g,vo.ownBlock=some g->vt.ownBlock≠some g
 sn:vs=zQ
theorem VV.wr {B:Nat} {w w':World} {n t gf k gp op cp gt ct:Nat} {vo vs:Value} (h:VV B w n t (zK gp op n cp) vo gf (zK gt 0 t ct) vs) (hw:Wr (fun g=>g=k) w w') (h1:gp≠k) (h2:gf≠k) (h3:vo.ownBlock=some k->False) (h4:gt≠k) (h5:vs.ownBlock≠some k) :
 VV B w' n t (zK gp op n cp) vo gf (zK gt 0 t ct) vs :=
 ⟨h.p.wr hw (fun g e e2=>h1 (by have h9:gp=g:=by {injection e};omega)),hw.bx h.f h2,hw.pair h.t (fun g e e2=>h4 (by have h9:gt=g:=by {injection e};omega)),hw.pair h.s (fun g e e2=>h5 (e2 ▸ e)),hw.ints h.o (fun g e e2=>h3 (e2 ▸ e)),h.low,h.a1,h.a2,h.a3,h.a4,h.a5,h.a6,h.sn⟩
theorem Tryz.infoValN:(Tryz.prog.info? 86).map (fun i=>(i.zero,i.size,i.bytes))=some (some (.agg #[zI 0,zI 0]),2,16):=by kernel_rfl
theorem J9 (vp:Value) (ms:zM) (r c:Int) (w:World) (h:yD w vp ms) :
 Calls Tryz.prog 13 #[.agg #[vp],zI r,zI c] w fun e w'=>zO w w' /\
  (((yn ms && qP r c)=false/\e=.returned (.tuple #[.agg #[zI 0,zQ,zQ,zI 0,zQ,zI 0,zQ,zI 0],.bool false])) \/
   ((yn ms && qP r c)=true/\∃v vo gf vt vs,e=.returned (.tuple #[.agg #[zI c,v,vo,zI 0,zQ,zI 1,zQ,zI 0],.bool true])/\VV w.heap.size w' r.toNat (yr ms) v vo gf vt vs)):=by
 obtain⟨a,cap,rfl,hl,hc⟩:=id h
 obtain⟨fp,hfp⟩:∃fp,yn ms=fp:=⟨_,rfl⟩
 obtain⟨fr,hfr⟩:∃fr,qP r c=fr:=⟨_,rfl⟩
 have HFP:Hid (yn ms=fp):=hfp
 have HFR:Hid (qP r c=fr):=hfr
 have HOK:=fun W (hb:zO w W)=>YM _ ms W (h.below hb)
 have HRO:=fun W=>JP r c W
 rw[hfp] at HOK ⊢
 rw[hfr] at HRO ⊢
 clear hfp hfr
 go_enter Tryz.func13,Tryz.ntmps13
 go_upto_region 1 with fail
 refine yg (fun W=>zO w W/\Bx W w.heap.size 25 [.slice a ms.length cap]/\Bx W (w.heap.size+1) 34 [.int .i64 0,.slice none 0 0,.slice none 0 0,.int .i64 0,.slice none 0 0,.int .i64 0,.slice none 0 0,.int .i64 0]) ⟨(zR _ _).alloc (by simp) _,(Bx.new w _ _).alloc _,Bx.newAt _ _ _ (by simp)⟩ ?_
 rintro W0 ⟨B0,x0,y0⟩
 have p0:=x0.cell 0 rfl
 have z0:=B0.size
 go_wp2_with fail
 refine(HOK _ B0).mono ?_
 rintro e W1 ⟨rfl,t1⟩
 have x1:=x0.below t1
 have y1:=y0.below t1
 have B1:=B0.trans (t1.mono z0)
 have z1:=B1.size
 clear HOK t1 x0 y0 B0 z0 p0
 obtain⟨⟨r0,r1,r2,r3,r4,r5,r6,r7⟩,⟨g0,g1,g2,g3,g4,g5,g6,g7⟩⟩:=jW y1
 have HZ:zO w ((((((((W1.setCell (zH (w.heap.size+1) 0) (zI 0)).setCell (zH (w.heap.size+1) 1) (zQ)).setCell (zH (w.heap.size+1) 2) (zQ)).setCell (zH (w.heap.size+1) 3) (zI 0)).setCell (zH (w.heap.size+1) 4) (zQ)).setCell (zH (w.heap.size+1) 5) (zI 0)).setCell (zH (w.heap.size+1) 6) (zQ)).setCell (zH (w.heap.size+1) 7) (zI 0)) /\
  Bx ((((((((W1.setCell (zH (w.heap.size+1) 0) (zI 0)).setCell (zH (w.heap.size+1) 1) (zQ)).setCell (zH (w.heap.size+1) 2) (zQ)).setCell (zH (w.heap.size+1) 3) (zI 0)).setCell (zH (w.heap.size+1) 4) (zQ)).setCell (zH (w.heap.size+1) 5) (zI 0)).setCell (zH (w.heap.size+1) 6) (zQ)).setCell (zH (w.heap.size+1) 7) (zI 0)) (w.heap.size+1) 34 [zI 0,zQ,zQ,zI 0,zQ,zI 0,zQ,zI 0]:=by
  have HW:=((((((((Wr.refl1 (w.heap.size+1) W1).set1 (o:=0) (zI 0)).set1 (o:=1) (zQ)).set1 (o:=2) (zQ)).set1 (o:=3) (zI 0)).set1 (o:=4) (zQ)).set1 (o:=5) (zI 0)).set1 (o:=6) (zQ)).set1 (o:=7) (zI 0)
  exact⟨HW.below1 B1 zD (Nat.le_succ _),(((((((y1.set 0 _).set 1 _).set 2 _).set 3 _).set 4 _).set 5 _).set 6 _).set 7 _⟩
 have HZH:Hid _:=HZ
 clear HZ
 cases fp
 ·go_wp2
  refine xW (fun W=>zO w W/\Bx W (w.heap.size+1) 34 [zI 0,zQ,zQ,zI 0,zQ,zI 0,zQ,zI 0]) HZH.out ?_
  rintro W9 ⟨B9,x9⟩
  obtain⟨⟨q0,q1,q2,q3,q4,q5,q6,q7⟩,_⟩:=jW x9
  exact bodyPost_ret (v:=.tuple #[.agg #[zI 0,zQ,zQ,zI 0,zQ,zI 0,zQ,zI 0],.bool false]) (by simp[results,Tryz.results13,go_sem,q0,q1,q2,q3,q4,q5,q6,q7]) rfl ⟨B9,.inl ⟨rfl,rfl⟩⟩
 go_wp2_with fail
 refine(HRO _).mono ?_
 rintro e W2 ⟨rfl,hw⟩
 obtain rfl:=hw.symm
 clear HRO
 cases fr
 ·go_wp2
  refine xW (fun W=>zO w W/\Bx W (w.heap.size+1) 34 [zI 0,zQ,zQ,zI 0,zQ,zI 0,zQ,zI 0]) HZH.out ?_
  rintro W9 ⟨B9,x9⟩
  obtain⟨⟨q0,q1,q2,q3,q4,q5,q6,q7⟩,_⟩:=jW x9
  exact bodyPost_ret (v:=.tuple #[.agg #[zI 0,zQ,zQ,zI 0,zQ,zI 0,zQ,zI 0],.bool false]) (by simp[results,Tryz.results13,go_sem,q0,q1,q2,q3,q4,q5,q6,q7]) rfl ⟨B9,.inl ⟨rfl,rfl⟩⟩
 clear HZH
 obtain⟨X8,Wy,_,_⟩:=jZ HFR.out
 obtain⟨n,rfl⟩:=Int.eq_ofNat_of_zero_le (show 0<=r by omega)
 have Ww:1<=n:=by omega
 have hn4:n<=4:=by omega
 go_wp2_with fail
 refine(KK n c _ (by omega)).mono ?_
 rintro e W3 ⟨v,vo,rfl,yd,ud,hap,t3⟩
 have x3:=x1.below t3
 have y3:=y1.below t3
 have B3:=B1.trans (t3.mono z1)
 have z3:=t3.size
 have hlo1:w.heap.size+1<W1.heap.size:=y1.lt
 clear t3 x1 y1 r0 r1 r2 r3 r4 r5 r6 r7 g0 g1 g2 g3 g4 g5 g6 g7
 obtain⟨ap,cp,qz,_⟩:=yd.slice
 obtain⟨ao,co,jw,_⟩:=ud.slice
 subst qz jw
 go_upto_region 5 with fail
 refine yg (fun W=>zO w W/\Bx W w.heap.size 25 [.slice a ms.length cap]/\Bx W (w.heap.size+1) 34 [zI 0,zQ,zQ,zI 0,zQ,zI 0,zQ,zI 0]/\Bx W W3.heap.size 34 [zI c,.slice ap n cp,.slice ao (yG n n).length co,zI 0,zQ,zI 1,zQ,zI 0]/\ym W1.heap.size 2 W (.slice ap n cp) n (ZD (zQ) n)/\zL W1.heap.size W (.slice ao (yG n n).length co) (yG n n)) ?_ ?_
 ·have N:=zR W3 (.cells #[.int .i64 c,.slice ap n cp,.slice ao (yG n n).length co,.int .i64 0,.slice none 0 0,.int .i64 1,.slice none 0 0,.int .i64 0] 34)
  exact⟨B3.trans (N.mono (by omega)),x3.below N,y3.below N,Bx.new _ _ _,yd.below N,ud.below N⟩
 rintro W4 ⟨B4,x4,y4,m4,row4,ord4⟩
 have hW4:W3.heap.size<W4.heap.size:=m4.lt
 have hhi:∀g,(Value.slice ap n cp).ownBlock=some g->W1.heap.size<=g/\g<W3.heap.size:=yd.lt
 have hho:∀g,(Value.slice ao (yG n n).length co).ownBlock=some g->W1.heap.size<=g/\g<W3.heap.size:=ud.lt
 clear x3 y3 B3 yd ud
 obtain⟨gp,op,cp',qz,hgp1,_⟩:=row4.form (by omega)
 injection qz with zcg _ J6
 subst zcg J6
 have hgp2:=(hhi gp rfl).2
 have re:=WW (zQ) n 0 (by omega)
 obtain⟨k1,l1⟩:=row4.cell (j:=1) re.2
 clear re
 obtain⟨hl0,ht0,K0,hte,htn⟩:=YD HFP.out
 obtain⟨b,o,vm,rfl,d0,d1,d2,_⟩:=hc 0 hl0
 have e1:=zc B4 d1
 have hbl:b<w.heap.size:=World.block_lt_of_cell? _ _ d1
 generalize hTe:yr ms=t at *
 generalize ms[0].2.1=tz at *
 subst hte
 have HT:Hid (yr ms=t):=hTe
 clear hTe d0 d1 d2 hc
 obtain⟨i0,hi,jM,xP,vJ⟩:=info_parts Tryz.infoValN
 have hmk:∀w:World,(Instr.makeSlice 32 (zI (t:Int)) (zI (t:Int))).run Tryz.prog w=.ok (zK w.heap.size 0 t t) (w.alloc (.cells (madeCells #[zI 0,zI 0] (t * 2)) 86)):=by
  intro w
  have:=run_make (P:=Tryz.prog) w 32 86 i0 _ Tryz.underlying32 hi jM .i64 .i64 t t (by omega) (Int.le_refl _) (by rw[vJ];omega) (by omega)
  simpa [xP,Value.cells] using this
 clear hi jM xP vJ
 have px:=x4.cell 0 rfl
 have pm:=m4.cell 1 rfl
 have lx:w.heap.size<W4.heap.size:=x4.lt
 have hgp4:gp<W4.heap.size:=by omega
 have hl0z:(0:Int)<(ms.length:Int):=by omega
 have hn0:0<n:=by omega
 have HE:Hid ((fun W=>zO w W/\Bx W (w.heap.size+1) 34 [.int .i64 0,.slice none 0 0,.slice none 0 0,.int .i64 0,.slice none 0 0,.int .i64 0,.slice none 0 0,.int .i64 0]/\Bx W W3.heap.size 34 [.int .i64 c,.slice (some ⟨gp,op,none⟩) n cp,.slice ao (yG n n).length co,.int .i64 0,.slice none 0 0,.int .i64 1,.slice none 0 0,.int .i64 0]/\VV w.heap.size W n t (.slice (some ⟨gp,op,none⟩) n cp) (.slice ao (yG n n).length co) (W4.heap.size+1) (.slice (some ⟨W4.heap.size,0,none⟩) t t) (.slice none 0 0)) ((((W4.setCell (zH gp (op+1)) (.slice (some ⟨W4.heap.size+1,0,none⟩) 1 1)).alloc (.cells (madeCells #[.int .i64 0,.int .i64 0] (t * 2)) 86)).alloc (.cells #[.int .i64 0,.int .i64 0,.int .i64 (-1),.slice (some ⟨W4.heap.size,0,none⟩) t t,.slice none 0 0] 75)).drew)):=by
  show(fun W=>zO w W/\Bx W (w.heap.size+1) 34 [.int .i64 0,.slice none 0 0,.slice none 0 0,.int .i64 0,.slice none 0 0,.int .i64 0,.slice none 0 0,.int .i64 0]/\Bx W W3.heap.size 34 [.int .i64 c,.slice (some ⟨gp,op,none⟩) n cp,.slice ao (yG n n).length co,.int .i64 0,.slice none 0 0,.int .i64 1,.slice none 0 0,.int .i64 0]/\VV w.heap.size W n t (.slice (some ⟨gp,op,none⟩) n cp) (.slice ao (yG n n).length co) (W4.heap.size+1) (.slice (some ⟨W4.heap.size,0,none⟩) t t) (.slice none 0 0)) ((((W4.setCell (zH gp (op+1)) (.slice (some ⟨W4.heap.size+1,0,none⟩) 1 1)).alloc (.cells (madeCells #[.int .i64 0,.int .i64 0] (t * 2)) 86)).alloc (.cells #[.int .i64 0,.int .i64 0,.int .i64 (-1),.slice (some ⟨W4.heap.size,0,none⟩) t t,.slice none 0 0] 75)).drew)
  have HW:Wr (fun k=>k=gp) W4 (W4.setCell (zH gp (op+1)) (zK (W4.heap.size+1) 0 1 1)):=(Wr.refl1 gp W4).set1 (o:=op+1) _
  have r5:=row4.set 1 (zK (W4.heap.size+1) 0 1 1)
  have hre:(ZD (zQ) n).set 1 (zK (W4.heap.size+1) 0 1 1)=zI (-1) :: zK (W4.heap.size+1) 0 1 1 :: ZD (zQ) (n - 1):=by
   obtain⟨q,rfl⟩:∃q,n=q+1:=⟨n - 1,by omega⟩
   simp[ZD,List.replicate_succ]
  rw[hre] at r5
  have ts:=Vd (B:=w.heap.size) (W4.setCell (zH gp (op+1)) (zK (W4.heap.size+1) 0 1 1)) t 86 (by rw[World.size_setCell];exact B4.size) (by omega)
  rw[World.size_setCell] at ts
  have N5:Below (W4.setCell (zH gp (op+1)) (.slice (some ⟨W4.heap.size+1,0,none⟩) 1 1)).heap.size (W4.setCell (zH gp (op+1)) (.slice (some ⟨W4.heap.size+1,0,none⟩) 1 1)) ((((W4.setCell (zH gp (op+1)) (.slice (some ⟨W4.heap.size+1,0,none⟩) 1 1)).alloc (.cells (madeCells #[.int .i64 0,.int .i64 0] (t * 2)) 86)).alloc (.cells #[.int .i64 0,.int .i64 0,.int .i64 (-1),.slice (some ⟨W4.heap.size,0,none⟩) t t,.slice none 0 0] 75)).drew):=by
   exact((zR _ _).alloc (by rw[World.size_alloc];omega) _).drew
  have hzs:(W4.setCell (zH gp (op+1)) (zK (W4.heap.size+1) 0 1 1)).heap.size=W4.heap.size:=World.size_setCell _ _ _
  have XK:zO w (W4.setCell (zH gp (op+1)) (zK (W4.heap.size+1) 0 1 1)):=HW.below1 B4 zD (by omega)
  refine⟨XK.trans (N5.mono (by rw[hzs];exact B4.size)),(HW.bx y4 (by omega)).below N5,(HW.bx m4 (by omega)).below N5,?_⟩
  refine⟨(r5.below N5).mono (by omega),Bx.newAt _ _ _ (by rw[World.size_alloc,World.size_setCell]),(ts.below (zR _ _)).below zS.drew,zl.nil _ _,((HW.ints ord4 (fun g e e2=>hap gp rfl (e2 ▸ e))).below N5).mono (by omega),by have:=B4.size;omega,fun e=>?_,hap,fun g e e2=>?_,fun e=>?_,fun e=>?_,fun g e e2=>?_,rfl⟩
  ·have h9:gp=W4.heap.size+1:=by injection e
   omega
  ·have h9:gp=g:=by injection e
   have h8:W4.heap.size=g:=by injection e2
   omega
  ·have:=(hho _ e).2
   omega
  ·have h9:W4.heap.size=W4.heap.size+1:=by injection e
   omega
  ·have h8:W4.heap.size=g:=by injection e2
   have:=(hho _ e).2
   omega
 have hho9:∀g,(Value.slice ao (yG n n).length co).ownBlock=some g->W1.heap.size<=g/\g<W3.heap.size:=hho
 clear row4 ord4 hap hhi hho B4
 go_wp2_with fail
 go_region_law (fail)
 all_goals
  refine wG (fun W=>zO w W/\Bx W (w.heap.size+1) 34 [zI 0,zQ,zQ,zI 0,zQ,zI 0,zQ,zI 0]/\Bx W W3.heap.size 34 [zI c,zK gp op n cp,.slice ao (yG n n).length co,zI 0,zQ,zI 1,zQ,zI 0]/\VV w.heap.size W n t (zK gp op n cp) (.slice ao (yG n n).length co) (W4.heap.size+1) (zK W4.heap.size 0 t t) (zQ)) HE.out ?_
  rintro W6 ⟨B6,y6,m6,n6⟩
  obtain⟨⟨r0,r1,r2,r3,r4,r5,r6,r7⟩,⟨g0,g1,g2,g3,g4,g5,g6,g7⟩⟩:=jW y6
  obtain⟨⟨p0,p1,p2,p3,p4,p5,p6,p7⟩,_⟩:=jW m6
  go_wp2
  refine xW (fun W=>zO w W/\Bx W (w.heap.size+1) 34 [zI c,zK gp op n cp,.slice ao (yG n n).length co,zI 0,zQ,zI 1,zQ,zI 0]/\VV w.heap.size W n t (zK gp op n cp) (.slice ao (yG n n).length co) (W4.heap.size+1) (zK W4.heap.size 0 t t) (zQ)) ?_ ?_
  ·have HW:=((((((((Wr.refl1 (w.heap.size+1) W6).set1 (o:=0) (zI c)).set1 (o:=1) (zK gp op n cp)).set1 (o:=2) (.slice ao (yG n n).length co)).set1 (o:=3) (zI 0)).set1 (o:=4) (zQ)).set1 (o:=5) (zI 1)).set1 (o:=6) (zQ)).set1 (o:=7) (zI 0)
   exact⟨HW.below1 B6 zD (Nat.le_succ _),(((((((y6.set 0 _).set 1 _).set 2 _).set 3 _).set 4 _).set 5 _).set 6 _).set 7 _,n6.wr HW (by omega) (by omega) (fun e=>by have:=(hho9 _ e).1;omega) (by omega) (fun e=>by simp[Value.ownBlock] at e)⟩
  rintro W9 ⟨B9,x9,n9⟩
  obtain⟨⟨q0,q1,q2,q3,q4,q5,q6,q7⟩,_⟩:=jW x9
  exact bodyPost_ret (v:=.tuple #[.agg #[zI c,zK gp op n cp,.slice ao (yG n n).length co,zI 0,zQ,zI 1,zQ,zI 0],.bool true]) (by simp[results,Tryz.results13,go_sem,q0,q1,q2,q3,q4,q5,q6,q7]) rfl ⟨B9,.inr ⟨rfl,_,_,_,_,_,rfl,by rw[HT.out,Int.toNat_natCast];exact n9⟩⟩
theorem zbk {α:Type} {l:List α} {i:Nat} {x:α} (h:l[i]?=some x):l.set i x=l:=by
 obtain⟨hi,rfl⟩:=List.getElem?_eq_some_iff.1 h
 exact List.set_getElem_self hi
theorem JB (l:List (Value × Value)) (i:Nat) (h:i<l.length) (b:Value):(cells2 l).set (i * 2+1) b=cells2 (l.set i (l[i].1,b)):=by
 rw[<-wD,zbk (vu l i h).1]
theorem zam (l:List (Value × Value)) (i:Nat) (h:i<l.length) (a:Value):(cells2 l).set (i * 2) a=cells2 (l.set i (a,l[i].2)):=by
 rw[<-wD]
 symm
 apply zbk
 rw[List.getElem?_set_ne (by omega)]
 exact(vu l i h).2
theorem KQ {D:Nat->Nat} {fs:List jV} {k:Nat} (h:k<fs.length):(yk D fs)[k]'(by simpa [yk] using h)=(zJ (D fs[k].body) 0,zI fs[k].twin):=by simp[yk]
section
variable {B:Nat} {P:Lay} {ρ ρ1:Nat->Rl} {w W1 W:World}
theorem yj.setPage2 (h:yj B ρ w P) {i:Nat} (hi:i<P.L.za.length) (c1:Ch (fun r=>r=.zg i) ρ ρ1 w W1) {p:ws} {vf:Value} (hf:ym B 2 W1 vf p.zg.length (cells2 (yk P.D p.zg))) (hfg:∀g,vf.ownBlock=some g->ρ1 g=.zg i)
 {gp op cp:Nat} (hp:P.vp=zK gp op P.L.za.length cp)
 (hW:ym B 2 W (zK gp op P.L.za.length cp) P.L.za.length (cells2 ((qA P.F P.L.za).set i (zI p.base,vf)))) (hg:W1.grownBy W (some gp)) :
 yj B (zv ρ1 W1 .other) W {P with F:=fun k=>if k=i then vf else P.F k,L:={P.L with za:=P.L.za.set i p}}:=by
 have ze2:gp<w.heap.size:=((h .za).1.lt gp (by rw[hp];rfl)).2
 have hρ:ρ1 gp=.za:=(c1.role gp ze2).trans ((h .za).2 gp (by rw[hp];rfl))
 have c2:Ch (fun r=>r=.za) ρ1 (zv ρ1 W1 .other) W1 W:=Ch.grown hg ρ1 .other fun g e=>by cases e;exact hρ
 have c:Ch (fun r=>r=.za\/r=.zg i) ρ (zv ρ1 W1 .other) w W:=(c1.mono fun _ e=>.inr e).trans (c2.mono fun _ e=>.inl e)
 have hl:(P.L.za.set i p).length=P.L.za.length:=List.length_set
 have hpp:(qA P.F P.L.za).set i (zI p.base,vf)=qA (fun k=>if k=i then vf else P.F k) (P.L.za.set i p):=by
  refine List.ext_getElem (by rw[List.length_set,yS,yS,hl]) fun j h1 h2=>?_
  have hj:j<P.L.za.length:=by rw[List.length_set,yS] at h1;exact h1
  rw[jn (by rw[hl];exact hj)]
  by_cases e:i=j
  ·subst e;simp
  ·rw[List.getElem_set_ne e,jn hj]
   simp[Ne.symm e,e]
 intro r
 cases r with
 | other=>trivial
 | za =>
  refine⟨?_,fun g e=>(c.role g (((h .za).1.lt g e).2)).trans ((h .za).2 g e)⟩
  show ym B 2 W P.vp (P.L.za.set i p).length _
  rw[hl,hp,<-hpp]
  exact hW
 | zg k =>
  intro hk
  have hk':k<P.L.za.length:=by rw[<-hl];exact hk
  by_cases e:k=i
  ·subst e
   show ym B 2 W (if k=k then vf else P.F k) (P.L.za.set k p)[k].zg.length (cells2 (yk P.D (P.L.za.set k p)[k].zg))/\∀g,(if k=k then vf else P.F k).ownBlock=some g->_
   rw[if_pos rfl,List.getElem_set_self]
   exact⟨hf.kept c2.size fun g e=>c2.blk g (hf.lt g e).2 (by rw[hfg g e];simp),fun g e=>(c2.role g (hf.lt g e).2).trans (hfg g e)⟩
  ·have:=(Lay.it_keep (P:=P) (h (.zg k)) c (by simp[e])) hk'
   show ym B 2 W (if k=i then vf else P.F k) (P.L.za.set i p)[k].zg.length (cells2 (yk P.D (P.L.za.set i p)[k].zg))/\∀g,(if k=i then vf else P.F k).ownBlock=some g->_
   rw[if_neg e,List.getElem_set_ne (Ne.symm e)]
   exact this
 | live=>exact Lay.it_keep (P:=P) (r:=.live) (h .live) c (by simp)
 | order=>exact Lay.it_keep (P:=P) (r:=.order) (h .order) c (by simp)
 | zd=>exact Lay.it_keep (P:=P) (r:=.zd) (h .zd) c (by simp)
 | body k=>exact Lay.it_keep (P:=P) (r:=(.body k)) (h (.body k)) c (by simp)
 | zh k=>exact Lay.it_keep (P:=P) (r:=(.zh k)) (h (.zh k)) c (by simp)
 | zf k=>exact Lay.it_keep (P:=P) (r:=(.zf k)) (h (.zf k)) c (by simp)
theorem qM (w:World) (g o:Nat) (v:Value):w.grownBy (w.setCell (zH g o) v) (some g) :=
 ⟨rfl,rfl,rfl,by simp only[World.size_setCell];exact Nat.le_refl _,fun k _ xp=>Below.heap_setCell _ _ _ _ fun e=>xp (by rw[e])⟩
theorem yj.setBase (h:yj B ρ w P) {i:Nat} (hi:i<P.L.za.length) {gp op cp:Nat} (hp:P.vp=zK gp op P.L.za.length cp) (x:Int) :
 yj B (zv ρ w .other) (w.setCell (zH gp (op+i * 2)) (zI x)) {P with F:=fun k=>if k=i then P.F i else P.F k,L:={P.L with za:=P.L.za.set i ⟨x,P.L.za[i].zg⟩}}:=by
 have hr:ym B 2 w P.vp P.L.za.length (cells2 (qA P.F P.L.za)):=(h .za).1
 rw[hp] at hr
 have hs:=hr.set (i * 2) (zI x)
 rw[zam _ _ (by rw[yS];exact hi),jn hi] at hs
 exact h.setPage2 hi (Ch.refl _ _ _) (p:=⟨x,P.L.za[i].zg⟩) ((h (.zg i)) hi).1 ((h (.zg i)) hi).2 hp hs (qM _ _ _ _)
theorem yj.setFrames (h:yj B ρ w P) {i:Nat} (hi:i<P.L.za.length) (c1:Ch (fun r=>r=.zg i) ρ ρ1 w W1) {fs:List jV} {vf:Value} (hf:ym B 2 W1 vf fs.length (cells2 (yk P.D fs))) (hfg:∀g,vf.ownBlock=some g->ρ1 g=.zg i)
 {gp op cp:Nat} (hp:P.vp=zK gp op P.L.za.length cp) :
 yj B (zv ρ1 W1 .other) (W1.setCell (zH gp (op+i * 2+1)) vf) {P with F:=fun k=>if k=i then vf else P.F k,L:={P.L with za:=P.L.za.set i ⟨P.L.za[i].base,fs⟩}}:=by
 have hr:ym B 2 W1 P.vp P.L.za.length (cells2 (qA P.F P.L.za)):=(Lay.it_keep (P:=P) (h .za) c1 (by simp)).1
 rw[hp] at hr
 have hs:=hr.set (i * 2+1) vf
 rw[JB _ _ (by rw[yS];exact hi),jn hi,<-Nat.add_assoc] at hs
 exact h.setPage2 hi c1 (p:=⟨P.L.za[i].base,fs⟩) hf hfg hp hs (qM _ _ _ _)
theorem yj.setFr (h:yj B ρ w P) {i k:Nat} {f:jV} (hf:P.L.fr i k=some f) {gf of n cf:Nat} (hF:P.F i=zK gf of n cf) (x:Int) :
 yj B ρ (w.setCell (zH gf (of+k * 2+1)) (zI x)) {P with L:=P.L.setFr i k ⟨f.body,x⟩}:=by
 obtain⟨hi,hk,hfe⟩:=yw.fr_some hf
 have hr:ym B 2 w (P.F i) P.L.za[i].zg.length (cells2 (yk P.D P.L.za[i].zg)):=((h (.zg i)) hi).1
 have hg:=((h (.zg i)) hi).2
 have hρ:ρ gf=.zg i:=hg gf (by rw[hF];rfl)
 have c:Ch (fun r=>r=.zg i) ρ ρ w (w.setCell (zH gf (of+k * 2+1)) (zI x)):=Ch.set w ρ _ _ _ hρ
 have hgd:P.L.za.getD i ⟨-1,[]⟩=P.L.za[i]:=by simp[hi]
 have hL:P.L.setFr i k ⟨f.body,x⟩={P.L with za:=P.L.za.set i ⟨P.L.za[i].base,P.L.za[i].zg.set k ⟨f.body,x⟩⟩}:=by unfold yw.setFr;rw[hgd]
 rw[hL]
 have hl:(P.L.za.set i ⟨P.L.za[i].base,P.L.za[i].zg.set k ⟨f.body,x⟩⟩).length=P.L.za.length:=List.length_set
 intro r
 cases r with
 | other=>trivial
 | za =>
  have h1:=Lay.it_keep (P:=P) (h .za) c (by simp)
  refine⟨?_,h1.2⟩
  show ym B 2 _ P.vp (P.L.za.set i _).length (cells2 (qA P.F (P.L.za.set i _)))
  rw[hl]
  have e:qA P.F (P.L.za.set i ⟨P.L.za[i].base,P.L.za[i].zg.set k ⟨f.body,x⟩⟩)=qA P.F P.L.za:=by
   refine List.ext_getElem (by rw[yS,yS,hl]) fun j h1 h2=>?_
   have hj:j<P.L.za.length:=by rw[yS] at h2;exact h2
   rw[jn (by rw[hl];exact hj),jn hj]
   by_cases e:i=j
   ·subst e;rw[List.getElem_set_self]
   ·rw[List.getElem_set_ne e]
  rw[e]
  exact h1.1
 | zg q =>
  intro hq
  have hq':q<P.L.za.length:=by rw[<-hl];exact hq
  by_cases e:q=i
  ·subst e
   show ym B 2 _ (P.F q) (P.L.za.set q _)[q].zg.length (cells2 (yk P.D (P.L.za.set q _)[q].zg))/\_
   rw[List.getElem_set_self]
   refine⟨?_,hg⟩
   show ym B 2 _ (P.F q) (P.L.za[q].zg.set k ⟨f.body,x⟩).length (cells2 (yk P.D (P.L.za[q].zg.set k ⟨f.body,x⟩)))
   rw[List.length_set]
   have hfl:k<(yk P.D P.L.za[q].zg).length:=by unfold yk;simpa using hk
   rw[hF] at hr ⊢
   have hs:=hr.set (k * 2+1) (zI x)
   rw[JB _ _ hfl,<-Nat.add_assoc] at hs
   have e0:(yk P.D P.L.za[q].zg)[k].1=zJ (P.D f.body) 0:=by
    rw[KQ hk,hfe]
   have e:(yk P.D P.L.za[q].zg).set k ((yk P.D P.L.za[q].zg)[k].1,zI x)=yk P.D (P.L.za[q].zg.set k ⟨f.body,x⟩):=by
    rw[e0]
    unfold yk
    rw[List.map_set]
   rw[e] at hs
   exact hs
  ·have:=(Lay.it_keep (P:=P) (h (.zg q)) c (by simp[e])) hq'
   show ym B 2 _ (P.F q) (P.L.za.set i _)[q].zg.length (cells2 (yk P.D (P.L.za.set i _)[q].zg))/\_
   rw[List.getElem_set_ne (Ne.symm e)]
   exact this
 | live=>exact Lay.it_keep (P:=P) (r:=.live) (h .live) c (by simp)
 | order=>exact Lay.it_keep (P:=P) (r:=.order) (h .order) c (by simp)
 | zd=>exact Lay.it_keep (P:=P) (r:=.zd) (h .zd) c (by simp)
 | body k=>exact Lay.it_keep (P:=P) (r:=(.body k)) (h (.body k)) c (by simp)
 | zh k=>exact Lay.it_keep (P:=P) (r:=(.zh k)) (h (.zh k)) c (by simp)
 | zf k=>exact Lay.it_keep (P:=P) (r:=(.zf k)) (h (.zf k)) c (by simp)
theorem yj.setBody (h:yj B ρ w P) {k:Nat} (hk:k<P.L.zj.length) (c:Ch (fun r=>r=.body k\/r=.zh k\/r=.zf k) ρ ρ1 w W) {b:jg} {vt vs:Value} (hx:Bx W (P.D k) 186 (xA (vt,vs) b))
 (ht:zl B W vt b.zh) (hs:zl B W vs b.zf) (hgt:∀g,vt.ownBlock=some g->ρ1 g=.zh k) (hgs:∀g,vs.ownBlock=some g->ρ1 g=.zf k) :
 yj B ρ1 W {P with T:=fun q=>if q=k then(vt,vs) else P.T q,L:={P.L with zj:=P.L.zj.set k b}}:=by
 have hl:(P.L.zj.set k b).length=P.L.zj.length:=List.length_set
 have hbk:=(h (.body k)) hk
 intro r
 cases r with
 | other=>trivial
 | live=>exact Lay.it_keep (P:=P) (r:=.live) (h .live) c (by simp)
 | za=>exact Lay.it_keep (P:=P) (r:=.za) (h .za) c (by simp)
 | zg i=>exact Lay.it_keep (P:=P) (r:=(.zg i)) (h (.zg i)) c (by simp)
 | order=>exact Lay.it_keep (P:=P) (r:=.order) (h .order) c (by simp)
 | zd=>exact Lay.it_keep (P:=P) (r:=.zd) (h .zd) c (by simp)
 | body q =>
  intro hq
  have hq':q<P.L.zj.length:=by rw[<-hl];exact hq
  by_cases e:q=k
  ·subst e
   show Bx W (P.D q) _ (xA (if q=q then(vt,vs) else P.T q) (P.L.zj.set q b)[q])/\_
   rw[if_pos rfl,List.getElem_set_self]
   exact⟨hx,(c.role _ hbk.1.lt).trans hbk.2.1,hbk.2.2⟩
  ·have:=(Lay.it_keep (P:=P) (h (.body q)) c (by simp[e])) hq'
   show Bx W (P.D q) _ (xA (if q=k then(vt,vs) else P.T q) (P.L.zj.set k b)[q])/\_
   rw[if_neg e,List.getElem_set_ne (Ne.symm e)]
   exact this
 | zh q =>
  intro hq
  have hq':q<P.L.zj.length:=by rw[<-hl];exact hq
  by_cases e:q=k
  ·subst e
   show zl B W (if q=q then(vt,vs) else P.T q).1 (P.L.zj.set q b)[q].zh/\∀g,(if q=q then(vt,vs) else P.T q).1.ownBlock=some g->_
   rw[if_pos rfl,List.getElem_set_self]
   exact⟨ht,hgt⟩
  ·have:=(Lay.it_keep (P:=P) (h (.zh q)) c (by simp[e])) hq'
   show zl B W (if q=k then(vt,vs) else P.T q).1 (P.L.zj.set k b)[q].zh/\∀g,(if q=k then(vt,vs) else P.T q).1.ownBlock=some g->_
   rw[if_neg e,List.getElem_set_ne (Ne.symm e)]
   exact this
 | zf q =>
  intro hq
  have hq':q<P.L.zj.length:=by rw[<-hl];exact hq
  by_cases e:q=k
  ·subst e
   show zl B W (if q=q then(vt,vs) else P.T q).2 (P.L.zj.set q b)[q].zf/\∀g,(if q=q then(vt,vs) else P.T q).2.ownBlock=some g->_
   rw[if_pos rfl,List.getElem_set_self]
   exact⟨hs,hgs⟩
  ·have:=(Lay.it_keep (P:=P) (h (.zf q)) c (by simp[e])) hq'
   show zl B W (if q=k then(vt,vs) else P.T q).2 (P.L.zj.set k b)[q].zf/\∀g,(if q=k then(vt,vs) else P.T q).2.ownBlock=some g->_
   rw[if_neg e,List.getElem_set_ne (Ne.symm e)]
   exact this
end
def J1 (B:Nat) (w:World) (v:Value) (cs:List Cl):Prop :=
 ∃L:List (Cl × Value × Value),L.map (·.1)=cs/\qX B w v L/\∀i,(hi:i<L.length) ->
  zl B w L[i].2.1 L[i].1.zh/\zl B w L[i].2.2 L[i].1.zf/\(∀g,L[i].2.1.ownBlock=some g->v.ownBlock≠some g)/\(∀g,L[i].2.2.ownBlock=some g->v.ownBlock≠some g)
theorem J1.nil (B:Nat) (w:World):J1 B w (zQ) []:=⟨[],rfl,qX.nil B w,fun _ hi=>absurd hi yB⟩
theorem J1.lt {B:Nat} {w:World} {v:Value} {cs:List Cl} (h:J1 B w v cs):∀g,v.ownBlock=some g->B<=g/\g<w.heap.size:=by
 obtain⟨L,_,hc,_⟩:=h
 exact hc.lt
theorem J1.slice {B:Nat} {w:World} {v:Value} {cs:List Cl} (h:J1 B w v cs):∃a cap,v=.slice a cs.length cap:=by
 obtain⟨L,rfl,hc,_⟩:=h
 obtain⟨a,cap,e,_⟩:=hc.slice
 exact⟨a,cap,by simpa using e⟩
theorem J1.kept {B:Nat} {w w':World} {v:Value} {cs:List Cl} (h:J1 B w v cs) (hs:w.heap.size<=w'.heap.size) (hb:∀g,B<=g->g<w.heap.size->w'.heap[g]?=w.heap[g]?):J1 B w' v cs:=by
 obtain⟨L,hL,hc,hr⟩:=h
 refine⟨L,hL,hc.kept hs fun g e=>hb g (hc.lt g e).1 (hc.lt g e).2,fun i hi=>?_⟩
 obtain⟨h1,h2,h3,h4⟩:=hr i hi
 exact⟨h1.kept hs fun g e=>hb g (h1.lt g e).1 (h1.lt g e).2,h2.kept hs fun g e=>hb g (h2.lt g e).1 (h2.lt g e).2,h3,h4⟩
theorem J1.below {B:Nat} {w w':World} {v:Value} {cs:List Cl} (h:J1 B w v cs) (hb:zO w w'):J1 B w' v cs:=h.kept hb.size fun g _ h2=>hb.block g h2
theorem J1.wr {B k:Nat} {w w':World} {v:Value} {cs:List Cl} (h:J1 B w v cs) (hw:Wr (fun g=>g=k) w w') (hk:k<B):J1 B w' v cs:=h.kept hw.size fun g h1 h2=>hw.block g h2 (by omega)
theorem J1.mono {B B':Nat} {w:World} {v:Value} {cs:List Cl} (h:J1 B w v cs) (hB:B'<=B):J1 B' w v cs:=by
 obtain⟨L,hL,hc,hr⟩:=h
 exact⟨L,hL,ym.mono hc hB,fun i hi=>⟨(hr i hi).1.mono hB,(hr i hi).2.1.mono hB,(hr i hi).2.2⟩⟩
theorem J1.at {B:Nat} {w:World} {v:Value} {cs:List Cl} (h:J1 B w v cs):xz w v cs:=by
 obtain⟨L,rfl,hc,hr⟩:=h
 exact hc.at fun i hi=>⟨(hr i hi).1.at,(hr i hi).2.1.at⟩
theorem zcL {ty:TypeId} {B:Nat} {w:World} {v:Value} {cs:List Cl} (h:J1 B w v cs) (c:Cl) (u1 u2:Value) (h1:zl B w u1 c.zh) (h2:zl B w u2 c.zf)
 (a1:∀g,u1.ownBlock=some g->v.ownBlock≠some g) (a2:∀g,u2.ownBlock=some g->v.ownBlock≠some g) (H k:Nat)
 (hx:∀j u,([zI c.m,zI c.pc,u1,u2,zI c.zi,.bool c.zy]:List Value)[j]?=some u->w.cell? (zH H j)=some u) (hL:cs.length<=900000) (hB:B<=w.heap.size) :
 ∃a' c' w',(Builtin.append_ #[39,39] ty #[v,zK H 0 1 k]).run Tryz.prog w=.ok (.slice a' (cs.length+1) c') w'/\J1 B w' (.slice a' (cs.length+1) c') (cs ++ [c])/\w.grownBy w' v.ownBlock:=by
 obtain⟨L,rfl,hc,hr⟩:=h
 obtain⟨b1,k1,e1,_⟩:=h1.slice
 obtain⟨b2,k2,e2,_⟩:=h2.slice
 obtain⟨v',w',hrun,yd,hg,ho⟩:=Yk (ty:=ty) hc (c,u1,u2) (by rw[e1];rfl) (by rw[e2];rfl) H k hx (by simpa using hL) hB
 obtain⟨a',c',e',_⟩:=yd.slice
 have el:v'=.slice a' ((L.map (·.1)).length+1) c':=by simpa using e'
 rw[el] at hrun yd ho
 have hap:∀(g:Nat) (u:Value),u.ownBlock=some g->g<w.heap.size->v.ownBlock≠some g->(Value.slice a' ((L.map (·.1)).length+1) c').ownBlock≠some g:=fun g u _ hl hn e=>by
  rcases ho with h | h
  ·exact hn (by rw[<-h];exact e)
  ·rw[h] at e
   injection e with e
   omega
 refine⟨a',c',w',hrun,⟨L ++ [(c,u1,u2)],by simp,yd,fun i hi=>?_⟩,hg⟩
 have kk:∀(xs:yH) (u:Value),zl B w u xs->(∀g,u.ownBlock=some g->v.ownBlock≠some g)->zl B w' u xs:=fun xs u hp hn=>hp.kept hg.size fun g e=>hg.block g (hp.lt g e).2 fun e2=>hn g e e2.symm
 rcases Nat.lt_or_ge i L.length with yt | hge
 ·obtain⟨p1,p2,p3,p4⟩:=hr i yt
  rw[List.getElem_append_left yt]
  exact⟨kk _ _ p1 p3,kk _ _ p2 p4,fun g e=>hap g _ e (p1.lt g e).2 (p3 g e),fun g e=>hap g _ e (p2.lt g e).2 (p4 g e)⟩
 ·have:i=L.length:=by simp at hi;omega
  subst this
  simp only[List.getElem_append_right zD,Nat.sub_self,List.getElem_cons_zero]
  exact⟨kk _ _ h1 a1,kk _ _ h2 a2,fun g e=>hap g _ e (h1.lt g e).2 (a1 g e),fun g e=>hap g _ e (h2.lt g e).2 (a2 g e)⟩
def qJ (m:Mc) (i k:Nat):List Cl:=(List.range k).map fun q=>j8 m i q (frAt m (i:Int) (q:Int))
def yR (m:Mc) (i:Nat):List Cl:=(List.range i).flatMap fun j=>qJ m j (pgAt m (j:Int)).zg.length
def qV (m:Mc) (k:Nat):List Cl:=(List.range k).map fun q:Nat=>xl m (uU m (q:Int))
def yQ (m:Mc):Hp:=⟨yR m m.za.length ++ qV m m.zd.length,kF m,0,[],0⟩
theorem Uk (m:Mc) (i k:Nat):qJ m i (k+1)=qJ m i k ++ [j8 m i k (frAt m (i:Int) (k:Int))]:=by simp[qJ,List.range_succ]
theorem ZA (m:Mc) (i:Nat):yR m (i+1)=yR m i ++ qJ m i (pgAt m (i:Int)).zg.length:=by simp[yR,List.range_succ]
theorem Ur (m:Mc) (k:Nat):qV m (k+1)=qV m k ++ [xl m (uU m (k:Int))]:=by simp[qV,List.range_succ]
theorem wd (m:Mc) (i k:Nat):(qJ m i k).length=k:=by simp[qJ]
theorem ki (m:Mc) (k:Nat):(qV m k).length=k:=by simp[qV]
theorem qY {m:Mc}:∀{i:Nat},i<=m.za.length->(yR m i).length=qc m.za i
 | 0,_=>by simp[yR,uH]
 | i+1,h=>by rw[ZA,List.length_append,qY (Nat.le_of_succ_le h),wd,kE (show i<m.za.length by omega),xB (show i<m.za.length by omega)]
structure zdm (m:Mc):Prop where
 fr:∀i k,(hi:i<m.za.length)->(hk:k<m.za[i].zg.length)->(m.za[i].zg[k].zh.length<=1000/\m.za[i].zg[k].zf.length<=1000) /\
  (∀q,(hq:q<m.za[i].zg[k].zh.length)->m.za[i].zg[k].zh[q].1=2->qU m m.za[i].zg[k].zh[q].2=true)/\(∀q,(hq:q<m.za[i].zg[k].zf.length)->m.za[i].zg[k].zf[q].1=2->qU m m.za[i].zg[k].zf[q].2=true)
 bs:∀i,(hi:i<m.za.length)->(m.za[i].base == -1 || qU m m.za[i].base)=true
 tw:∀j,(hj:j<m.zd.length)->(m.zd[j].left.zh.length<=1000/\m.zd[j].left.zf.length<=1000)/\(m.zd[j].page=-1->(m.zd[j].left.zi == -1 || qU m m.zd[j].left.zi)=true /\
  (∀i,(hi:i<m.zd[j].left.zh.length)->m.zd[j].left.zh[i].1=2->(m.zd[j].left.zh[i].2 == -1 || qU m m.zd[j].left.zh[i].2)=true)/\(∀i,(hi:i<m.zd[j].left.zf.length)->m.zd[j].left.zf[i].1=2->(m.zd[j].left.zf[i].2 == -1 || qU m m.zd[j].left.zf[i].2)=true))
end Go.Proofs.YtbjgjjkgfnfejaaGreatDoor
