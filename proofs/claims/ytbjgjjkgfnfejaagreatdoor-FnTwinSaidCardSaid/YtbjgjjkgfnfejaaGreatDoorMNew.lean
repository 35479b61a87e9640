/-
  The first call of a program on pages: emptyPages and MachNew of the program, MachNew of the model.
-/
import Derived.Test.YtbjgjjkgfnfejaaGreatDoorMRow
import Derived.Test.YtbjgjjkgfnfejaaGreatDoorMThing4
namespace Go.Proofs.YtbjgjjkgfnfejaaGreatDoor
set_option maxHeartbeats 4000000
set_option maxRecDepth 100000
open Go.RowKit
theorem VK {P:Program} {o:Oper} {y:Nat->Option Bool} {a:Act} {w w':World} {v:Value} {K:Act->World->Prop} {Q:Exit->Act->World->Prop} {E:Prop} (hg:Region.wanted o y=true) (hr:(execOp a.eval o).run P w=.ok (.value v) w') (hK:K (a.put o.dst v) w') :
 if Region.wanted o y=true then Oper.wp P o a w K Q else E:=by
 rw[if_pos hg]
 unfold Oper.wp
 rw[hr]
 exact hK
theorem uH {P:Program} {t:TypeId} {o:Oper} {act:Act} {w w':World} {s x:Operand} {v xv v':Value} (ho:o.op=.call {callee:=.builtin .append,args:=#[s,x],argTypes:=#[t,t]}) (hs:act.eval s=v) (hx:act.eval x=xv)
 (hr:(Builtin.append_ #[t,t] o.type #[v,xv]).run P w=.ok v' w'):(execOp act.eval o).run P w=.ok (.value v') w':=by
 unfold execOp
 simp only[ho,resolve,invoke,builtin,Sem.run_bind,Sem.run_pure,Result.andThen_ok,List.map_toArray,List.map_cons,List.map_nil,hs,hx,hr]
def yK (n k:Nat):List Int:=(List.range k).map fun i=>(((i+1) % n:Nat):Int)
theorem KC (n k:Nat):yK n (k+1)=yK n k ++ [(((k+1) % n:Nat):Int)]:=by simp[yK,List.range_succ]
theorem kU (n k:Nat):(yK n k).length=k:=by simp[yK]
def Zu (vf:Value) (k:Nat):List Value:=(List.replicate k [Value.int .i64 (-1),vf]).flatten
theorem V8 (vf:Value) (k:Nat):Zu vf (k+1)=Zu vf k ++ [zI (-1),vf]:=by simp[Zu,List.replicate_succ']
theorem UU (vf:Value):∀(k i:Nat),i<k->(Zu vf k)[i * 2]?=some (zI (-1))/\(Zu vf k)[i * 2+1]?=some vf
 | 0,i,h=>absurd h yB
 | k+1,i,h=>by
  cases i with
  | zero=>simp[Zu,List.replicate_succ]
  | succ i =>
   have ih:=UU vf k i (by omega)
   have e:Zu vf (k+1)=zI (-1) :: vf :: Zu vf k:=by simp[Zu,List.replicate_succ]
   rw[e,show(i+1) * 2=i * 2+1+1 by omega]
   exact ih
theorem Tryz.infoPageN:(Tryz.prog.info? 78).map (fun i=>(i.zero,i.size,i.bytes))=some (some (.agg #[zI 0,zQ]),2,32):=by kernel_rfl
theorem Tryz.infoIntN:(Tryz.prog.info? 3).map (fun i=>(i.zero,i.size,i.bytes))=some (some (zI 0),1,8):=by kernel_rfl
theorem Kb (n:Nat) (c:Int) (w:World) (hn:n<=1000) :
 Calls Tryz.prog 40 #[zI (n:Int),zI c] w fun e w'=>∃vp vo,e=.returned (.agg #[zI c,vp,vo,zI (-1),zQ,zI 0,zQ,zI 0]) /\
  yg w.heap.size 2 w' vp n (Zu (zQ) n)/\yf w.heap.size w' vo (yK n n)/\(∀g,vp.ownBlock=some g->vo.ownBlock≠some g)/\zO w w':=by
 obtain⟨i0,hi,jT,xF,kf⟩:=info_parts Tryz.infoPageN
 obtain⟨j0,ji,jz0,jz1,jz2⟩:=info_parts Tryz.infoIntN
 go_enter Tryz.func40,Tryz.ntmps40
 go_upto_region 2 with fail
 refine ym (fun W=>zO w W/\Bx W w.heap.size 34 [zI 0,zQ,zQ,zI 0,zQ,zI 0,zQ,zI 0]
  /\ Bx W (w.heap.size+1) 34 [.int .i64 c,.slice none 0 0,.slice none 0 0,.int .i64 (-1),.slice none 0 0,.int .i64 0,.slice none 0 0,.int .i64 0]/\w.heap.size+1+1=W.heap.size) ⟨(zR _ _).alloc (by simp) _,(Bx.new w _ _).alloc _,Bx.newAt _ _ _ (by simp),by simp⟩ ?_
 rintro W ⟨hb,hr,hx,hW⟩
 have hW2:w.heap.size+1<W.heap.size:=by omega
 clear hW
 go_wp2_with fail
 go_loopg [6,10] n (fun d _ i wr=>∃(k:Nat) (vp vo:Value),k<=n/\d=n - k/\i=zI (k:Int)/\yg W.heap.size 2 wr vp k (Zu (zQ) k)/\yf W.heap.size wr vo (yK n k)/\(∀g,vp.ownBlock=some g->vo.ownBlock≠some g)/\zO w wr/\W.heap.size<=wr.heap.size
  /\ Bx wr w.heap.size 34 [zI 0,zQ,zQ,zI 0,zQ,zI 0,zQ,zI 0]
  /\ Bx wr (w.heap.size+1) 34 [zI c,vp,vo,zI (-1),zQ,zI 0,zQ,zI 0])
 case atStart=>exact⟨0,zQ,zQ,Nat.zero_le _,rfl,rfl,yg.nil _ _ _,yf.nil _ _,fun g e=>by simp[Value.ownBlock] at e,hb,Nat.le_refl _,hr,hx⟩
 case round =>
  clear hb hr hx
  obtain⟨k,vp,vo,hk,rfl,rfl,zT,vN,hap,hb,hz,hr,hx⟩:=hrel
  obtain⟨ap,cp,qI,_⟩:=zT.slice
  obtain⟨ao,co,j5,_⟩:=vN.slice
  subst qI j5
  by_cases yz:k<n
  ·have uW:(k:Int)<(n:Int):=by omega
   have N1:=zR wr (.cells #[.int .i64 (-1),.slice none 0 0] 78)
   have y1:=Bx.new wr 78 [.int .i64 (-1),.slice none 0 0]
   have r1:=zT.below N1
   have x1:=hx.below N1
   have z1:=N1.size
   obtain⟨⟨_,p1,p2,_,_,_,_,_⟩,⟨_,f1,f2,_,_,_,_,_⟩⟩:=uk hx
   have hhi:∀g,(Value.slice ap k cp).ownBlock=some g->W.heap.size<=g/\g<wr.heap.size:=zT.lt
   have hho:∀g,(Value.slice ao (yK n k).length co).ownBlock=some g->W.heap.size<=g/\g<wr.heap.size:=vN.lt
   go_upto_region 6 with(at_builtin;refine VA Tryz.underlying29 hi jT xF rfl (by rw[kf];omega) _ (by rfl) _ _ (by rfl) _ k _ [zI (-1),zQ] (by rfl) wr.heap.size 1 (by rfl) r1 rfl (fun u hu=>by simp at hu;rcases hu with rfl | rfl <;> rfl) (fun j u hu=>y1.cell j hu) (by omega) (by omega) ?_;intro v2 w2 yN qA Xz;have wk:=x1.grown qA (fun e=>by have:=(hhi _ e).1;omega);have x8':=wk.cell 1 rfl;have f8':=wk.frozen 1;obtain⟨a2,c2,hv2,_⟩:=yN.slice;subst hv2)
   have hs2:W.heap.size<=w2.heap.size:=by have:=qA.size;omega
   have o1:=vN.below N1
   have Xx:∀g,(Value.slice a2 (k+1) c2).ownBlock=some g->W.heap.size<=g/\(Value.slice ao (yK n k).length co).ownBlock≠some g:=fun g e=>by
    refine⟨(yN.lt g e).1,fun e2=>?_⟩
    rcases Xz with h | h
    ·exact hap g (h ▸ e) e2
    ·rw[h] at e
     injection e with e
     have:=(hho g e2).2
     omega
   refine ym (fun W'=>zO w W'/\yg W.heap.size 2 W' (.slice a2 (k+1) c2) (k+1) (Zu (zQ) (k+1))/\yf W.heap.size W' (.slice ao (yK n k).length co) (yK n k)/\W.heap.size<=W'.heap.size
    /\ Bx W' w.heap.size 34 [zI 0,zQ,zQ,zI 0,zQ,zI 0,zQ,zI 0]/\Bx W' (w.heap.size+1) 34 [zI c,.slice a2 (k+1) c2,.slice ao (yK n k).length co,zI (-1),zQ,zI 0,zQ,zI 0]) ?_ ?_
   ·have HW:=(Wr.refl1 (w.heap.size+1) w2).set1 (o:=1) (.slice a2 (k+1) c2)
    have hbz:=hb.size
    exact⟨HW.below1 ((hb.trans (N1.mono hbz)).grown qA (by omega) (fun q e=>by have:=(hhi _ e).1;omega)) zD (Nat.le_succ _),by rw[V8];exact yN.wr HW (fun g e e2=>by have:=(Xx g e).1;omega),HW.ints (o1.grown qA (fun g e e2=>hap g e2 e)) (fun g e e2=>by have:=(hho g e).1;omega),by rw[World.size_setCell];exact hs2,HW.bx ((hr.below N1).grown qA (fun e=>by have:=(hhi _ e).1;omega)) (by omega),wk.set 1 _⟩
   clear wk x8' f8' yN qA Xz o1 hs2 hhi p1 p2 f1 f2 z1 x1 r1 y1 N1 hx hr hz hb zT vN hap
   rintro w3 ⟨hb,zT,vN,hz,hr,hx⟩
   obtain⟨L,hL⟩:∃L,yK n k=L:=⟨_,rfl⟩
   have HLS:Hid (yK n (k+1)=L ++ [(((k+1) % n:Nat):Int)]):=by show _=_;rw[<-hL];exact KC _ _
   have hll:L.length+1<=3000000:=by rw[<-hL,kU];omega
   rw[hL] at vN hx Xx hho
   clear hL
   obtain⟨q,hq⟩:∃q,(k+1) % n=q:=⟨_,rfl⟩
   have hqt:((k:Int)+1).tmod (n:Int)=(q:Int):=by rw[<-hq];exact_mod_cast (Int.ofNat_tmod (k+1) n).symm
   rw[hq] at HLS
   obtain⟨⟨_,_,p2,_,_,_,_,_⟩,⟨_,_,f2,_,_,_,_,_⟩⟩:=uk hx
   have N1:zO w3 (w3.alloc (.cells #[.int .i64 (q:Int)] 3)).drew:=(zR _ _).drew
   have hnew:∀j,(hj:j < [(q:Int)].length)->(w3.alloc (.cells #[.int .i64 (q:Int)] 3)).drew.cell? ((⟨w3.heap.size,0,none⟩:Addr).add j)=some (.int .i64 [(q:Int)][j]):=fun j hj=>by
    obtain rfl:j=0:=by simpa using hj
    simp[go_sem,Addr.add]
   obtain⟨g4,o4,c4,w4,zdX,yU,wj,zdV⟩:=uA (P:=Tryz.prog) (ty:=30) Tryz.underlying30 ji jz0 jz1 jz2 (vN.below N1) ⟨w3.heap.size,0,none⟩ 1 1 [(q:Int)] rfl hnew (.inl (by omega)) hll (Nat.le_trans (by omega) N1.size)
   have JV:=(hx.below N1).grown wj (fun e=>by have h9:W.heap.size<=w.heap.size+1:=(vN.lt _ e).1;omega)
   have p4:=JV.cell 2 rfl
   have f4:=JV.frozen 2
   have hlt3:w.heap.size+1<w3.heap.size:=hx.lt
   have hnz:¬(n=0):=by omega
   have hwk:IntKind.i64.wrap ((k:Int)+1)=(k:Int)+1:=by rw[IntKind.wrap_i64];omega
   have HE:Hid (yg W.heap.size 2 (w4.setCell (zH (w.heap.size+1) 2) (zK g4 o4 (L.length+1) c4)) (.slice a2 (k+1) c2) (k+1) (Zu (zQ) (k+1))/\yf W.heap.size (w4.setCell (zH (w.heap.size+1) 2) (zK g4 o4 (L.length+1) c4)) (zK g4 o4 (L.length+1) c4) (yK n (k+1)) /\
    (∀g,(Value.slice a2 (k+1) c2).ownBlock=some g->(zK g4 o4 (L.length+1) c4).ownBlock≠some g)/\zO w (w4.setCell (zH (w.heap.size+1) 2) (zK g4 o4 (L.length+1) c4))/\W.heap.size<=(w4.setCell (zH (w.heap.size+1) 2) (zK g4 o4 (L.length+1) c4)).heap.size /\
    Bx (w4.setCell (zH (w.heap.size+1) 2) (zK g4 o4 (L.length+1) c4)) w.heap.size 34 [zI 0,zQ,zQ,zI 0,zQ,zI 0,zQ,zI 0]/\Bx (w4.setCell (zH (w.heap.size+1) 2) (zK g4 o4 (L.length+1) c4)) (w.heap.size+1) 34 [zI c,.slice a2 (k+1) c2,zK g4 o4 (L.length+1) c4,zI (-1),zQ,zI 0,zQ,zI 0]):=by
    have HW:=(Wr.refl1 (w.heap.size+1) w4).set1 (o:=2) (zK g4 o4 (L.length+1) c4)
    have hlo:∀g,(Value.slice ao L.length co).ownBlock=some g->W.heap.size<=g:=fun g e=>(vN.lt g e).1
    have hbz:=hb.size
    have Km:=N1.size
    refine⟨((zT.below N1).grown wj (fun g e e2=>(Xx g e).2 e2)).wr HW (fun g e e2=>by have:=(Xx g e).1;omega),by rw[HLS.out];exact HW.ints yU (fun g e e2=>by have:=(yU.lt g e).1;omega),fun g e e2=>?_,HW.below1 ((hb.trans (N1.mono hbz)).grown wj (by omega) (fun q e=>by have:=hlo q e;omega)) zD (Nat.le_succ _),by rw[World.size_setCell];have:=wj.size;omega,HW.bx ((hr.below N1).grown wj (fun e=>by have:=hlo _ e;omega)) (by omega),JV.set 2 _⟩
    have e3:g4=g:=by injection e2
    subst e3
    rcases zdV with h | h
    ·exact(Xx g4 e).2 h
    ·have:=(zT.lt g4 e).2
     omega
   clear JV yU wj zdV hnew N1 vN zT hb hr hx Xx hho hz
   go_wp2_with fail
   go_region_law (refine VK (by simp[Region.wanted]) (uH rfl (by go_simp) (by go_simp) zdX) ?_)
   all_goals
    go_wp2
    go_roundg (n - (k+1))
    case measure=>omega
    case rel=>exact⟨k+1,_,_,by omega,rfl,by go_num,HE.out⟩
  ·obtain rfl:k=n:=by omega
   have uW:¬((k:Int)<(k:Int)):=by omega
   obtain⟨⟨r0,r1,r2,r3,r4,r5,r6,r7⟩,⟨g0,g1,g2,g3,g4,g5,g6,g7⟩⟩:=uk hr
   obtain⟨⟨p0,p1,p2,p3,p4,p5,p6,p7⟩,_⟩:=uk hx
   go_wp2
   refine xU (fun W'=>zO w W'/\yg w.heap.size 2 W' (.slice ap k cp) k (Zu (zQ) k)/\yf w.heap.size W' (.slice ao (yK k k).length co) (yK k k)/\Bx W' w.heap.size 34 [zI c,.slice ap k cp,.slice ao (yK k k).length co,zI (-1),zQ,zI 0,zQ,zI 0]) ?_ ?_
   ·have HW:=((((((((Wr.refl1 w.heap.size wr).set1 (o:=0) (zI c)).set1 (o:=1) (.slice ap k cp)).set1 (o:=2) (.slice ao (yK k k).length co)).set1 (o:=3) (zI (-1))).set1 (o:=4) (zQ)).set1 (o:=5) (zI 0)).set1 (o:=6) (zQ)).set1 (o:=7) (zI 0)
    exact⟨HW.below1 hb zD zD,(zT.wr HW (fun g e e2=>by have:=(zT.lt g e).1;omega)).mono (by omega),(HW.ints vN (fun g e e2=>by have:=(vN.lt g e).1;omega)).mono (by omega),(((((((hr.set 0 _).set 1 _).set 2 _).set 3 _).set 4 _).set 5 _).set 6 _).set 7 _⟩
   rintro W9 ⟨hb9,wJ,hord9,hx9⟩
   obtain⟨⟨q0,q1,q2,q3,q4,q5,q6,q7⟩,_⟩:=uk hx9
   exact bodyPost_ret (v:=.agg #[zI c,.slice ap k cp,.slice ao (yK k k).length co,zI (-1),zQ,zI 0,zQ,zI 0]) (by simp[results,Tryz.results40,go_sem,q0,q1,q2,q3,q4,q5,q6,q7]) rfl ⟨_,_,rfl,wJ,hord9,hap,hb9⟩
def qW (r c:Int):Bool:=qC r 1 4 && qC c 14 60
theorem kI {r c:Int} (h:qW r c=true):1<=r/\r<=4/\14<=c/\c<=60:=by
 unfold qW at h
 simp only[Bool.and_eq_true] at h
 have h1:=zF.1 h.1
 have h2:=zF.1 h.2
 omega
theorem Jh (r c:Int) (w:World):Calls Tryz.prog 39 #[zI r,zI c] w fun e w'=>e=.returned (.bool (qW r c))/\w'=w:=by
 go_enter Tryz.func39,Tryz.ntmps39
 by_cases h1:1<=r
 ·by_cases h2:r<=4
  ·by_cases h3:14<=c
   ·by_cases h4:c<=60
    ·go_wp2
     go_ret
     exact⟨by simp[qW,qC,h1,h2,h3,h4],rfl⟩
    ·go_wp2
     go_ret
     exact⟨by simp[qW,qC,h1,h2,h3,h4],rfl⟩
   ·go_wp2
    go_ret
    exact⟨by simp[qW,qC,h1,h2];omega,rfl⟩
  ·go_wp2
   go_ret
   exact⟨by simp[qW,qC,h1];omega,rfl⟩
 ·go_wp2
  go_ret
  exact⟨by simp[qW,qC];omega,rfl⟩
def xq (n t:Nat):List Pg:=(List.range n).map fun i=>⟨-1,if i=0 then [⟨0,0,-1,List.replicate t (0,0),[]⟩] else []⟩
def yR (n t:Nat) (c:Int):Mc:=⟨c,xq n t,yK n n,0,[],1,[],0⟩
structure K7 (B:Nat) (w:World) (n t:Nat) (vp vo:Value) (gf:Nat) (vt vs:Value):Prop where
 p:yg B 2 w vp n (zI (-1) :: zK gf 0 1 1 :: Zu (zQ) (n - 1))
 f:Bx w gf 75 [zI 0,zI 0,zI (-1),vt,vs]
 t:zk B w vt (List.replicate t (0,0))
 s:zk B w vs []
 o:yf B w vo (yK n n)
 low:B<=gf
 a1:vp.ownBlock≠some gf
 a2:∀g,vp.ownBlock=some g->vo.ownBlock≠some g
 a3:∀g,vp.ownBlock=some g->vt.ownBlock≠some g
 a4:vo.ownBlock≠some gf
 a5:vt.ownBlock≠some gf
 a6:∀g,vo.ownBlock=some g->vt.ownBlock≠some g
 sn:vs=zQ
theorem K7.wr {B:Nat} {w w':World} {n t gf k gp op cp gt ct:Nat} {vo vs:Value} (h:K7 B w n t (zK gp op n cp) vo gf (zK gt 0 t ct) vs) (hw:Wr (fun g=>g=k) w w') (h1:gp≠k) (h2:gf≠k) (h3:vo.ownBlock=some k->False) (h4:gt≠k) (h5:vs.ownBlock≠some k) :
 K7 B w' n t (zK gp op n cp) vo gf (zK gt 0 t ct) vs :=
 ⟨h.p.wr hw (fun g e e2=>h1 (by have h9:gp=g:=by {injection e};omega)),hw.bx h.f h2,hw.pair h.t (fun g e e2=>h4 (by have h9:gt=g:=by {injection e};omega)),hw.pair h.s (fun g e e2=>h5 (e2 ▸ e)),hw.ints h.o (fun g e e2=>h3 (e2 ▸ e)),h.low,h.a1,h.a2,h.a3,h.a4,h.a5,h.a6,h.sn⟩
theorem Tryz.infoValN:(Tryz.prog.info? 86).map (fun i=>(i.zero,i.size,i.bytes))=some (some (.agg #[zI 0,zI 0]),2,16):=by kernel_rfl
theorem JB (vp:Value) (ms:zM) (r c:Int) (w:World) (h:yD w vp ms) :
 Calls Tryz.prog 13 #[.agg #[vp],zI r,zI c] w fun e w'=>zO w w' /\
  (((yr ms && qW r c)=false/\e=.returned (.tuple #[.agg #[zI 0,zQ,zQ,zI 0,zQ,zI 0,zQ,zI 0],.bool false])) \/
   ((yr ms && qW r c)=true/\∃v vo gf vt vs,e=.returned (.tuple #[.agg #[zI c,v,vo,zI 0,zQ,zI 1,zQ,zI 0],.bool true])/\K7 w.heap.size w' r.toNat (yx ms) v vo gf vt vs)):=by
 obtain⟨a,cap,rfl,hl,hc⟩:=id h
 obtain⟨fp,hfp⟩:∃fp,yr ms=fp:=⟨_,rfl⟩
 obtain⟨fr,hfr⟩:∃fr,qW r c=fr:=⟨_,rfl⟩
 have HFP:Hid (yr ms=fp):=hfp
 have HFR:Hid (qW r c=fr):=hfr
 have HOK:=fun W (hb:zO w W)=>uc _ ms W (h.below hb)
 have HRO:=fun W=>Jh r c W
 rw[hfp] at HOK ⊢
 rw[hfr] at HRO ⊢
 clear hfp hfr
 go_enter Tryz.func13,Tryz.ntmps13
 go_upto_region 1 with fail
 refine ym (fun W=>zO w W/\Bx W w.heap.size 25 [.slice a ms.length cap]/\Bx W (w.heap.size+1) 34 [.int .i64 0,.slice none 0 0,.slice none 0 0,.int .i64 0,.slice none 0 0,.int .i64 0,.slice none 0 0,.int .i64 0]) ⟨(zR _ _).alloc (by simp) _,(Bx.new w _ _).alloc _,Bx.newAt _ _ _ (by simp)⟩ ?_
 rintro W0 ⟨B0,x0,y0⟩
 have p0:=x0.cell 0 rfl
 have z0:=B0.size
 go_wp2_with fail
 refine(HOK _ B0).mono ?_
 rintro e W1 ⟨rfl,t1⟩
 have x1:=x0.below t1
 have y1:=y0.below t1
 have B1:=B0.trans (t1.mono z0)
 have z1:=B1.size
 clear HOK t1 x0 y0 B0 z0 p0
 obtain⟨⟨r0,r1,r2,r3,r4,r5,r6,r7⟩,⟨g0,g1,g2,g3,g4,g5,g6,g7⟩⟩:=uk y1
 have HZ:zO w ((((((((W1.setCell (zH (w.heap.size+1) 0) (zI 0)).setCell (zH (w.heap.size+1) 1) (zQ)).setCell (zH (w.heap.size+1) 2) (zQ)).setCell (zH (w.heap.size+1) 3) (zI 0)).setCell (zH (w.heap.size+1) 4) (zQ)).setCell (zH (w.heap.size+1) 5) (zI 0)).setCell (zH (w.heap.size+1) 6) (zQ)).setCell (zH (w.heap.size+1) 7) (zI 0)) /\
  Bx ((((((((W1.setCell (zH (w.heap.size+1) 0) (zI 0)).setCell (zH (w.heap.size+1) 1) (zQ)).setCell (zH (w.heap.size+1) 2) (zQ)).setCell (zH (w.heap.size+1) 3) (zI 0)).setCell (zH (w.heap.size+1) 4) (zQ)).setCell (zH (w.heap.size+1) 5) (zI 0)).setCell (zH (w.heap.size+1) 6) (zQ)).setCell (zH (w.heap.size+1) 7) (zI 0)) (w.heap.size+1) 34 [zI 0,zQ,zQ,zI 0,zQ,zI 0,zQ,zI 0]:=by
  have HW:=((((((((Wr.refl1 (w.heap.size+1) W1).set1 (o:=0) (zI 0)).set1 (o:=1) (zQ)).set1 (o:=2) (zQ)).set1 (o:=3) (zI 0)).set1 (o:=4) (zQ)).set1 (o:=5) (zI 0)).set1 (o:=6) (zQ)).set1 (o:=7) (zI 0)
  exact⟨HW.below1 B1 zD (Nat.le_succ _),(((((((y1.set 0 _).set 1 _).set 2 _).set 3 _).set 4 _).set 5 _).set 6 _).set 7 _⟩
 have HZH:Hid _:=HZ
 clear HZ
 cases fp
 ·go_wp2
  refine xU (fun W=>zO w W/\Bx W (w.heap.size+1) 34 [zI 0,zQ,zQ,zI 0,zQ,zI 0,zQ,zI 0]) HZH.out ?_
  rintro W9 ⟨B9,x9⟩
  obtain⟨⟨q0,q1,q2,q3,q4,q5,q6,q7⟩,_⟩:=uk x9
  exact bodyPost_ret (v:=.tuple #[.agg #[zI 0,zQ,zQ,zI 0,zQ,zI 0,zQ,zI 0],.bool false]) (by simp[results,Tryz.results13,go_sem,q0,q1,q2,q3,q4,q5,q6,q7]) rfl ⟨B9,.inl ⟨rfl,rfl⟩⟩
 go_wp2_with fail
 refine(HRO _).mono ?_
 rintro e W2 ⟨rfl,hw⟩
 obtain rfl:=hw.symm
 clear HRO
 cases fr
 ·go_wp2
  refine xU (fun W=>zO w W/\Bx W (w.heap.size+1) 34 [zI 0,zQ,zQ,zI 0,zQ,zI 0,zQ,zI 0]) HZH.out ?_
  rintro W9 ⟨B9,x9⟩
  obtain⟨⟨q0,q1,q2,q3,q4,q5,q6,q7⟩,_⟩:=uk x9
  exact bodyPost_ret (v:=.tuple #[.agg #[zI 0,zQ,zQ,zI 0,zQ,zI 0,zQ,zI 0],.bool false]) (by simp[results,Tryz.results13,go_sem,q0,q1,q2,q3,q4,q5,q6,q7]) rfl ⟨B9,.inl ⟨rfl,rfl⟩⟩
 clear HZH
 obtain⟨Kn,Ko,_,_⟩:=kI HFR.out
 obtain⟨n,rfl⟩:=Int.eq_ofNat_of_zero_le (show 0<=r by omega)
 have Km:1<=n:=by omega
 have hn4:n<=4:=by omega
 go_wp2_with fail
 refine(Kb n c _ (by omega)).mono ?_
 rintro e W3 ⟨v,vo,rfl,zT,vN,hap,t3⟩
 have x3:=x1.below t3
 have y3:=y1.below t3
 have B3:=B1.trans (t3.mono z1)
 have z3:=t3.size
 have hlo1:w.heap.size+1<W1.heap.size:=y1.lt
 clear t3 x1 y1 r0 r1 r2 r3 r4 r5 r6 r7 g0 g1 g2 g3 g4 g5 g6 g7
 obtain⟨ap,cp,qI,_⟩:=zT.slice
 obtain⟨ao,co,j5,_⟩:=vN.slice
 subst qI j5
 go_upto_region 5 with fail
 refine ym (fun W=>zO w W/\Bx W w.heap.size 25 [.slice a ms.length cap]/\Bx W (w.heap.size+1) 34 [zI 0,zQ,zQ,zI 0,zQ,zI 0,zQ,zI 0]/\Bx W W3.heap.size 34 [zI c,.slice ap n cp,.slice ao (yK n n).length co,zI 0,zQ,zI 1,zQ,zI 0]/\yg W1.heap.size 2 W (.slice ap n cp) n (Zu (zQ) n)/\yf W1.heap.size W (.slice ao (yK n n).length co) (yK n n)) ?_ ?_
 ·have N:=zR W3 (.cells #[.int .i64 c,.slice ap n cp,.slice ao (yK n n).length co,.int .i64 0,.slice none 0 0,.int .i64 1,.slice none 0 0,.int .i64 0] 34)
  exact⟨B3.trans (N.mono (by omega)),x3.below N,y3.below N,Bx.new _ _ _,zT.below N,vN.below N⟩
 rintro W4 ⟨B4,x4,y4,m4,row4,ord4⟩
 have hW4:W3.heap.size<W4.heap.size:=m4.lt
 have hhi:∀g,(Value.slice ap n cp).ownBlock=some g->W1.heap.size<=g/\g<W3.heap.size:=zT.lt
 have hho:∀g,(Value.slice ao (yK n n).length co).ownBlock=some g->W1.heap.size<=g/\g<W3.heap.size:=vN.lt
 clear x3 y3 B3 zT vN
 obtain⟨gp,op,cp',qI,hgp1,_⟩:=row4.form (by omega)
 injection qI with zbi _ Jy
 subst zbi Jy
 have hgp2:=(hhi gp rfl).2
 have re:=UU (zQ) n 0 (by omega)
 obtain⟨k1,l1⟩:=row4.cell (j:=1) re.2
 clear re
 obtain⟨hl0,ht0,JU,hte,htn⟩:=Zw HFP.out
 obtain⟨b,o,vm,rfl,d0,d1,d2,_⟩:=hc 0 hl0
 have e1:=zc B4 d1
 have hbl:b<w.heap.size:=World.block_lt_of_cell? _ _ d1
 generalize hTe:yx ms=t at *
 generalize ms[0].2.1=tz at *
 subst hte
 have HT:Hid (yx ms=t):=hTe
 clear hTe d0 d1 d2 hc
 obtain⟨i0,hi,jT,xF,kf⟩:=info_parts Tryz.infoValN
 have hmk:∀w:World,(Instr.makeSlice 32 (zI (t:Int)) (zI (t:Int))).run Tryz.prog w=.ok (zK w.heap.size 0 t t) (w.alloc (.cells (madeCells #[zI 0,zI 0] (t * 2)) 86)):=by
  intro w
  have:=run_make (P:=Tryz.prog) w 32 86 i0 _ Tryz.underlying32 hi jT .i64 .i64 t t (by omega) (Int.le_refl _) (by rw[kf];omega) (by omega)
  simpa [xF,Value.cells] using this
 clear hi jT xF kf
 have px:=x4.cell 0 rfl
 have pm:=m4.cell 1 rfl
 have lx:w.heap.size<W4.heap.size:=x4.lt
 have hgp4:gp<W4.heap.size:=by omega
 have hl0z:(0:Int)<(ms.length:Int):=by omega
 have WE:0<n:=by omega
 have HE:Hid ((fun W=>zO w W/\Bx W (w.heap.size+1) 34 [.int .i64 0,.slice none 0 0,.slice none 0 0,.int .i64 0,.slice none 0 0,.int .i64 0,.slice none 0 0,.int .i64 0]/\Bx W W3.heap.size 34 [.int .i64 c,.slice (some ⟨gp,op,none⟩) n cp,.slice ao (yK n n).length co,.int .i64 0,.slice none 0 0,.int .i64 1,.slice none 0 0,.int .i64 0]/\K7 w.heap.size W n t (.slice (some ⟨gp,op,none⟩) n cp) (.slice ao (yK n n).length co) (W4.heap.size+1) (.slice (some ⟨W4.heap.size,0,none⟩) t t) (.slice none 0 0)) ((((W4.setCell (zH gp (op+1)) (.slice (some ⟨W4.heap.size+1,0,none⟩) 1 1)).alloc (.cells (madeCells #[.int .i64 0,.int .i64 0] (t * 2)) 86)).alloc (.cells #[.int .i64 0,.int .i64 0,.int .i64 (-1),.slice (some ⟨W4.heap.size,0,none⟩) t t,.slice none 0 0] 75)).drew)):=by
  show(fun W=>zO w W/\Bx W (w.heap.size+1) 34 [.int .i64 0,.slice none 0 0,.slice none 0 0,.int .i64 0,.slice none 0 0,.int .i64 0,.slice none 0 0,.int .i64 0]/\Bx W W3.heap.size 34 [.int .i64 c,.slice (some ⟨gp,op,none⟩) n cp,.slice ao (yK n n).length co,.int .i64 0,.slice none 0 0,.int .i64 1,.slice none 0 0,.int .i64 0]/\K7 w.heap.size W n t (.slice (some ⟨gp,op,none⟩) n cp) (.slice ao (yK n n).length co) (W4.heap.size+1) (.slice (some ⟨W4.heap.size,0,none⟩) t t) (.slice none 0 0)) ((((W4.setCell (zH gp (op+1)) (.slice (some ⟨W4.heap.size+1,0,none⟩) 1 1)).alloc (.cells (madeCells #[.int .i64 0,.int .i64 0] (t * 2)) 86)).alloc (.cells #[.int .i64 0,.int .i64 0,.int .i64 (-1),.slice (some ⟨W4.heap.size,0,none⟩) t t,.slice none 0 0] 75)).drew)
  have HW:Wr (fun k=>k=gp) W4 (W4.setCell (zH gp (op+1)) (zK (W4.heap.size+1) 0 1 1)):=(Wr.refl1 gp W4).set1 (o:=op+1) _
  have r5:=row4.set 1 (zK (W4.heap.size+1) 0 1 1)
  have hre:(Zu (zQ) n).set 1 (zK (W4.heap.size+1) 0 1 1)=zI (-1) :: zK (W4.heap.size+1) 0 1 1 :: Zu (zQ) (n - 1):=by
   obtain⟨q,rfl⟩:∃q,n=q+1:=⟨n - 1,by omega⟩
   simp[Zu,List.replicate_succ]
  rw[hre] at r5
  have ts:=ZT (B:=w.heap.size) (W4.setCell (zH gp (op+1)) (zK (W4.heap.size+1) 0 1 1)) t 86 (by rw[World.size_setCell];exact B4.size) (by omega)
  rw[World.size_setCell] at ts
  have N5:Below (W4.setCell (zH gp (op+1)) (.slice (some ⟨W4.heap.size+1,0,none⟩) 1 1)).heap.size (W4.setCell (zH gp (op+1)) (.slice (some ⟨W4.heap.size+1,0,none⟩) 1 1)) ((((W4.setCell (zH gp (op+1)) (.slice (some ⟨W4.heap.size+1,0,none⟩) 1 1)).alloc (.cells (madeCells #[.int .i64 0,.int .i64 0] (t * 2)) 86)).alloc (.cells #[.int .i64 0,.int .i64 0,.int .i64 (-1),.slice (some ⟨W4.heap.size,0,none⟩) t t,.slice none 0 0] 75)).drew):=by
   exact((zR _ _).alloc (by rw[World.size_alloc];omega) _).drew
  have hzs:(W4.setCell (zH gp (op+1)) (zK (W4.heap.size+1) 0 1 1)).heap.size=W4.heap.size:=World.size_setCell _ _ _
  have hb5:zO w (W4.setCell (zH gp (op+1)) (zK (W4.heap.size+1) 0 1 1)):=HW.below1 B4 zD (by omega)
  refine⟨hb5.trans (N5.mono (by rw[hzs];exact B4.size)),(HW.bx y4 (by omega)).below N5,(HW.bx m4 (by omega)).below N5,?_⟩
  refine⟨(r5.below N5).mono (by omega),Bx.newAt _ _ _ (by rw[World.size_alloc,World.size_setCell]),(ts.below (zR _ _)).below zS.drew,zk.nil _ _,((HW.ints ord4 (fun g e e2=>hap gp rfl (e2 ▸ e))).below N5).mono (by omega),by have:=B4.size;omega,fun e=>?_,hap,fun g e e2=>?_,fun e=>?_,fun e=>?_,fun g e e2=>?_,rfl⟩
  ·have h9:gp=W4.heap.size+1:=by injection e
   omega
  ·have h9:gp=g:=by injection e
   have h8:W4.heap.size=g:=by injection e2
   omega
  ·have:=(hho _ e).2
   omega
  ·have h9:W4.heap.size=W4.heap.size+1:=by injection e
   omega
  ·have h8:W4.heap.size=g:=by injection e2
   have:=(hho _ e).2
   omega
 have hho9:∀g,(Value.slice ao (yK n n).length co).ownBlock=some g->W1.heap.size<=g/\g<W3.heap.size:=hho
 clear row4 ord4 hap hhi hho B4
 go_wp2_with fail
 go_region_law (fail)
 all_goals
  refine wD (fun W=>zO w W/\Bx W (w.heap.size+1) 34 [zI 0,zQ,zQ,zI 0,zQ,zI 0,zQ,zI 0]/\Bx W W3.heap.size 34 [zI c,zK gp op n cp,.slice ao (yK n n).length co,zI 0,zQ,zI 1,zQ,zI 0]/\K7 w.heap.size W n t (zK gp op n cp) (.slice ao (yK n n).length co) (W4.heap.size+1) (zK W4.heap.size 0 t t) (zQ)) HE.out ?_
  rintro W6 ⟨B6,y6,m6,n6⟩
  obtain⟨⟨r0,r1,r2,r3,r4,r5,r6,r7⟩,⟨g0,g1,g2,g3,g4,g5,g6,g7⟩⟩:=uk y6
  obtain⟨⟨p0,p1,p2,p3,p4,p5,p6,p7⟩,_⟩:=uk m6
  go_wp2
  refine xU (fun W=>zO w W/\Bx W (w.heap.size+1) 34 [zI c,zK gp op n cp,.slice ao (yK n n).length co,zI 0,zQ,zI 1,zQ,zI 0]/\K7 w.heap.size W n t (zK gp op n cp) (.slice ao (yK n n).length co) (W4.heap.size+1) (zK W4.heap.size 0 t t) (zQ)) ?_ ?_
  ·have HW:=((((((((Wr.refl1 (w.heap.size+1) W6).set1 (o:=0) (zI c)).set1 (o:=1) (zK gp op n cp)).set1 (o:=2) (.slice ao (yK n n).length co)).set1 (o:=3) (zI 0)).set1 (o:=4) (zQ)).set1 (o:=5) (zI 1)).set1 (o:=6) (zQ)).set1 (o:=7) (zI 0)
   exact⟨HW.below1 B6 zD (Nat.le_succ _),(((((((y6.set 0 _).set 1 _).set 2 _).set 3 _).set 4 _).set 5 _).set 6 _).set 7 _,n6.wr HW (by omega) (by omega) (fun e=>by have:=(hho9 _ e).1;omega) (by omega) (fun e=>by simp[Value.ownBlock] at e)⟩
  rintro W9 ⟨B9,x9,n9⟩
  obtain⟨⟨q0,q1,q2,q3,q4,q5,q6,q7⟩,_⟩:=uk x9
  exact bodyPost_ret (v:=.tuple #[.agg #[zI c,zK gp op n cp,.slice ao (yK n n).length co,zI 0,zQ,zI 1,zQ,zI 0],.bool true]) (by simp[results,Tryz.results13,go_sem,q0,q1,q2,q3,q4,q5,q6,q7]) rfl ⟨B9,.inr ⟨rfl,_,_,_,_,_,rfl,by rw[HT.out,Int.toNat_natCast];exact n9⟩⟩
theorem zak {α:Type} {l:List α} {i:Nat} {x:α} (h:l[i]?=some x):l.set i x=l:=by
 obtain⟨hi,rfl⟩:=List.getElem?_eq_some_iff.1 h
 exact List.set_getElem_self hi
theorem X2 (l:List (Value × Value)) (i:Nat) (h:i<l.length) (b:Value):(cells2 l).set (i * 2+1) b=cells2 (l.set i (l[i].1,b)):=by
 rw[<-wz,zak (kO l i h).1]
theorem Wj (l:List (Value × Value)) (i:Nat) (h:i<l.length) (a:Value):(cells2 l).set (i * 2) a=cells2 (l.set i (a,l[i].2)):=by
 rw[<-wz]
 symm
 apply zak
 rw[List.getElem?_set_ne (by omega)]
 exact(kO l i h).2
theorem Kf {D:Nat->Nat} {fs:List ki} {k:Nat} (h:k<fs.length):(yk D fs)[k]'(by simpa [yk] using h)=(zJ (D fs[k].body) 0,zI fs[k].twin):=by simp[yk]
section
variable {B:Nat} {P:Lay} {ρ ρ1:Nat->Rl} {w W1 W:World}
theorem yj.setPage2 (h:yj B ρ w P) {i:Nat} (hi:i<P.L.zd.length) (c1:Ch (fun r=>r=.zh i) ρ ρ1 w W1) {p:wh} {vf:Value} (hf:yg B 2 W1 vf p.zh.length (cells2 (yk P.D p.zh))) (hfg:∀g,vf.ownBlock=some g->ρ1 g=.zh i)
 {gp op cp:Nat} (hp:P.vp=zK gp op P.L.zd.length cp)
 (hW:yg B 2 W (zK gp op P.L.zd.length cp) P.L.zd.length (cells2 ((qt P.F P.L.zd).set i (zI p.base,vf)))) (hg:W1.grownBy W (some gp)) :
 yj B (zu ρ1 W1 .other) W {P with F:=fun k=>if k=i then vf else P.F k,L:={P.L with zd:=P.L.zd.set i p}}:=by
 have zdP:gp<w.heap.size:=((h .zd).1.lt gp (by rw[hp];rfl)).2
 have hρ:ρ1 gp=.zd:=(c1.role gp zdP).trans ((h .zd).2 gp (by rw[hp];rfl))
 have c2:Ch (fun r=>r=.zd) ρ1 (zu ρ1 W1 .other) W1 W:=Ch.grown hg ρ1 .other fun g e=>by cases e;exact hρ
 have c:Ch (fun r=>r=.zd\/r=.zh i) ρ (zu ρ1 W1 .other) w W:=(c1.mono fun _ e=>.inr e).trans (c2.mono fun _ e=>.inl e)
 have hl:(P.L.zd.set i p).length=P.L.zd.length:=List.length_set
 have hpp:(qt P.F P.L.zd).set i (zI p.base,vf)=qt (fun k=>if k=i then vf else P.F k) (P.L.zd.set i p):=by
  refine List.ext_getElem (by rw[List.length_set,yO,yO,hl]) fun j h1 h2=>?_
  have hj:j<P.L.zd.length:=by rw[List.length_set,yO] at h1;exact h1
  rw[jo (by rw[hl];exact hj)]
  by_cases e:i=j
  ·subst e;simp
  ·rw[List.getElem_set_ne e,jo hj]
   simp[Ne.symm e,e]
 intro r
 cases r with
 | other=>trivial
 | zd =>
  refine⟨?_,fun g e=>(c.role g (((h .zd).1.lt g e).2)).trans ((h .zd).2 g e)⟩
  show yg B 2 W P.vp (P.L.zd.set i p).length _
  rw[hl,hp,<-hpp]
  exact hW
 | zh k =>
  intro hk
  have hk':k<P.L.zd.length:=by rw[<-hl];exact hk
  by_cases e:k=i
  ·subst e
   show yg B 2 W (if k=k then vf else P.F k) (P.L.zd.set k p)[k].zh.length (cells2 (yk P.D (P.L.zd.set k p)[k].zh))/\∀g,(if k=k then vf else P.F k).ownBlock=some g->_
   rw[if_pos rfl,List.getElem_set_self]
   exact⟨hf.kept c2.size fun g e=>c2.blk g (hf.lt g e).2 (by rw[hfg g e];simp),fun g e=>(c2.role g (hf.lt g e).2).trans (hfg g e)⟩
  ·have:=(Lay.it_keep (P:=P) (h (.zh k)) c (by simp[e])) hk'
   show yg B 2 W (if k=i then vf else P.F k) (P.L.zd.set i p)[k].zh.length (cells2 (yk P.D (P.L.zd.set i p)[k].zh))/\∀g,(if k=i then vf else P.F k).ownBlock=some g->_
   rw[if_neg e,List.getElem_set_ne (Ne.symm e)]
   exact this
 | live=>exact Lay.it_keep (P:=P) (r:=.live) (h .live) c (by simp)
 | order=>exact Lay.it_keep (P:=P) (r:=.order) (h .order) c (by simp)
 | ze=>exact Lay.it_keep (P:=P) (r:=.ze) (h .ze) c (by simp)
 | body k=>exact Lay.it_keep (P:=P) (r:=(.body k)) (h (.body k)) c (by simp)
 | zg k=>exact Lay.it_keep (P:=P) (r:=(.zg k)) (h (.zg k)) c (by simp)
 | zf k=>exact Lay.it_keep (P:=P) (r:=(.zf k)) (h (.zf k)) c (by simp)
theorem xj (w:World) (g o:Nat) (v:Value):w.grownBy (w.setCell (zH g o) v) (some g) :=
 ⟨rfl,rfl,rfl,by simp only[World.size_setCell];exact Nat.le_refl _,fun k _ qF=>Below.heap_setCell _ _ _ _ fun e=>qF (by rw[e])⟩
theorem yj.setBase (h:yj B ρ w P) {i:Nat} (hi:i<P.L.zd.length) {gp op cp:Nat} (hp:P.vp=zK gp op P.L.zd.length cp) (x:Int) :
 yj B (zu ρ w .other) (w.setCell (zH gp (op+i * 2)) (zI x)) {P with F:=fun k=>if k=i then P.F i else P.F k,L:={P.L with zd:=P.L.zd.set i ⟨x,P.L.zd[i].zh⟩}}:=by
 have hr:yg B 2 w P.vp P.L.zd.length (cells2 (qt P.F P.L.zd)):=(h .zd).1
 rw[hp] at hr
 have hs:=hr.set (i * 2) (zI x)
 rw[Wj _ _ (by rw[yO];exact hi),jo hi] at hs
 exact h.setPage2 hi (Ch.refl _ _ _) (p:=⟨x,P.L.zd[i].zh⟩) ((h (.zh i)) hi).1 ((h (.zh i)) hi).2 hp hs (xj _ _ _ _)
theorem yj.setFrames (h:yj B ρ w P) {i:Nat} (hi:i<P.L.zd.length) (c1:Ch (fun r=>r=.zh i) ρ ρ1 w W1) {fs:List ki} {vf:Value} (hf:yg B 2 W1 vf fs.length (cells2 (yk P.D fs))) (hfg:∀g,vf.ownBlock=some g->ρ1 g=.zh i)
 {gp op cp:Nat} (hp:P.vp=zK gp op P.L.zd.length cp) :
 yj B (zu ρ1 W1 .other) (W1.setCell (zH gp (op+i * 2+1)) vf) {P with F:=fun k=>if k=i then vf else P.F k,L:={P.L with zd:=P.L.zd.set i ⟨P.L.zd[i].base,fs⟩}}:=by
 have hr:yg B 2 W1 P.vp P.L.zd.length (cells2 (qt P.F P.L.zd)):=(Lay.it_keep (P:=P) (h .zd) c1 (by simp)).1
 rw[hp] at hr
 have hs:=hr.set (i * 2+1) vf
 rw[X2 _ _ (by rw[yO];exact hi),jo hi,<-Nat.add_assoc] at hs
 exact h.setPage2 hi c1 (p:=⟨P.L.zd[i].base,fs⟩) hf hfg hp hs (xj _ _ _ _)
theorem yj.setFr (h:yj B ρ w P) {i k:Nat} {f:ki} (hf:P.L.fr i k=some f) {gf of n cf:Nat} (hF:P.F i=zK gf of n cf) (x:Int) :
 yj B ρ (w.setCell (zH gf (of+k * 2+1)) (zI x)) {P with L:=P.L.setFr i k ⟨f.body,x⟩}:=by
 obtain⟨hi,hk,hfe⟩:=yF.fr_some hf
 have hr:yg B 2 w (P.F i) P.L.zd[i].zh.length (cells2 (yk P.D P.L.zd[i].zh)):=((h (.zh i)) hi).1
 have hg:=((h (.zh i)) hi).2
 have hρ:ρ gf=.zh i:=hg gf (by rw[hF];rfl)
 have c:Ch (fun r=>r=.zh i) ρ ρ w (w.setCell (zH gf (of+k * 2+1)) (zI x)):=Ch.set w ρ _ _ _ hρ
 have hgd:P.L.zd.getD i ⟨-1,[]⟩=P.L.zd[i]:=by simp[hi]
 have hL:P.L.setFr i k ⟨f.body,x⟩={P.L with zd:=P.L.zd.set i ⟨P.L.zd[i].base,P.L.zd[i].zh.set k ⟨f.body,x⟩⟩}:=by unfold yF.setFr;rw[hgd]
 rw[hL]
 have hl:(P.L.zd.set i ⟨P.L.zd[i].base,P.L.zd[i].zh.set k ⟨f.body,x⟩⟩).length=P.L.zd.length:=List.length_set
 intro r
 cases r with
 | other=>trivial
 | zd =>
  have h1:=Lay.it_keep (P:=P) (h .zd) c (by simp)
  refine⟨?_,h1.2⟩
  show yg B 2 _ P.vp (P.L.zd.set i _).length (cells2 (qt P.F (P.L.zd.set i _)))
  rw[hl]
  have e:qt P.F (P.L.zd.set i ⟨P.L.zd[i].base,P.L.zd[i].zh.set k ⟨f.body,x⟩⟩)=qt P.F P.L.zd:=by
   refine List.ext_getElem (by rw[yO,yO,hl]) fun j h1 h2=>?_
   have hj:j<P.L.zd.length:=by rw[yO] at h2;exact h2
   rw[jo (by rw[hl];exact hj),jo hj]
   by_cases e:i=j
   ·subst e;rw[List.getElem_set_self]
   ·rw[List.getElem_set_ne e]
  rw[e]
  exact h1.1
 | zh q =>
  intro hq
  have hq':q<P.L.zd.length:=by rw[<-hl];exact hq
  by_cases e:q=i
  ·subst e
   show yg B 2 _ (P.F q) (P.L.zd.set q _)[q].zh.length (cells2 (yk P.D (P.L.zd.set q _)[q].zh))/\_
   rw[List.getElem_set_self]
   refine⟨?_,hg⟩
   show yg B 2 _ (P.F q) (P.L.zd[q].zh.set k ⟨f.body,x⟩).length (cells2 (yk P.D (P.L.zd[q].zh.set k ⟨f.body,x⟩)))
   rw[List.length_set]
   have hfl:k<(yk P.D P.L.zd[q].zh).length:=by unfold yk;simpa using hk
   rw[hF] at hr ⊢
   have hs:=hr.set (k * 2+1) (zI x)
   rw[X2 _ _ hfl,<-Nat.add_assoc] at hs
   have e0:(yk P.D P.L.zd[q].zh)[k].1=zJ (P.D f.body) 0:=by
    rw[Kf hk,hfe]
   have e:(yk P.D P.L.zd[q].zh).set k ((yk P.D P.L.zd[q].zh)[k].1,zI x)=yk P.D (P.L.zd[q].zh.set k ⟨f.body,x⟩):=by
    rw[e0]
    unfold yk
    rw[List.map_set]
   rw[e] at hs
   exact hs
  ·have:=(Lay.it_keep (P:=P) (h (.zh q)) c (by simp[e])) hq'
   show yg B 2 _ (P.F q) (P.L.zd.set i _)[q].zh.length (cells2 (yk P.D (P.L.zd.set i _)[q].zh))/\_
   rw[List.getElem_set_ne (Ne.symm e)]
   exact this
 | live=>exact Lay.it_keep (P:=P) (r:=.live) (h .live) c (by simp)
 | order=>exact Lay.it_keep (P:=P) (r:=.order) (h .order) c (by simp)
 | ze=>exact Lay.it_keep (P:=P) (r:=.ze) (h .ze) c (by simp)
 | body k=>exact Lay.it_keep (P:=P) (r:=(.body k)) (h (.body k)) c (by simp)
 | zg k=>exact Lay.it_keep (P:=P) (r:=(.zg k)) (h (.zg k)) c (by simp)
 | zf k=>exact Lay.it_keep (P:=P) (r:=(.zf k)) (h (.zf k)) c (by simp)
theorem yj.setBody (h:yj B ρ w P) {k:Nat} (hk:k<P.L.zj.length) (c:Ch (fun r=>r=.body k\/r=.zg k\/r=.zf k) ρ ρ1 w W) {b:jg} {vt vs:Value} (hx:Bx W (P.D k) 186 (xx (vt,vs) b))
 (ht:zk B W vt b.zg) (hs:zk B W vs b.zf) (hgt:∀g,vt.ownBlock=some g->ρ1 g=.zg k) (hgs:∀g,vs.ownBlock=some g->ρ1 g=.zf k) :
 yj B ρ1 W {P with T:=fun q=>if q=k then(vt,vs) else P.T q,L:={P.L with zj:=P.L.zj.set k b}}:=by
 have hl:(P.L.zj.set k b).length=P.L.zj.length:=List.length_set
 have hbk:=(h (.body k)) hk
 intro r
 cases r with
 | other=>trivial
 | live=>exact Lay.it_keep (P:=P) (r:=.live) (h .live) c (by simp)
 | zd=>exact Lay.it_keep (P:=P) (r:=.zd) (h .zd) c (by simp)
 | zh i=>exact Lay.it_keep (P:=P) (r:=(.zh i)) (h (.zh i)) c (by simp)
 | order=>exact Lay.it_keep (P:=P) (r:=.order) (h .order) c (by simp)
 | ze=>exact Lay.it_keep (P:=P) (r:=.ze) (h .ze) c (by simp)
 | body q =>
  intro hq
  have hq':q<P.L.zj.length:=by rw[<-hl];exact hq
  by_cases e:q=k
  ·subst e
   show Bx W (P.D q) _ (xx (if q=q then(vt,vs) else P.T q) (P.L.zj.set q b)[q])/\_
   rw[if_pos rfl,List.getElem_set_self]
   exact⟨hx,(c.role _ hbk.1.lt).trans hbk.2.1,hbk.2.2⟩
  ·have:=(Lay.it_keep (P:=P) (h (.body q)) c (by simp[e])) hq'
   show Bx W (P.D q) _ (xx (if q=k then(vt,vs) else P.T q) (P.L.zj.set k b)[q])/\_
   rw[if_neg e,List.getElem_set_ne (Ne.symm e)]
   exact this
 | zg q =>
  intro hq
  have hq':q<P.L.zj.length:=by rw[<-hl];exact hq
  by_cases e:q=k
  ·subst e
   show zk B W (if q=q then(vt,vs) else P.T q).1 (P.L.zj.set q b)[q].zg/\∀g,(if q=q then(vt,vs) else P.T q).1.ownBlock=some g->_
   rw[if_pos rfl,List.getElem_set_self]
   exact⟨ht,hgt⟩
  ·have:=(Lay.it_keep (P:=P) (h (.zg q)) c (by simp[e])) hq'
   show zk B W (if q=k then(vt,vs) else P.T q).1 (P.L.zj.set k b)[q].zg/\∀g,(if q=k then(vt,vs) else P.T q).1.ownBlock=some g->_
   rw[if_neg e,List.getElem_set_ne (Ne.symm e)]
   exact this
 | zf q =>
  intro hq
  have hq':q<P.L.zj.length:=by rw[<-hl];exact hq
  by_cases e:q=k
  ·subst e
   show zk B W (if q=q then(vt,vs) else P.T q).2 (P.L.zj.set q b)[q].zf/\∀g,(if q=q then(vt,vs) else P.T q).2.ownBlock=some g->_
   rw[if_pos rfl,List.getElem_set_self]
   exact⟨hs,hgs⟩
  ·have:=(Lay.it_keep (P:=P) (h (.zf q)) c (by simp[e])) hq'
   show zk B W (if q=k then(vt,vs) else P.T q).2 (P.L.zj.set k b)[q].zf/\∀g,(if q=k then(vt,vs) else P.T q).2.ownBlock=some g->_
   rw[if_neg e,List.getElem_set_ne (Ne.symm e)]
   exact this
end
def Js (B:Nat) (w:World) (v:Value) (cs:List Cl):Prop :=
 ∃L:List (Cl × Value × Value),L.map (·.1)=cs/\qr B w v L/\∀i,(hi:i<L.length) ->
  zk B w L[i].2.1 L[i].1.zg/\zk B w L[i].2.2 L[i].1.zf/\(∀g,L[i].2.1.ownBlock=some g->v.ownBlock≠some g)/\(∀g,L[i].2.2.ownBlock=some g->v.ownBlock≠some g)
theorem Js.nil (B:Nat) (w:World):Js B w (zQ) []:=⟨[],rfl,qr.nil B w,fun _ hi=>absurd hi yB⟩
theorem Js.lt {B:Nat} {w:World} {v:Value} {cs:List Cl} (h:Js B w v cs):∀g,v.ownBlock=some g->B<=g/\g<w.heap.size:=by
 obtain⟨L,_,hc,_⟩:=h
 exact hc.lt
theorem Js.slice {B:Nat} {w:World} {v:Value} {cs:List Cl} (h:Js B w v cs):∃a cap,v=.slice a cs.length cap:=by
 obtain⟨L,rfl,hc,_⟩:=h
 obtain⟨a,cap,e,_⟩:=hc.slice
 exact⟨a,cap,by simpa using e⟩
theorem Js.kept {B:Nat} {w w':World} {v:Value} {cs:List Cl} (h:Js B w v cs) (hs:w.heap.size<=w'.heap.size) (hb:∀g,B<=g->g<w.heap.size->w'.heap[g]?=w.heap[g]?):Js B w' v cs:=by
 obtain⟨L,hL,hc,hr⟩:=h
 refine⟨L,hL,hc.kept hs fun g e=>hb g (hc.lt g e).1 (hc.lt g e).2,fun i hi=>?_⟩
 obtain⟨h1,h2,h3,h4⟩:=hr i hi
 exact⟨h1.kept hs fun g e=>hb g (h1.lt g e).1 (h1.lt g e).2,h2.kept hs fun g e=>hb g (h2.lt g e).1 (h2.lt g e).2,h3,h4⟩
theorem Js.below {B:Nat} {w w':World} {v:Value} {cs:List Cl} (h:Js B w v cs) (hb:zO w w'):Js B w' v cs:=h.kept hb.size fun g _ h2=>hb.block g h2
theorem Js.wr {B k:Nat} {w w':World} {v:Value} {cs:List Cl} (h:Js B w v cs) (hw:Wr (fun g=>g=k) w w') (hk:k<B):Js B w' v cs:=h.kept hw.size fun g h1 h2=>hw.block g h2 (by omega)
theorem Js.mono {B B':Nat} {w:World} {v:Value} {cs:List Cl} (h:Js B w v cs) (hB:B'<=B):Js B' w v cs:=by
 obtain⟨L,hL,hc,hr⟩:=h
 exact⟨L,hL,yg.mono hc hB,fun i hi=>⟨(hr i hi).1.mono hB,(hr i hi).2.1.mono hB,(hr i hi).2.2⟩⟩
theorem Js.at {B:Nat} {w:World} {v:Value} {cs:List Cl} (h:Js B w v cs):jD w v cs:=by
 obtain⟨L,rfl,hc,hr⟩:=h
 exact hc.at fun i hi=>⟨(hr i hi).1.at,(hr i hi).2.1.at⟩
theorem zbL {ty:TypeId} {B:Nat} {w:World} {v:Value} {cs:List Cl} (h:Js B w v cs) (c:Cl) (u1 u2:Value) (h1:zk B w u1 c.zg) (h2:zk B w u2 c.zf)
 (a1:∀g,u1.ownBlock=some g->v.ownBlock≠some g) (a2:∀g,u2.ownBlock=some g->v.ownBlock≠some g) (H k:Nat)
 (hx:∀j u,([zI c.m,zI c.pc,u1,u2,zI c.zi,.bool c.zv]:List Value)[j]?=some u->w.cell? (zH H j)=some u) (hL:cs.length<=900000) (hB:B<=w.heap.size) :
 ∃a' c' w',(Builtin.append_ #[39,39] ty #[v,zK H 0 1 k]).run Tryz.prog w=.ok (.slice a' (cs.length+1) c') w'/\Js B w' (.slice a' (cs.length+1) c') (cs ++ [c])/\w.grownBy w' v.ownBlock:=by
 obtain⟨L,rfl,hc,hr⟩:=h
 obtain⟨b1,k1,e1,_⟩:=h1.slice
 obtain⟨b2,k2,e2,_⟩:=h2.slice
 obtain⟨v',w',hrun,zT,hg,ho⟩:=Z8 (ty:=ty) hc (c,u1,u2) (by rw[e1];rfl) (by rw[e2];rfl) H k hx (by simpa using hL) hB
 obtain⟨a',c',e',_⟩:=zT.slice
 have el:v'=.slice a' ((L.map (·.1)).length+1) c':=by simpa using e'
 rw[el] at hrun zT ho
 have hap:∀(g:Nat) (u:Value),u.ownBlock=some g->g<w.heap.size->v.ownBlock≠some g->(Value.slice a' ((L.map (·.1)).length+1) c').ownBlock≠some g:=fun g u _ hl hn e=>by
  rcases ho with h | h
  ·exact hn (by rw[<-h];exact e)
  ·rw[h] at e
   injection e with e
   omega
 refine⟨a',c',w',hrun,⟨L ++ [(c,u1,u2)],by simp,zT,fun i hi=>?_⟩,hg⟩
 have kk:∀(xs:yH) (u:Value),zk B w u xs->(∀g,u.ownBlock=some g->v.ownBlock≠some g)->zk B w' u xs:=fun xs u hp hn=>hp.kept hg.size fun g e=>hg.block g (hp.lt g e).2 fun e2=>hn g e e2.symm
 rcases Nat.lt_or_ge i L.length with yz | hge
 ·obtain⟨p1,p2,p3,p4⟩:=hr i yz
  rw[List.getElem_append_left yz]
  exact⟨kk _ _ p1 p3,kk _ _ p2 p4,fun g e=>hap g _ e (p1.lt g e).2 (p3 g e),fun g e=>hap g _ e (p2.lt g e).2 (p4 g e)⟩
 ·have:i=L.length:=by simp at hi;omega
  subst this
  simp only[List.getElem_append_right zD,Nat.sub_self,List.getElem_cons_zero]
  exact⟨kk _ _ h1 a1,kk _ _ h2 a2,fun g e=>hap g _ e (h1.lt g e).2 (a1 g e),fun g e=>hap g _ e (h2.lt g e).2 (a2 g e)⟩
def xr (m:Mc) (i k:Nat):List Cl:=(List.range k).map fun q=>uj m i q (frAt m (i:Int) (q:Int))
def qg (m:Mc) (i:Nat):List Cl:=(List.range i).flatMap fun j=>xr m j (pgAt m (j:Int)).zh.length
def jr (m:Mc) (k:Nat):List Cl:=(List.range k).map fun q:Nat=>xI m (uR m (q:Int))
def ko (m:Mc):Hp:=⟨qg m m.zd.length ++ jr m m.ze.length,wQ m,0,[],0⟩
theorem Vr (m:Mc) (i k:Nat):xr m i (k+1)=xr m i k ++ [uj m i k (frAt m (i:Int) (k:Int))]:=by simp[xr,List.range_succ]
theorem Zq (m:Mc) (i:Nat):qg m (i+1)=qg m i ++ xr m i (pgAt m (i:Int)).zh.length:=by simp[qg,List.range_succ]
theorem Vz (m:Mc) (k:Nat):jr m (k+1)=jr m k ++ [xI m (uR m (k:Int))]:=by simp[jr,List.range_succ]
theorem Z7 (m:Mc) (i k:Nat):(xr m i k).length=k:=by simp[xr]
theorem Ye (m:Mc) (k:Nat):(jr m k).length=k:=by simp[jr]
theorem vx {m:Mc}:∀{i:Nat},i<=m.zd.length->(qg m i).length=yS m.zd i
 | 0,_=>by simp[qg,uD]
 | i+1,h=>by rw[Zq,List.length_append,vx (Nat.le_of_succ_le h),Z7,kX (show i<m.zd.length by omega),xy (show i<m.zd.length by omega)]
structure Told (m:Mc):Prop where
 fr:∀i k,(hi:i<m.zd.length)->(hk:k<m.zd[i].zh.length)->(m.zd[i].zh[k].zg.length<=1000/\m.zd[i].zh[k].zf.length<=1000) /\
  (∀q,(hq:q<m.zd[i].zh[k].zg.length)->m.zd[i].zh[k].zg[q].1=2->xg m m.zd[i].zh[k].zg[q].2=true)/\(∀q,(hq:q<m.zd[i].zh[k].zf.length)->m.zd[i].zh[k].zf[q].1=2->xg m m.zd[i].zh[k].zf[q].2=true)
 bs:∀i,(hi:i<m.zd.length)->(m.zd[i].base == -1 || xg m m.zd[i].base)=true
 tw:∀j,(hj:j<m.ze.length)->(m.ze[j].left.zg.length<=1000/\m.ze[j].left.zf.length<=1000)/\(m.ze[j].page=-1->(m.ze[j].left.zi == -1 || xg m m.ze[j].left.zi)=true /\
  (∀i,(hi:i<m.ze[j].left.zg.length)->m.ze[j].left.zg[i].1=2->(m.ze[j].left.zg[i].2 == -1 || xg m m.ze[j].left.zg[i].2)=true)/\(∀i,(hi:i<m.ze[j].left.zf.length)->m.ze[j].left.zf[i].1=2->(m.ze[j].left.zf[i].2 == -1 || xg m m.ze[j].left.zf[i].2)=true))
end Go.Proofs.YtbjgjjkgfnfejaaGreatDoor
