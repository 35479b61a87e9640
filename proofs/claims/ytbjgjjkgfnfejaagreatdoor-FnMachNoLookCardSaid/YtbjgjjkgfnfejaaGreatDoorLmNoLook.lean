/-
  Where no value is a call, just those that wait are seen. Nothing of the translation is used here.
-/
import Derived.Test.YtbjgjjkgfnfejaaGreatDoorNoLook
import Derived.Test.YtbjgjjkgfnfejaaGreatDoorSView
import Derived.Test.YtbjgjjkgfnfejaaGreatDoorDraw11
namespace Go.Proofs.YtbjgjjkgfnfejaaGreatDoor
set_option maxHeartbeats 4000000
set_option maxRecDepth 100000
open Go.RowKit
theorem KE {n:Nat}:∀(vs:yH) (ps:List Nat),ZS vs->comeV n ps vs=ps
 | [],_,_=>rfl
 | v :: r,ps,h=>by
  show comeV n (if v.1=2 then qn n ps v.2 else ps) r=ps
  rw[if_neg (h v List.mem_cons_self)]
  exact KE r ps (fun u hu=>h u (List.mem_cons_of_mem _ hu))
theorem zar {n:Nat} {ps:List Nat} {p:Int} {q:Nat} (h:q∈qn n ps p):q∈ps\/(q:Int)=p:=by
 unfold qn at h
 split at h
 ·rename_i hc
  rcases List.mem_append.1 h with h | h
  ·exact .inl h
  ·obtain rfl:q=p.toNat:=by simpa using h
   exact .inr (by omega)
 ·exact .inl h
theorem KP {cs:List Cl} {P:Nat->Prop} (hP:∀ps p,(∀q∈ps,P q)->P p->∀q∈comeC cs.length ps (cs.getD p Cl.none),P q):∀(f j:Nat) (ps:List Nat),(∀q∈ps,P q)->∀q∈foundF cs f j ps,P q
 | 0,_,_,h=>h
 | f+1,j,ps,h=>by
  show ∀q∈(if hj:j<ps.length then foundF cs f (j+1) (comeC cs.length ps (cs.getD ps[j] Cl.none)) else ps),P q
  split
  ·rename_i hj
   exact KP hP f (j+1) _ (hP ps _ h (h _ (List.getElem_mem hj)))
  ·exact h
theorem zbE {cs:List Cl} {f:Nat} {a:Int} {l:List Nat} (h:qh cs f a=some l) {p q:Nat} (hp:p∈l) (hq:(q:Int)=(cs.getD p Cl.none).zi):q∈l:=by
 obtain⟨i,hi,rfl⟩:=List.getElem_of_mem hp
 obtain⟨hb,h1,h2⟩:=(VR f a l h).2.2 i hi
 rw[show cs.getD l[i] Cl.none=cs[l[i]] by simp[hb]] at hq
 by_cases hn:i+1<l.length
 ·rw[h1 hn] at hq
  obtain rfl:q=l[i+1]:=by exact_mod_cast hq
  exact List.getElem_mem hn
 ·have:=h2 (by omega)
  omega
theorem ZR.seen {ms:Ms} {h:Hp} (g:Good ms h) (n:ZR h):(jq h).length=(xL h.ze h.now).length:=by
 obtain⟨l,hw⟩:=g.w
 obtain⟨f,hf⟩:=hw.ch
 rw[hw.chain,U3]
 refine Nat.le_antisymm (xX _ _ (zaw h).nd fun k hk=>?_) (xX _ _ hw.nodup fun k hk=>?_)
 ·refine KP (P:=fun k=>k∈l) (fun ps p hps hp q hq=>?_) h.ze.length 0 (qn h.ze.length [] h.now) (fun q hq=>?_) k hk
  ·obtain⟨hpl,_⟩:=hw.mem hp
   have e:h.ze.getD p Cl.none=h.ze[p]:=by simp[hpl]
   obtain⟨n1,n2⟩:=n.1 _ (List.getElem_mem hpl)
   unfold comeC at hq
   rw[e,KE _ _ n2,KE _ _ n1] at hq
   rcases zar hq with hq | hq
   ·exact hps q hq
   ·exact zbE hf hp (by rw[e];exact hq)
  ·rcases zar hq with hq | hq
   ·cases hq
   ·have hs:=VR f h.now l hf
    cases l with
    | nil=>have:=hs.2.1 rfl;omega
    | cons x t =>
     have:=hs.1 (by simp)
     obtain rfl:q=x:=by
      have e:(q:Int)=(x:Int):=by rw[hq];exact this.symm
      exact_mod_cast e
     exact List.mem_cons_self
 ·exact Ve (VQ f h.now l hf (zdF g) k hk)
def Kd (o:Int × Int):Int × Int:=if o.1=11 then(1,3) else o
def uA (ms:Ms):Ms:=ms.map fun m=>(m.1,m.2.1,m.2.2.map Kd)
theorem zaZ (ms:Ms):XQ (uA ms):=fun m hm op ho=>by
 unfold uA at hm
 obtain⟨x,_,rfl⟩:=List.mem_map.1 hm
 obtain⟨y,_,rfl⟩:=List.mem_map.1 ho
 unfold Kd
 split
 ·decide
 ·assumption
structure NL (w0 w:World) (vp v:Value) (ms:List MM):Prop where
 row:kJ (w0.heap.size+3) w v ms
 box:w.rowIs (w0.heap.size+1+1) 25 1 (fun _=>v)
 inp:w.rowIs w0.heap.size 25 1 (fun _=>vp)
 res:w.rowIs (w0.heap.size+1) 25 1 (fun _=>zQ)
 be:zO w0 w
theorem NL.below {w0 w w':World} {vp v:Value} {ms:List MM} (h:NL w0 w vp v ms) (hb:zO w w'):NL w0 w' vp v ms :=
 ⟨h.row.kept (Ze hb none) (fun g e=>by cases e),yU hb h.box,yU hb h.inp,yU hb h.res,h.be.trans (hb.mono h.be.size)⟩
theorem NL.stored {w0 w w':World} {vp v v':Value} {ms:List MM} (h:NL w0 w vp v ms) (qF:w.grownBy w' v.ownBlock) {A T:Int} {vo:Value} {L:yH} (hrow':jN (w0.heap.size+3) w' v' (ms.map MM.tri ++ [(A,T,vo)])) (ho:ye (w0.heap.size+3) w vo L) (hd:∀m∈ms,∀k,m.2.2.1.ownBlock=some k->vo.ownBlock≠some k) :
 (w'.cell? (zH (w0.heap.size+1+1) 0)=some v/\w'.frozen? (zH (w0.heap.size+1+1) 0)=false)/\NL w0 (w'.setCell (zH (w0.heap.size+1+1) 0) v') vp v' (ms ++ [(A,T,vo,L)]):=by
 have yd:∀k,v.ownBlock=some k->w0.heap.size<=k:=fun k e=>by have:=(h.row.row.lt k e).1;omega
 have h4:=yT h.box qF (fun e=>jH h.box h.row.row (by decide) e.symm)
 have h5:=yT h.res qF (fun e=>jH h.res h.row.row (by decide) e.symm)
 have h7:=yT h.inp qF (fun e=>jH h.inp h.row.row (by decide) e.symm)
 have h6:∀u L,ye (w0.heap.size+3) w u L->ye (w0.heap.size+3) w' u L:=fun u L hu=>hu.kept qF (fun k e hk=>WM h.row.row hu k e hk)
 have k:=qM w' (w0.heap.size+1+1) 0 v'
 have hmr:jN (w0.heap.size+3) w' v' ((ms ++ [(A,T,vo,L)]).map MM.tri):=by simpa [MM.tri] using hrow'
 have hops:∀m∈ms ++ [((A,T,vo,L):MM)],ye (w0.heap.size+3) w' m.2.2.1 m.2.2.2:=by
  intro m hm
  rcases List.mem_append.1 hm with hm | hm
  ·exact h6 _ _ (h.row.ops m hm)
  ·simp at hm;subst hm;exact h6 _ _ ho
 refine⟨⟨h4.cell (i:=0) (by decide),h4.frozen 0⟩,⟨⟨hmr.kept k (fun q hq hk=>by cases hq;exact jH h4 hmr (by decide) hk),fun m hm=>(hops m hm).kept k (fun q hq hk=>by cases hq;exact wU h4 (hops m hm) (by decide) hk),?_⟩,(h4.set 0 v').congr (fun i hi=>?_),yT h7 k (by simp;omega),yT h5 k (by simp),?_⟩⟩
 ·exact List.pairwise_append.2 ⟨h.row.dis,by simp,fun m hm n hn=>by simp at hn;subst hn;exact hd m hm⟩
 ·match i,hi with | 0,_=>simp
 ·exact(h.be.grown qF h.be.size yd).setCell (p:=zH (w0.heap.size+1+1) 0) (by show w0.heap.size<=w0.heap.size+1+1;omega) _
theorem WU (ms:List MM) (m:MM):qj (ms ++ [m])=qj ms ++ [(m.1,m.2.1,m.2.2.2)]:=by simp[qj]
theorem WI (vp:Value) (ms0:Ms) (w:World) (hp:yD w vp ms0) (hl7:ms0.length<=7) (ze4:∀m∈ms0,m.2.2.length<=14) :
 Calls Tryz.prog 12 #[.agg #[vp]] w fun e w'=>(∃v,e=.returned (.agg #[v])/\yD w' v (uA ms0))/\zO w w':=by
 have hP:NL w (((w.alloc (.cells #[vp] 25)).alloc (.cells #[.slice none 0 0] 25)).alloc (.cells #[.slice none 0 0] 25)) vp (.slice none 0 0) []:=by
  refine⟨kJ.nil _ _,?_,((vG w vp).alloc _).alloc _,?_,((zR _ _).alloc (by simp) _).alloc (by simp;omega) _⟩
  ·have:=vG ((w.alloc (.cells #[vp] 25)).alloc (.cells #[.slice none 0 0] 25)) (.slice none 0 0)
   simpa using this
  ·have:=(vG (w.alloc (.cells #[vp] 25)) (.slice none 0 0)).alloc (.cells #[.slice none 0 0] 25)
   simpa using this
 obtain⟨aS,cS,hvS,hmx,hcm⟩:=id hp
 subst hvS
 have HCM:Hid (∀i,(h:i<ms0.length)->∃b o vo,aS=some ⟨b,o,none⟩/\w.cell? (zH b (o+i * 3))=some (zI ms0[i].1)/\w.cell? (zH b (o+i * 3+1))=some (zI ms0[i].2.1)/\w.cell? (zH b (o+i * 3+2))=some vo/\yi w vo ms0[i].2.2):=hcm
 clear hcm hp
 go_enter Tryz.func12,Tryz.ntmps12
 go_wp2_with fail
 generalize ((w.alloc (.cells #[.slice aS ms0.length cS] 25)).alloc (.cells #[.slice none 0 0] 25)).alloc (.cells #[.slice none 0 0] 25)=W2 at hP ⊢
 go_loopg [4,5,6,7,8] ms0.length (fun d i _ _ _ _ wr=>∃(k:Nat) (v:Value) (ms:List MM),k<=ms0.length/\d=ms0.length - k/\i=zI k/\Hid (qj ms=uA (ms0.take k))/\NL w wr (.slice aS ms0.length cS) v ms)
 case atStart=>exact⟨0,_,[],Nat.zero_le _,rfl,rfl,rfl,hP⟩
 case round =>
  obtain⟨k,v,ms,hk,rfl,rfl,hpl,hNL⟩:=hrel
  obtain⟨wo,rfl⟩:∃wo,wo=wr:=⟨_,rfl⟩
  have Zm:Hid (ms.length=k):=by
   have e:=congrArg List.length hpl.out
   show ms.length=k
   simp[qj,uA] at e
   omega
  have hm7:ms.length<=7:=by have:=Zm.out;omega
  obtain⟨aV,cV,K1⟩:=hNL.row.shape
  subst K1
  have pc:=hNL.inp.cell (i:=0) (by decide)
  have hzw:=hNL.be.size
  have hzb:=hNL.box.lt
  clear hP
  by_cases yt:k<ms0.length
  ·have v7:(k:Int)<(ms0.length:Int):=by omega
   obtain⟨b,o,vo,rfl,c0,c1,c2,hop⟩:=HCM.out k yt
   have d0:=zc hNL.be c0
   have d1:=zc hNL.be c1
   have d2:=zc hNL.be c2
   have HOP:Hid (yi w vo ms0[k].2.2):=hop
   have KR:=ze4 _ (List.getElem_mem yt)
   have HTK:Hid (uA (ms0.take (k+1))=uA (ms0.take k) ++ [(ms0[k].1,ms0[k].2.1,ms0[k].2.2.map Kd)]):=by
    show _=_
    unfold uA
    rw[List.take_succ_eq_append_getElem yt,List.map_append]
    rfl
   clear hop c0 c1 c2
   generalize ms0[k]=m0 at *
   obtain⟨A,T,L⟩:=m0
   dsimp only at *
   obtain⟨ao,co,jw,Yu,hcL⟩:=HOP.out
   subst jw
   have bm:=Qf wo A T (.slice ao L.length co)
   have hBm:zO wo (wo.alloc (.cells #[.int .i64 A,.int .i64 T,.slice ao L.length co] 68)):=zR _ _
   have om:=ye.made (wo.alloc (.cells #[.int .i64 A,.int .i64 T,.slice ao L.length co] 68))
   simp only[World.size_alloc] at om
   have bm1:=bm.alloc (.cells #[] 70)
   have hB1:zO wo ((wo.alloc (.cells #[.int .i64 A,.int .i64 T,.slice ao L.length co] 68)).alloc (.cells #[] 70)):=hBm.alloc (by simp) _
   clear hcL bm hBm
   go_upto_region 7 with fail
   generalize (wo.alloc (.cells #[.int .i64 A,.int .i64 T,.slice ao L.length co] 68)).alloc (.cells #[] 70)=W3 at *
   clear d0 d1 d2
   go_wp2_with fail
   go_loopg [6,7,8] L.length (fun d v6 i _ wr=>∃q:Nat,q<=L.length/\d=L.length - q/\i=zI q/\ye (wo.heap.size+1) wr v6 ((L.take q).map Kd)/\wr.rowIs wo.heap.size 68 3 (VX A T (.slice ao L.length co))/\zO wo wr)
   case atStart=>exact⟨0,Nat.zero_le _,rfl,rfl,om,bm1,hB1⟩
   case round =>
    obtain⟨q,hq,rfl,rfl,ho6,bq,hBq⟩:=hrel
    have x0:=bq.cell (i:=0) (by decide)
    have x1:=bq.cell (i:=1) (by decide)
    have x2:=bq.cell (i:=2) (by decide)
    have xf2:=bq.frozen 2
    simp only[VX] at x0 x1 x2
    have hzq:=hBq.size
    have hbq:=bq.lt
    obtain⟨M6,hM6⟩:∃M6,(L.take q).map Kd=M6:=⟨_,rfl⟩
    rw[hM6] at ho6
    have HM6:Hid ((L.take q).map Kd=M6):=hM6
    have hM14:M6.length<=14:=by rw[<-hM6];simp;omega
    have HML:Hid (M6.length=q):=by show M6.length=q;rw[<-hM6];simp;omega
    clear hM6
    obtain⟨a6,c6,hv6⟩:=ho6.shape
    subst hv6
    have hbw:zO w wr:=hNL.be.trans (hBq.mono hNL.be.size)
    by_cases hqlt:q<L.length
    ·have hqz:(q:Int)<(L.length:Int):=by omega
     obtain⟨_,_,hv0,_,hcL⟩:=HOP.out
     injection hv0 with hv1 _ hv3
     subst hv3
     obtain⟨b6,o6,hao,k0,k1⟩:=hcL q hqlt
     rw[hao] at hv1
     subst hv1
     have e0:=zc hbw k0
     have e1:=zc hbw k1
     have HT1:Hid ((L.take (q+1)).map Kd=M6 ++ [Kd L[q]]):=by
      show _=_
      rw[List.take_succ_eq_append_getElem hqlt,List.map_append,HM6.out]
      rfl
     clear hcL hao k0 k1
     generalize L[q]=op at *
     obtain⟨kd,ar⟩:=op
     dsimp only at *
     by_cases h11:kd=11
     ·subst h11
      have HO:Kd (11,ar)=(1,3):=rfl
      rw[HO] at HT1
      clear HO
      go_wp2_with (at_builtin;refine kL _ (by rfl) _ _ (by rfl) (wo.heap.size+1) _ M6 (by rfl) (World.ownsRow.alloc (World.ownsRow.alloc ho6 _) _) [(1,3)] (wr.heap.size+1) _ (by first | rfl | (simp;rfl)) (World.news_of_block (by first | exact Go.Deep.blk_alloc_new _ _ | (have:=Go.Deep.blk_alloc_new (wr.alloc (.cells #[.int .i64 1,.int .i64 3] 70)) (.cells #[.int .i64 1,.int .i64 3] 70);simpa using this))) (by simp) (by simp;omega) (by simp;omega) ?_;intro g7 c7 w7 jF UC hB7 hlt7)
      simp only[List.length_cons,List.length_nil,Nat.zero_add] at jF
      have bq7:=yT ((bq.alloc _).alloc _) UC (fun e=>wR bq ho6 (by decide) e.symm)
      have hB7':zO wo w7:=((hBq.alloc hzq _).alloc (by simp;omega) _).grown UC (by simp;omega) (fun k e=>by have:=(ho6.lt k e).1;omega)
      clear bq UC ho6 hBq x0 x1 x2 xf2 e0 e1
      go_wp2
      go_roundg (L.length - (q+1))
      case measure=>omega
      case rel=>exact⟨q+1,by omega,rfl,by go_num,by rw[HT1.out];exact jF,bq7,hB7'⟩
     ·have HO:Kd (kd,ar)=(kd,ar):=if_neg h11
      rw[HO] at HT1
      clear HO
      have h11z:¬(kd=(11:Int)):=h11
      go_wp2_with (at_builtin;refine kL _ (by rfl) _ _ (by rfl) (wo.heap.size+1) _ M6 (by rfl) (World.ownsRow.alloc (World.ownsRow.alloc ho6 _) _) [(kd,ar)] (wr.heap.size+1) _ (by first | rfl | (simp;rfl)) (World.news_of_block (by first | exact Go.Deep.blk_alloc_new _ _ | (have:=Go.Deep.blk_alloc_new (wr.alloc (.cells #[.int .i64 kd,.int .i64 ar] 70)) (.cells #[.int .i64 kd,.int .i64 ar] 70);simpa using this))) (by simp) (by simp;omega) (by simp;omega) ?_;intro g7 c7 w7 jF UC hB7 hlt7)
      simp only[List.length_cons,List.length_nil,Nat.zero_add] at jF
      have bq7:=yT ((bq.alloc _).alloc _) UC (fun e=>wR bq ho6 (by decide) e.symm)
      have hB7':zO wo w7:=((hBq.alloc hzq _).alloc (by simp;omega) _).grown UC (by simp;omega) (fun k e=>by have:=(ho6.lt k e).1;omega)
      clear bq UC ho6 hBq x0 x1 x2 xf2 e0 e1
      go_wp2
      go_roundg (L.length - (q+1))
      case measure=>omega
      case rel=>exact⟨q+1,by omega,rfl,by go_num,by rw[HT1.out];exact jF,bq7,hB7'⟩
    ·obtain rfl:q=L.length:=by omega
     have HMF:Hid (L.map Kd=M6):=by have:=HM6.out;rw[List.take_length] at this;exact this
     have hBel:zO wo (wr.setCell (zH wo.heap.size 2) (.slice a6 M6.length c6)):=hBq.setCell (p:=zH wo.heap.size 2) zD _
     have hN4:=hNL.below hBel
     have qd:ye (w.heap.size+3) (wr.setCell (zH wo.heap.size 2) (.slice a6 M6.length c6)) (.slice a6 M6.length c6) M6:=(ho6.mono (by omega)).kept (qM wr wo.heap.size 2 _) (fun q hq hk=>by cases hq;exact wR bq ho6 (by decide) hk)
     have bm4:=bq.set 2 (.slice a6 M6.length c6)
     have HD:∀m∈ms,∀k,m.2.2.1.ownBlock=some k->(Value.slice a6 M6.length c6).ownBlock≠some k:=fun m hm k e e'=>by have:=((hNL.row.ops m hm).lt k e).2;have:=(ho6.lt k e').1;omega
     go_upto_region 15 with fail
     generalize wr.setCell (zH wo.heap.size 2) (.slice a6 M6.length c6)=w4 at *
     have e0:w4.cell? (zH wo.heap.size 0)=some (zI A):=bm4.cell (i:=0) (by decide)
     have e1:w4.cell? (zH wo.heap.size 1)=some (zI T):=bm4.cell (i:=1) (by decide)
     have e2:w4.cell? (zH wo.heap.size 2)=some (.slice a6 M6.length c6):=bm4.cell (i:=2) (by decide)
     have o4:=hN4.box.cell (i:=0) (by decide)
     have hz4:=hN4.be.size
     have Za:=hN4.box.lt
     have XK:=bm4.lt
     clear bm4 bq x0 x1 x2 xf2 hNL hBq ho6 hBel pc hbw
     go_wp2_with (at_builtin;refine ZZ _ (by rfl) _ _ (by rfl) (w.heap.size+3) _ (ms.map MM.tri) (by first | rfl | (simp;rfl)) (World.ownsRow.alloc hN4.row.row _) [(A,T,.slice a6 M6.length c6)] (by simp;exact⟨_,_,_,rfl⟩) ⟨w4.heap.size,0,none⟩ _ (by rfl) (World.news_of_block (Go.Deep.blk_alloc_new w4 _)) (by simp) (by simp;omega) (by simp;omega) ?_;intro g5 cp5 w5 yq Zb hB5 Wv;obtain⟨⟨q0,f0⟩,hPY⟩:=(hN4.below (zR _ _)).stored Zb yq (World.ownsRow.alloc qd _) HD)
     simp only[List.length_map,List.length_cons,List.length_nil,Nat.zero_add] at hPY
     have HPL:Hid (qj (ms ++ [((A,T,.slice a6 M6.length c6,M6):MM)])=uA (ms0.take (k+1))):=by
      show _=_
      rw[WU,hpl.out,HTK.out,HMF.out]
     clear q0 f0 Zb yq hB5 Wv hN4 HD qd o4 e0 e1 e2
     go_wp2
     go_roundg (ms0.length - (k+1))
     case measure=>omega
     case rel=>exact⟨k+1,_,_,by omega,rfl,by go_num,HPL,hPY⟩
  ·obtain rfl:k=ms0.length:=by omega
   have q0:=hNL.box.cell (i:=0) (by decide)
   have r0:=hNL.res.cell (i:=0) (by decide)
   have f0:=hNL.res.frozen 0
   have hBF:zO w (wo.setCell (zH (w.heap.size+1) 0) (.slice aV ms.length cV)):=hNL.be.setCell (p:=zH (w.heap.size+1) 0) (by show w.heap.size<=w.heap.size+1;omega) _
   have hPR:=hNL.row.low (qM wo (w.heap.size+1) 0 (.slice aV ms.length cV)) (by omega)
   have d9:=World.cell?_setCell_same wo ⟨w.heap.size+1,0,none⟩ (.slice aV ms.length cV) r0
   have hMA:yD (wo.setCell (zH (w.heap.size+1) 0) (.slice aV ms.length cV)) (.slice aV ms.length cV) (uA ms0):=by
    have e:=hpl.out
    rw[List.take_length] at e
    rw[<-e]
    exact hPR.meths (by unfold maxLen;omega) (fun m hm=>by
     have h1:(m.1,m.2.1,m.2.2.2)∈qj ms:=List.mem_map.2 ⟨m,hm,rfl⟩
     rw[e] at h1
     unfold uA at h1
     obtain⟨x,hx,he⟩:=List.mem_map.1 h1
     have h2:=ze4 x hx
     have h3:m.2.2.2=x.2.2.map Kd:=by injection he with _ he;injection he with _ he;exact he.symm
     rw[h3,List.length_map]
     unfold maxLen
     omega)
   clear hPR hNL
   go_wp2
   generalize wo.setCell (zH (w.heap.size+1) 0) (.slice aV ms.length cV)=WF at *
   exact bodyPost_ret (v:=.agg #[.slice aV ms.length cV]) (by simp[results,Tryz.results12,go_sem,d9]) rfl ⟨⟨_,rfl,hMA⟩,hBF⟩
theorem zaS (v:Value) (l:yH) (w:World) (h:yi w v l) (hn:ZS l) (hl:l.length<=1000000) :
 Calls Tryz.prog 16 #[v] w fun e w'=>e=.returned (.bool false)/\zO w w':=by
 obtain⟨a,c,hv,_,hc⟩:=h
 subst hv
 have HC:Hid (∀i,(h:i<l.length)->∃b o,a=some ⟨b,o,none⟩/\w.cell? (zH b (o+i * 2))=some (zI l[i].1)/\w.cell? (zH b (o+i * 2+1))=some (zI l[i].2)):=hc
 clear hc
 go_enter Tryz.func16,Tryz.ntmps16
 go_wp2
 go_loopg [3] l.length (fun d i wr=>∃k:Nat,k<=l.length/\d=l.length - k/\i=zI k/\wr=w)
 case atStart=>exact⟨0,Nat.zero_le _,rfl,rfl,rfl⟩
 case round =>
  obtain⟨k,hk,rfl,rfl,hwr⟩:=hrel
  obtain rfl:=hwr.symm
  by_cases yt:k<l.length
  ·have v7:(k:Int)<(l.length:Int):=by omega
   obtain⟨b,o,rfl,c0,_⟩:=HC.out k yt
   have h2:=hn _ (List.getElem_mem yt)
   generalize l[k].1=kd at *
   have h2z:¬kd=(2:Int):=h2
   go_wp2
   go_roundg (l.length - (k+1))
   case measure=>omega
   case rel=>exact⟨k+1,by omega,rfl,by go_num,rfl⟩
  ·obtain rfl:k=l.length:=by omega
   go_wp2
   go_ret
   exact⟨rfl,zS⟩
theorem zdL {ms:Ms} {h:Hp} (g:Good ms h):qQ h.ze h.now=(xL h.ze h.now).length :=
 We (fun i hi=>(g.cl i hi).sd) g.head.now.1 g.head.now.2
theorem za0 {qs:Ms} (hn:XQ qs) (hp:yn qs=true) (n:Nat):Good qs (qi qs n (kh qs))/\ZS (qi qs n (kh qs)).zm/\(jq (qi qs n (kh qs))).length=qQ (qi qs n (kh qs)).ze (qi qs n (kh qs)).now/\(qi qs n (kh qs)).zm.length<=n:=by
 have g0:=zaC.1 (zaY hp)
 have n0:ZR (kh qs):=by
  rw[ua hp]
  refine⟨fun c hc=>?_,ZS.nil⟩
  obtain rfl:c=⟨0,0,List.replicate (yr qs) (0,0),[],-1,false⟩:=by simpa using hc
  refine⟨fun v hv=>?_,ZS.nil⟩
  rw[(List.mem_replicate.1 hv).2]
  decide
 have g:=Good.run n _ g0
 have nn:=ZR.run hn n n0
 refine⟨g,nn.2,(nn.seen g).trans (zdL g).symm,?_⟩
 have h1:=VA qs n (kh qs)
 have h2:(kh qs).zm.length=0:=by rw[ua hp];rfl
 omega
end Go.Proofs.YtbjgjjkgfnfejaaGreatDoor
