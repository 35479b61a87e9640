/-
  HeapNew of the program: the first call of a program that is ok, in memory of its own; else nothing.
-/
import Derived.Test.YtbjgjjkgfnfejaaGreatDoorSMem2
import Derived.Test.YtbjgjjkgfnfejaaGreatDoorStepT
namespace Go.Proofs.YtbjgjjkgfnfejaaGreatDoor
set_option maxHeartbeats 4000000
set_option maxRecDepth 100000
open Go.RowKit
def yx (ms:zM):Nat:=(ms.getD 0 (0,0,[])).2.1.toNat
def kZ (ms:zM):Hp :=
 if yr ms=true then⟨[⟨0,0,List.replicate (yx ms) (0,0),[],-1,false⟩],0,1,[],0⟩ else⟨[],0,0,[],0⟩
theorem Zw {ms:zM} (h:yr ms=true):∃hl:0<ms.length,0<=ms[0].2.1/\ms[0].2.1<=4/\(yx ms:Int)=ms[0].2.1/\yx ms<=4:=by
 unfold yr at h
 simp only[Bool.and_eq_true] at h
 have hl:=zF.1 h.1.1
 have h0:0<ms.length:=by omega
 have ha:=List.all_eq_true.1 h.2 _ (List.getElem_mem h0)
 unfold qd at ha
 simp only[Bool.and_eq_true] at ha
 have a1:=zF.1 ha.1.1.1
 have a2:=zF.1 ha.1.1.2
 have e:yx ms=(ms[0].2.1).toNat:=by simp[yx,h0]
 exact⟨h0,by omega,by omega,by rw[e];omega,by rw[e];omega⟩
theorem qZ.none (B:Nat) (w:World):qZ B w (zQ) (zQ) ⟨[],0,0,[],0⟩ (fun _=>(zQ,zQ)) :=
 ⟨⟨.inl ⟨rfl,rfl⟩,fun i hi=>absurd hi yB,fun q hq=>by simp at hq⟩,zk.nil _ _,fun g e=>by simp[Value.ownBlock] at e⟩
theorem zeV {B gc gt n c:Nat} {w:World} {ty:TypeId} {m pc s:Int} {d:Bool} {ts:yH} (hB:B<=gc) (qF:gt≠gc) (ht:zk B w (zK gt 0 n c) ts)
 (zT:w.rowIs gc ty 6 (six (zI m) (zI pc) (zK gt 0 n c) (zQ) (zI s) (.bool d))) :
 qZ B w (zK gc 0 1 1) (zQ) ⟨[⟨m,pc,ts,[],s,d⟩],0,1,[],0⟩ (fun _=>(zK gt 0 n c,zQ)):=by
 obtain⟨⟨q0,q1,q2,q3,q4,q5⟩,k0,k1,k2,k3,k4,k5⟩:=jS zT
 have hap:∀q,q<2->∀g,(lst (fun _=>(zK gt 0 n c,Value.slice none 0 0)) q).ownBlock=some g->q=0/\g=gt:=by
  intro q hq g e
  unfold lst at e
  split at e
  ·simp[Value.ownBlock] at e
   omega
  ·simp[Value.ownBlock] at e
 refine⟨⟨.inr ⟨gc,0,1,rfl,hB,zT.lt,Nat.le_refl _,by unfold maxLen;omega,fun i hi=>?_,fun i hi=>?_⟩,fun i hi=>?_,fun q hq g e=>?_⟩,zk.nil _ _,fun g e=>by simp[Value.ownBlock] at e⟩
 ·have h6:i=0\/i=1\/i=2\/i=3\/i=4\/i=5:=by omega
  rcases h6 with rfl | rfl | rfl | rfl | rfl | rfl
  ·exact⟨by rw[q0];rfl,k0⟩
  ·exact⟨by rw[q1];rfl,k1⟩
  ·exact⟨by rw[q2];rfl,k2⟩
  ·exact⟨by rw[q3];rfl,k3⟩
  ·exact⟨by rw[q4];rfl,k4⟩
  ·exact⟨by rw[q5];rfl,k5⟩
 ·obtain rfl:i=0:=by simpa using hi
  exact⟨q0,q1,q2,q3,q4,q5⟩
 ·obtain rfl:i=0:=by simpa using hi
  exact⟨ht,zk.nil _ _⟩
 ·obtain⟨rfl,rfl⟩:=hap q (by simpa using hq) g e
  refine⟨fun e2=>by simp[Value.ownBlock] at e2;omega,fun q' hq' hne' e2=>?_⟩
  exact hne' (hap q' (by simpa using hq') g e2).1
theorem ZT {B:Nat} (w:World) (t:Nat) (ty:TypeId) (hB:B<=w.heap.size) (ht:t<=1000):zk B (w.alloc (.cells (madeCells #[zI 0,zI 0] (t * 2)) ty)) (zK w.heap.size 0 t t) (List.replicate t (0,0)):=by
 have h:=Vq w (t * 2) ty []
 refine .inr ⟨w.heap.size,0,t,by simp,hB,h.lt,by simp,by unfold maxLen;omega,fun i hi=>?_,fun i hi=>?_⟩
 ·rw[Nat.zero_add]
  exact⟨by rw[h.cell hi];rfl,h.frozen i⟩
 ·simp at hi
  rw[Nat.zero_add]
  have h1:=h.cell (i:=i * 2) (by omega)
  have h2:=h.cell (i:=i * 2+1) (by omega)
  simp only[List.getElem_replicate]
  rw[h1,h2,if_neg (by omega),if_neg (by omega)]
  exact⟨rfl,rfl⟩
theorem Jz (vp:Value) (ms:zM) (w:World) (h:yD w vp ms) :
 Calls Tryz.prog 19 #[.agg #[vp]] w fun e w'=>zO w w'/\∃vc vs V,e=.returned (.tuple #[.agg (jK vc vs (kZ ms)),.bool (yr ms)])/\qZ w.heap.size w' vc vs (kZ ms) V:=by
 obtain⟨a,cap,rfl,hl,hc⟩:=id h
 have hA:zO w ((w.alloc (.cells #[.slice a ms.length cap] 25)).alloc (.cells #[.slice none 0 0,.int .i64 0,.int .i64 0,.slice none 0 0,.int .i64 0] 44)):=(zR _ _).alloc (by simp) _
 have bp:((w.alloc (.cells #[.slice a ms.length cap] 25)).alloc (.cells #[.slice none 0 0,.int .i64 0,.int .i64 0,.slice none 0 0,.int .i64 0] 44)).cell? (zH w.heap.size 0)=some (.slice a ms.length cap):=by simp[go_sem]
 have bh:=jj (w.alloc (.cells #[.slice a ms.length cap] 25)) 44 (.slice none 0 0) (.int .i64 0) (.int .i64 0) (.slice none 0 0) (.int .i64 0)
 simp only[World.size_alloc] at bh
 go_enter Tryz.func19,Tryz.ntmps19
 go_wp2_with fail
 generalize (w.alloc (.cells #[.slice a ms.length cap] 25)).alloc (.cells #[.slice none 0 0,.int .i64 0,.int .i64 0,.slice none 0 0,.int .i64 0] 44)=W0 at *
 have z0:=hA.size
 refine(uc _ ms _ (h.below hA)).mono ?_
 rintro e w1 ⟨rfl,qa⟩
 have B1:zO w w1:=hA.trans (qa.mono z0)
 have bp1:=zc qa bp
 have bh1:=yp qa bh
 have z1:=B1.size
 clear qa bp bh hA z0
 obtain⟨⟨x0,x1,x2,x3,x4⟩,⟨f0,f1,f2,f3,f4⟩⟩:=zq bh1
 by_cases hpf:yr ms=false
 ·have hN:Hid (kZ ms=⟨[],0,0,[],0⟩):=by show kZ ms=_;simp[kZ,hpf]
  have R9:=jM (kP (uw (uv (wi bh1 (zQ)) (zI 0)) (zI 0)) (zQ)) (zI 0)
  have B9:=((((B1.setCell (p:=zH (w.heap.size+1) 0) (Nat.le_succ _) (zQ)).setCell (p:=zH (w.heap.size+1) 1) (Nat.le_succ _) (zI 0)).setCell (p:=zH (w.heap.size+1) 2) (Nat.le_succ _) (zI 0)).setCell (p:=zH (w.heap.size+1) 3) (Nat.le_succ _) (zQ)).setCell (p:=zH (w.heap.size+1) 4) (Nat.le_succ _) (zI 0)
  go_wp2
  generalize ((((w1.setCell (zH (w.heap.size+1) 0) (zQ)).setCell (zH (w.heap.size+1) 1) (zI 0)).setCell (zH (w.heap.size+1) 2) (zI 0)).setCell (zH (w.heap.size+1) 3) (zQ)).setCell (zH (w.heap.size+1) 4) (zI 0)=W9 at *
  obtain⟨⟨q0,q1,q2,q3,q4⟩,_⟩:=zq R9
  exact bodyPost_ret (v:=.tuple #[.agg #[zQ,zI 0,zI 0,zQ,zI 0],.bool false]) (by simp[results,Tryz.results19,go_sem,q0,q1,q2,q3,q4]) rfl ⟨B9,zQ,zQ,fun _=>(zQ,zQ),by rw[hN.out,hpf];rfl,by rw[hN.out];exact qZ.none _ _⟩
 have hp:yr ms=true:=by simpa using hpf
 clear hpf
 obtain⟨hl0,ht0,JU,hte,htn⟩:=Zw hp
 obtain⟨b,o,vo,rfl,d0,d1,d2,_⟩:=hc 0 hl0
 have e1:=zc (B1.mono zD) d1
 generalize hTe:yx ms=t at *
 have HT:Hid (yx ms=t):=hTe
 clear hTe
 generalize ms[0].2.1=tz at *
 subst hte
 obtain⟨i0,hi,jT,xF,kf⟩:=info_parts Tryz.infoVal
 have hmk:∀w:World,(Instr.makeSlice 32 (zI (t:Int)) (zI (t:Int))).run Tryz.prog w=.ok (zK w.heap.size 0 t t) (w.alloc (.cells (madeCells #[zI 0,zI 0] (t * 2)) 86)):=by
  intro w
  have:=run_make (P:=Tryz.prog) w 32 86 i0 _ Tryz.underlying32 hi jT .i64 .i64 t t (by omega) (Int.le_refl _) (by rw[kf];omega) (by omega)
  simpa [xF,Value.cells] using this
 clear hi jT xF kf
 have HN:Hid (kZ ms=⟨[⟨0,0,List.replicate t (0,0),[],-1,false⟩],0,1,[],0⟩):=by rw[<-HT.out];show kZ ms=_;unfold kZ;rw[if_pos hp]
 have N3:∀o1 o2 o3,zO w1 (((w1.alloc o1).alloc o2).alloc o3):=fun o1 o2 o3=>((zR _ _).alloc (by simp) _).alloc (by simp;omega) _
 have R3:∀o1 o2 o3,(((w1.alloc o1).alloc o2).alloc o3).rowIs (w.heap.size+1) 44 5 (kq (zQ) (zI 0) (zI 0) (zQ) (zI 0)):=fun o1 o2 o3=>yp (N3 o1 o2 o3) bh1
 have x0':=fun o1 o2 o3=>(zq (R3 o1 o2 o3)).1.1
 have x1':=fun o1 o2 o3=>(zq (R3 o1 o2 o3)).1.2.1
 have x2':=fun o1 o2 o3=>(zq (R3 o1 o2 o3)).1.2.2.1
 have x3':=fun o1 o2 o3=>(zq (R3 o1 o2 o3)).1.2.2.2.1
 have x4':=fun o1 o2 o3=>(zq (R3 o1 o2 o3)).1.2.2.2.2
 have f0':=fun o1 o2 o3=>(zq (R3 o1 o2 o3)).2.1
 have f1':=fun o1 o2 o3=>(zq (R3 o1 o2 o3)).2.2.1
 have f2':=fun o1 o2 o3=>(zq (R3 o1 o2 o3)).2.2.2.1
 have f3':=fun o1 o2 o3=>(zq (R3 o1 o2 o3)).2.2.2.2.1
 have f4':=fun o1 o2 o3=>(zq (R3 o1 o2 o3)).2.2.2.2.2
 have JT:Hid _:=R3
 clear R3 x0 x1 x2 x3 x4 f0 f1 f2 f3 f4
 go_wp2_with fail
 have hbz:=bh1.lt
 have R3:=JT.out (.cells (madeCells #[.int .i64 0,.int .i64 0] (t * 2)) 86) (.cells #[.int .i64 0,.int .i64 0,.slice (some ⟨w1.heap.size,0,none⟩) t t,.slice none 0 0,.int .i64 (-1),.bool false] 96) (.cells #[.int .i64 0,.int .i64 0,.slice (some ⟨w1.heap.size,0,none⟩) t t,.slice none 0 0,.int .i64 (-1),.bool false] 96)
 have P3:=((ZT (B:=w.heap.size) w1 t 86 z1 (by omega)).below (zR _ (.cells #[.int .i64 0,.int .i64 0,.slice (some ⟨w1.heap.size,0,none⟩) t t,.slice none 0 0,.int .i64 (-1),.bool false] 96))).below (zR _ (.cells #[.int .i64 0,.int .i64 0,.slice (some ⟨w1.heap.size,0,none⟩) t t,.slice none 0 0,.int .i64 (-1),.bool false] 96))
 have S3:=wb ((w1.alloc (.cells (madeCells #[.int .i64 0,.int .i64 0] (t * 2)) 86)).alloc (.cells #[.int .i64 0,.int .i64 0,.slice (some ⟨w1.heap.size,0,none⟩) t t,.slice none 0 0,.int .i64 (-1),.bool false] 96)) 96 (.int .i64 0) (.int .i64 0) (.slice (some ⟨w1.heap.size,0,none⟩) t t) (.slice none 0 0) (.int .i64 (-1)) (.bool false)
 simp only[World.size_alloc] at S3
 have B3:=B1.trans ((N3 (.cells (madeCells #[.int .i64 0,.int .i64 0] (t * 2)) 86) (.cells #[.int .i64 0,.int .i64 0,.slice (some ⟨w1.heap.size,0,none⟩) t t,.slice none 0 0,.int .i64 (-1),.bool false] 96) (.cells #[.int .i64 0,.int .i64 0,.slice (some ⟨w1.heap.size,0,none⟩) t t,.slice none 0 0,.int .i64 (-1),.bool false] 96)).mono z1)
 clear x0' x1' x2' x3' x4' f0' f1' f2' f3' f4' JT hmk N3
 generalize ((w1.alloc (.cells (madeCells #[.int .i64 0,.int .i64 0] (t * 2)) 86)).alloc (.cells #[.int .i64 0,.int .i64 0,.slice (some ⟨w1.heap.size,0,none⟩) t t,.slice none 0 0,.int .i64 (-1),.bool false] 96)).alloc (.cells #[.int .i64 0,.int .i64 0,.slice (some ⟨w1.heap.size,0,none⟩) t t,.slice none 0 0,.int .i64 (-1),.bool false] 96)=W3 at *
 have qF:(zK w1.heap.size 0 t t).ownBlock≠some (w.heap.size+1):=fun e=>by simp[Value.ownBlock] at e;omega
 have R9:=jM (kP (uw (uv (wi R3 (zK (w1.heap.size+1+1) 0 1 1)) (zI 0)) (zI 1)) (zQ)) (zI 0)
 have B9:=((((B3.setCell (p:=zH (w.heap.size+1) 0) (Nat.le_succ _) (zK (w1.heap.size+1+1) 0 1 1)).setCell (p:=zH (w.heap.size+1) 1) (Nat.le_succ _) (zI 0)).setCell (p:=zH (w.heap.size+1) 2) (Nat.le_succ _) (zI 1)).setCell (p:=zH (w.heap.size+1) 3) (Nat.le_succ _) (zQ)).setCell (p:=zH (w.heap.size+1) 4) (Nat.le_succ _) (zI 0)
 have P9:=((((P3.set_other (p:=zH (w.heap.size+1) 0) (zK (w1.heap.size+1+1) 0 1 1) qF).set_other (p:=zH (w.heap.size+1) 1) (zI 0) qF).set_other (p:=zH (w.heap.size+1) 2) (zI 1) qF).set_other (p:=zH (w.heap.size+1) 3) (zQ) qF).set_other (p:=zH (w.heap.size+1) 4) (zI 0) qF
 have S9:=Xi (k:=w.heap.size+1) (o:=4) (Xi (k:=w.heap.size+1) (o:=3) (Xi (k:=w.heap.size+1) (o:=2) (Xi (k:=w.heap.size+1) (o:=1) (Xi (k:=w.heap.size+1) (o:=0) S3 (by omega) (zK (w1.heap.size+1+1) 0 1 1)) (by omega) (zI 0)) (by omega) (zI 1)) (by omega) (zQ)) (by omega) (zI 0)
 generalize ((((W3.setCell (zH (w.heap.size+1) 0) (zK (w1.heap.size+1+1) 0 1 1)).setCell (zH (w.heap.size+1) 1) (zI 0)).setCell (zH (w.heap.size+1) 2) (zI 1)).setCell (zH (w.heap.size+1) 3) (zQ)).setCell (zH (w.heap.size+1) 4) (zI 0)=W9 at *
 obtain⟨⟨q0,q1,q2,q3,q4⟩,_⟩:=zq R9
 have O9:=zeV (B:=w.heap.size) (by omega) (by omega) P9 S9
 exact bodyPost_ret (v:=.tuple #[.agg #[zK (w1.heap.size+1+1) 0 1 1,zI 0,zI 1,zQ,zI 0],.bool true]) (by simp[results,Tryz.results19,go_sem,q0,q1,q2,q3,q4]) rfl ⟨B9,_,_,_,by rw[HN.out,hp];rfl,by rw[HN.out];exact O9⟩
theorem ug {a b:Int} (h:a=b):Ending.returned (zI a)=Ending.returned (zI b):=by rw[h]
def Vk (xs:List Int) (v:Int):Int:=match xs.findIdx? (fun x=>x == v) with | some i=>(i:Int) | none=>-1
theorem Kq {xs:List Int} {v:Int} {k:Nat} (hk:k<xs.length) (he:xs[k]=v) (hno:∀j,(hj:j<xs.length)->j<k->xs[j]≠v):Vk xs v=(k:Int):=by
 have:xs.findIdx? (fun x=>x == v)=some k:=by
  rw[List.findIdx?_eq_some_iff_getElem]
  exact⟨hk,by simp[he],fun j hj=>by simp[hno j (by omega) hj]⟩
 unfold Vk
 rw[this]
theorem VP {xs:List Int} {v:Int} (hno:∀j,(hj:j<xs.length)->xs[j]≠v):Vk xs v=-1:=by
 have:xs.findIdx? (fun x=>x == v)=none:=by
  rw[List.findIdx?_eq_none_iff]
  intro x hx
  obtain⟨j,hj,rfl⟩:=List.getElem_of_mem hx
  simp[hno j hj]
 unfold Vk
 rw[this]
theorem zd0 {xs:List Int} {v:Int}:decide (0<=Vk xs v)=decide (v∈xs):=by
 by_cases h:v∈xs
 ·obtain⟨j,hj,e⟩:=List.getElem_of_mem h
  have hs:(xs.findIdx? (fun x=>x == v)).isSome=true:=by
   rw[List.findIdx?_isSome]
   exact List.any_eq_true.2 ⟨v,h,by simp⟩
  obtain⟨i,hi⟩:=Option.isSome_iff_exists.1 hs
  unfold Vk
  rw[hi]
  simp[h]
 ·have:=VP (xs:=xs) (v:=v) (fun j hj e=>h (e ▸ List.getElem_mem hj))
  rw[this]
  simp[h]
theorem Yd (v:Value) (xs:List Int) (x:Int) (w:World) (h:vU w v xs) :
 Calls Tryz.prog 120 #[v,zI x] w fun e w'=>e=.returned (zI (Vk xs x))/\w'=w:=by
 obtain⟨a,cap,rfl,hl,hc⟩:=h
 unfold maxLen at hl
 go_enter Tryz.func120,Tryz.ntmps120
 go_wp2
 go_loopg [5,8] xs.length (fun g _ i wr=>∃k:Nat,k<=xs.length/\g=xs.length - k/\i=zI k/\wr=w/\∀j,(hj:j<xs.length)->j<k->xs[j]≠x)
 case atStart=>exact⟨0,Nat.zero_le _,rfl,rfl,rfl,fun j _ h=>absurd h yB⟩
 case round =>
  obtain⟨k,hk,rfl,rfl,hw,hall⟩:=hrel
  obtain rfl:=hw.symm
  have H:Hid (∀j,(hj:j<xs.length)->j<k->xs[j]≠x):=hall
  clear hall hw
  by_cases yz:k<xs.length
  ·obtain⟨b,o,rfl,c0⟩:=hc k yz
   have uW:(k:Int)<(xs.length:Int):=by omega
   by_cases he:xs[k]=x
   ·have HE:Hid (Vk xs x=(k:Int)):=Kq yz he H.out
    rw[he] at c0
    go_wp2
    go_ret
    exact⟨ug HE.out.symm,rfl⟩
   ·have qF:(x == xs[k])=false:=by simp;exact fun e=>he e.symm
    have HN:Hid (∀j,(hj:j<xs.length)->j<k+1->xs[j]≠x):=fun j hj hjk=>by
     by_cases e:j=k
     ·subst e;exact he
     ·exact H.out j hj (by omega)
    have hne2:¬(x=xs[k]):=fun e=>he e.symm
    clear H
    go_wp2
    go_roundg (xs.length - (k+1))
    case measure=>omega
    case rel=>exact⟨k+1,by omega,rfl,by go_num,rfl,HN.out⟩
  ·obtain rfl:k=xs.length:=by omega
   have HE:Hid (Vk xs x=-1):=VP fun j hj=>H.out j hj hj
   go_wp2
   go_ret
   exact⟨ug HE.out.symm,rfl⟩
theorem QH (v:Value) (xs:List Int) (x:Int) (w:World) (h:vU w v xs) :
 Calls Tryz.prog 104 #[v,zI x] w fun e w'=>e=.returned (.bool (decide (x∈xs)))/\w'=w:=by
 obtain⟨a,cap,hv⟩:=h.shape
 subst hv
 go_enter Tryz.func104,Tryz.ntmps104
 go_wp2_with (go_at_call 120;refine(Yd _ xs _ _ h).mono ?_;rintro e w' ⟨rfl,hw⟩;obtain rfl:=hw.symm)
 go_ret
 exact⟨zo zd0,rfl⟩
def Z6 (ts:List Tw) (k:Nat):Nat:=((ts.take k).filter fun t=>t.page == -1).length
theorem zbz {ts:List Tw} {k:Nat} (h:k<ts.length):Z6 ts (k+1)=Z6 ts k+(if ts[k].page=-1 then 1 else 0):=by
 unfold Z6
 rw[List.take_add_one,List.getElem?_eq_getElem h,List.filter_append]
 simp only[Option.toList_some,List.length_append]
 by_cases e:ts[k].page=-1 <;> simp[e]
theorem WW (ts:List Tw) (k:Nat):Z6 ts k<=k:=by
 unfold Z6
 exact Nat.le_trans (List.length_filter_le _ _) (by simp;omega)
def Zn (m:Mc):Nat:=yd m.zd+Z6 m.ze m.ze.length
theorem Wi (vp vo vt vs:Value) (m:Mc) (w:World) (h:ql w vp vo vt vs m) (hn:m.zd.length<=1048576) (hf:yd m.zd<=1099511627776) (htn:m.ze.length<=1099511627776) :
 Calls Tryz.prog 62 #[.agg (zE vp vo vt vs m).toArray] w fun e w'=>e=.returned (zI (Zn m:Int))/\zO w w':=by
 obtain⟨ap,cp,qI,hlp,hcp⟩:=id h.p
 obtain⟨ao,co,j5,hlo,hco⟩:=id h.o
 obtain⟨at',ct,jz,hlt',hct⟩:=id h.t
 obtain⟨as',cs,km⟩:=h.s.shape
 subst qI j5 jz km
 unfold zE
 go_enter Tryz.func62,Tryz.ntmps62
 go_upto_region 1 with fail
 refine ym (fun W=>zO w W/\Bx W w.heap.size 34 [.int .i64 m.cells,.slice ap m.zd.length cp,.slice ao m.order.length co,.int .i64 m.now,.slice at' m.ze.length ct,.int .i64 m.born,.slice as' m.zm.length cs,.int .i64 m.code]) ⟨zR _ _,Bx.new w _ _⟩ ?_
 rintro W ⟨hb,hm⟩
 obtain⟨⟨m0,m1,m2,m3,m4,m5,m6,m7⟩,_⟩:=uk hm
 have HF:=QA _ _ _ _ m W (h.below hb) hn hf
 unfold zE at HF
 have zb:=hb.size
 go_wp2_with fail
 refine HF.mono ?_
 rintro e W1 ⟨rfl,t1⟩
 have qa:=hb.trans (t1.mono zb)
 have Qh:=hm.below t1
 have z1:=qa.size
 have HC:Hid (Zn m=yd m.zd+Z6 m.ze m.ze.length):=rfl
 clear HF t1 hm hb zb m0 m1 m2 m3 m4 m5 m6 m7
 obtain⟨⟨_,_,_,_,m4,_,_,_⟩,_⟩:=uk Qh
 go_wp2_with fail
 go_loopg [3,5,11] m.ze.length (fun g n _ i wr=>∃k:Nat,k<=m.ze.length/\g=m.ze.length - k/\i=zI k/\n=zI ((yd m.zd+Z6 m.ze k:Nat):Int)/\zO w wr)
 case atStart=>exact⟨0,Nat.zero_le _,rfl,rfl,by simp[Z6],qa⟩
 case round =>
  clear m4 Qh qa z1
  obtain⟨k,hk,rfl,rfl,rfl,hb⟩:=hrel
  by_cases yz:k<m.ze.length
  ·obtain⟨b,o,vt,vs,rfl,YY⟩:=hct k yz
   obtain⟨d0,d1,d2,d3,d4,d5,d6,d7,dt,ds⟩:=YY.below hb
   obtain⟨a1,k1,e1⟩:=dt.shape
   obtain⟨a2,k2,e2⟩:=ds.shape
   rw[e1] at d4
   rw[e2] at d5
   have uW:(k:Int)<(m.ze.length:Int):=by omega
   have hof:=zbz yz
   have hol:=WW m.ze k
   have zb:=hb.size
   have HB2:Hid (∀o,zO w (wr.alloc o)):=fun o=>hb.alloc zb _
   clear e1 e2 dt ds YY hct
   obtain⟨n,hn'⟩:∃n,yd m.zd+Z6 m.ze k=n:=⟨_,rfl⟩
   have hnb:n<=2199023255552:=by omega
   by_cases hp:m.ze[k].page=-1
   ·rw[if_pos hp] at hof
    have HN:Hid (yd m.zd+Z6 m.ze (k+1)=n+1):=by show _=_;omega
    rw[hp] at d0
    rw[hn']
    clear hof hn' hol hb
    go_wp2
    go_roundg (m.ze.length - (k+1))
    case measure=>omega
    case rel=>exact⟨k+1,by omega,rfl,by go_num,by rw[HN.out];simp,HB2.out _⟩
   ·rw[if_neg hp] at hof
    have HN:Hid (yd m.zd+Z6 m.ze (k+1)=n):=by show _=_;omega
    have hpe:(m.ze[k].page == -1)=false:=by simpa using hp
    rw[hn']
    clear hof hn' hol hb
    go_wp2
    go_roundg (m.ze.length - (k+1))
    case measure=>omega
    case rel=>exact⟨k+1,by omega,rfl,by go_num,by rw[HN.out],HB2.out _⟩
  ·obtain rfl:k=m.ze.length:=by omega
   go_wp2
   go_ret
   exact⟨ug (by rw[HC.out]),hb⟩
def kh (m:Mc):Bool:=decide (m.order.length=m.zd.length) && (List.range m.zd.length).all fun i=>decide ((i:Int)∈m.order)
theorem zcY {m:Mc} {k:Nat} (hk:k<m.zd.length) (h:¬((k:Int)∈m.order)):kh m=false:=by
 unfold kh
 rw[Bool.and_eq_false_iff]
 right
 rw[List.all_eq_false]
 exact⟨k,List.mem_range.2 hk,by simpa using h⟩
theorem zbB {m:Mc} (hl:m.order.length=m.zd.length) (h:∀k,k<m.zd.length->(k:Int)∈m.order):kh m=true:=by
 unfold kh
 rw[Bool.and_eq_true_iff]
 exact⟨by simpa using hl,List.all_eq_true.2 fun k hk=>by simpa using h k (List.mem_range.1 hk)⟩
theorem zaa (vp vo vt vs:Value) (m:Mc) (w:World) (h:ql w vp vo vt vs m) :
 Calls Tryz.prog 59 #[.agg (zE vp vo vt vs m).toArray] w fun e w'=>e=.returned (.bool (kh m))/\zO w w':=by
 obtain⟨ap,cp,qI,hlp,hcp⟩:=id h.p
 obtain⟨ao,co,j5,hlo,hco⟩:=id h.o
 obtain⟨at',ct,jz,hlt',hct⟩:=id h.t
 obtain⟨as',cs,km⟩:=h.s.shape
 subst qI j5 jz km
 unfold zE
 unfold maxLen at hlp hlo
 have HO:=h.o
 go_enter Tryz.func59,Tryz.ntmps59
 go_upto_region 1 with fail
 refine ym (fun W=>zO w W/\Bx W w.heap.size 34 [.int .i64 m.cells,.slice ap m.zd.length cp,.slice ao m.order.length co,.int .i64 m.now,.slice at' m.ze.length ct,.int .i64 m.born,.slice as' m.zm.length cs,.int .i64 m.code]) ⟨zR _ _,Bx.new w _ _⟩ ?_
 rintro W ⟨hb,hm⟩
 obtain⟨⟨m0,m1,m2,m3,m4,m5,m6,m7⟩,_⟩:=uk hm
 have HOW:Hid (vU W (.slice ao m.order.length co) m.order):=HO.below hb
 by_cases hle:m.order.length=m.zd.length
 case neg =>
  have HE:Hid (kh m=false):=by show _=_;unfold kh;simp[hle]
  have hlz:¬((m.order.length:Int)=(m.zd.length:Int)):=by omega
  go_wp2
  go_ret
  exact⟨zo HE.out.symm,hb⟩
 have HLE:Hid (m.order.length=m.zd.length):=hle
 rw[hle] at m2 HOW
 clear hle
 go_wp2_with fail
 go_loopg [3,14] m.zd.length (fun g _ i wr=>∃k:Nat,k<=m.zd.length/\g=m.zd.length - k/\i=zI k/\wr=W/\∀j,j<k->(j:Int)∈m.order)
 case atStart=>exact⟨0,Nat.zero_le _,rfl,rfl,rfl,fun j h=>absurd h yB⟩
 case round =>
  obtain⟨k,hk,rfl,rfl,hw,hall⟩:=hrel
  obtain rfl:=hw.symm
  have H:Hid (∀j,j<k->(j:Int)∈m.order):=hall
  clear hall hw
  by_cases yz:k<m.zd.length
  ·have uW:(k:Int)<(m.zd.length:Int):=by omega
   obtain⟨f,hf⟩:∃f,decide ((k:Int)∈m.order)=f:=⟨_,rfl⟩
   have HC:=QH _ m.order (k:Int) W HOW.out
   rw[hf] at HC
   go_wp2_with fail
   refine HC.mono ?_
   rintro e W1 ⟨rfl,hw⟩
   obtain rfl:=hw.symm
   clear hw HC
   cases f
   ·have HE:Hid (kh m=false):=zcY yz (by simpa using hf)
    go_wp2
    go_ret
    exact⟨zo HE.out.symm,hb⟩
   ·have HN:Hid (∀j,j<k+1->(j:Int)∈m.order):=fun j hj=>by
     by_cases e:j=k
     ·subst e;simpa using hf
     ·exact H.out j (by omega)
    clear hf H
    go_wp2
    go_roundg (m.zd.length - (k+1))
    case measure=>omega
    case rel=>exact⟨k+1,by omega,rfl,by go_num,rfl,HN.out⟩
  ·obtain rfl:k=m.zd.length:=by omega
   have HE:Hid (kh m=true):=zbB HLE.out H.out
   go_wp2
   go_ret
   exact⟨zo HE.out.symm,hb⟩
theorem Wk (a:Option Addr) (n c:Nat) (w:World) (hn:n<=1099511627776):Calls Tryz.prog 108 #[.slice a n c] w fun e w'=>e=.returned (zI ((10+n:Nat):Int))/\w'=w:=by
 go_enter Tryz.func108,Tryz.ntmps108
 go_wp2
 go_ret
 exact⟨ug (by omega),rfl⟩
def yF.fr (L:yF) (i k:Nat):Option ki:=(L.zd[i]?).bind fun p=>p.zh[k]?
def YW (ts:List kN) (j:Int):Int:=if j<0 then -1 else((ts[j.toNat]?).map fun t=>(t.body:Int)).getD (-1)
def yQ (ts:List kN) (v:Int × Int):Int × Int:=if v.1=2 then(2,YW ts v.2) else v
def Qm (n:Nat) (vs:yH):Prop:=∀v∈vs,v.1=2->∃j:Nat,v.2=(j:Int)/\j<n
def us (n:Nat) (j:Int):Prop:=j=-1\/∃k:Nat,j=(k:Int)/\k<n
def Pr (I K i k:Nat):Prop:=¬(i=I/\k<K)
def qx (L:yF) (i k:Nat):Int:=match k with
 | 0=>YW L.ze (((L.zd[i]?).map (fun p:wh=>p.base)).getD (-1))
 | k+1=>((L.fr i k).map fun f=>(f.body:Int)).getD (-1)
structure Ym (ts:List kN) (b:jg) (c:Cl):Prop where
 m:c.m=b.m
 pc:c.pc=b.pc
 zv:c.zv=b.zv
 zg:c.zg=b.zg.map (yQ ts)
 zf:c.zf=b.zf.map (yQ ts)
 vt:Qm ts.length b.zg
 vs:Qm ts.length b.zf
structure jB (I K:Nat) (L:yF) (h:Hp):Prop where
 fb:∀(i k:Nat) (f:ki),L.fr i k=some f->Pr I K i k->f.body<L.zj.length/\(f.twin=-1\/∃(j:Nat) (s:Int),f.twin=(j:Int)/\L.ze[j]?=some ⟨(i:Int),(k:Int),f.body,s⟩)
 tb:∀(j:Nat) (t:kN),L.ze[j]?=some t->t.body<L.zj.length/\(t.page=-1\/∃(i k:Nat) (f:ki),L.fr i k=some f/\Pr I K i k/\f.twin=(j:Int)/\f.body=t.body/\t.page=(i:Int)/\t.place=(k:Int))
 fi:∀(i k:Nat) (f:ki) (i' k':Nat) (f':ki),L.fr i k=some f->Pr I K i k->L.fr i' k'=some f'->Pr I K i' k'->f.body=f'.body->i=i'/\k=k'
 ti:∀(j:Nat) (t:kN) (j':Nat) (t':kN),L.ze[j]?=some t->L.ze[j']?=some t'->t.body=t'.body->j=j'
 tf:∀(i k:Nat) (f:ki) (j:Nat) (t:kN),L.fr i k=some f->Pr I K i k->L.ze[j]?=some t->t.page=-1->t.body≠f.body
 ba:∀(i:Nat) (p:wh),L.zd[i]?=some p->us L.ze.length p.base
 se:∀(j:Nat) (t:kN),L.ze[j]?=some t->t.page=-1->us L.ze.length t.zi
 al:∀(i k:Nat) (f:ki) (b:jg),L.fr i k=some f->Pr I K i k->L.zj[f.body]?=some b->b.zv=false
 n:h.za.length=L.zj.length
 c:∀(k:Nat) (b:jg),L.zj[k]?=some b->∃c,h.za[k]?=some c/\Ym L.ze b c
 fs:∀(i k:Nat) (f:ki) (c:Cl),L.fr i k=some f->Pr I K i k->h.za[f.body]?=some c->c.zi=qx L i k
 ts:∀(j:Nat) (t:kN) (c:Cl),L.ze[j]?=some t->t.page=-1->h.za[t.body]?=some c->c.zi=YW L.ze t.zi
theorem jB.noTwin {I K:Nat} {L:yF} {h:Hp} (s:jB I K L h) {i k:Nat} {f:ki} (hf:L.fr i k=some f) (hp:Pr I K i k) (h0:f.twin=-1) (j:Nat) (t:kN) (ht:L.ze[j]?=some t):t.body≠f.body:=fun e=>by
 rcases(s.tb j t ht).2 with h1 | ⟨i',k',g,h1,h2,h3,h4,_⟩
 ·exact s.tf i k f j t hf hp ht h1 e
 ·obtain⟨rfl,rfl⟩:=s.fi i' k' g i k f h1 h2 hf hp (h4.trans e)
  rw[hf] at h1
  cases h1
  rw[h0] at h3
  omega
structure qo (ts ts':List kN):Prop where
 le:ts.length<=ts'.length
 eq:∀(j:Nat) (t:kN),ts[j]?=some t->∃t',ts'[j]?=some t'/\t'.body=t.body
theorem qo.refl (ts:List kN):qo ts ts:=⟨Nat.le_refl _,fun _ t h=>⟨t,h,rfl⟩⟩
theorem qo.trans {a b c:List kN} (h:qo a b) (k:qo b c):qo a c:=⟨Nat.le_trans h.le k.le,fun j t e=>by
 obtain⟨t1,e1,b1⟩:=h.eq j t e
 obtain⟨t2,e2,b2⟩:=k.eq j t1 e1
 exact⟨t2,e2,b2.trans b1⟩⟩
theorem qo.snoc (ts:List kN) (t:kN):qo ts (ts ++ [t]):=⟨by simp,fun j x h=>⟨x,by
 obtain⟨hj,_⟩:=List.getElem?_eq_some_iff.1 h
 rw[List.getElem?_append_left hj];exact h,rfl⟩⟩
theorem qo.set (ts:List kN) (j:Nat) (x t:kN) (h:ts[j]?=some t) (e:x.body=t.body):qo ts (ts.set j x):=⟨by simp,fun q y hy=>by
 obtain⟨hq,_⟩:=List.getElem?_eq_some_iff.1 hy
 by_cases hqj:j=q
 ·subst hqj
  rw[h] at hy
  cases hy
  exact⟨x,by rw[List.getElem?_set_self hq],e⟩
 ·exact⟨y,by rw[List.getElem?_set_ne hqj];exact hy,rfl⟩⟩
theorem us.ext {n n':Nat} {j:Int} (h:us n j) (hn:n<=n'):us n' j:=h.imp id fun⟨k,e,hk⟩=>⟨k,e,by omega⟩
theorem wd {ts ts':List kN} (h:qo ts ts') {j:Int} (hj:us ts.length j):YW ts' j=YW ts j:=by
 rcases hj with rfl | ⟨k,rfl,hk⟩
 ·rfl
 ·obtain⟨t',e1,e2⟩:=h.eq k ts[k] (List.getElem?_eq_getElem hk)
  unfold YW
  rw[if_neg (by omega),if_neg (by omega),Int.toNat_natCast,e1,List.getElem?_eq_getElem hk]
  simp[e2]
theorem zbM {ts:List kN} {j:Nat} {t:kN} (h:ts[j]?=some t):YW ts (j:Int)=(t.body:Int):=by
 unfold YW
 rw[if_neg (by omega),Int.toNat_natCast,h]
 rfl
theorem Qm.ext {n n':Nat} {vs:yH} (h:Qm n vs) (hn:n<=n'):Qm n' vs:=fun v hv e=>by
 obtain⟨j,e1,e2⟩:=h v hv e
 exact⟨j,e1,by omega⟩
theorem KV {ts ts':List kN} (h:qo ts ts') {v:Int × Int} (hv:v.1=2->∃j:Nat,v.2=(j:Int)/\j<ts.length):yQ ts' v=yQ ts v:=by
 unfold yQ
 by_cases e:v.1=2
 ·rw[if_pos e,if_pos e,wd h (.inr (hv e))]
 ·rw[if_neg e,if_neg e]
theorem Uf {ts ts':List kN} (h:qo ts ts') {vs:yH} (hv:Qm ts.length vs):vs.map (yQ ts')=vs.map (yQ ts):=List.map_congr_left fun v m=>KV h (hv v m)
theorem Ym.ext {ts ts':List kN} {b:jg} {c:Cl} (a:Ym ts b c) (h:qo ts ts'):Ym ts' b c :=
 ⟨a.m,a.pc,a.zv,by rw[a.zg,Uf h a.vt],by rw[a.zf,Uf h a.vs],a.vt.ext h.le,a.vs.ext h.le⟩
theorem jW {L L':yF} (h:qo L.ze L'.ze) (hb:∀(i:Nat) (p:wh),L.zd[i]?=some p->us L.ze.length p.base) {i k:Nat} (h0:k=0->(L'.zd[i]?).map (fun p:wh=>p.base)=(L.zd[i]?).map (fun p:wh=>p.base))
 (h1:∀q,k=q+1->(L'.fr i q).map (·.body)=(L.fr i q).map (·.body)):qx L' i k=qx L i k:=by
 cases k with
 | zero =>
  show YW L'.ze _=YW L.ze _
  rw[h0 rfl]
  refine wd h ?_
  cases hp:L.zd[i]? with
  | none=>exact .inl rfl
  | some p=>exact hb i p hp
 | succ q =>
  show((L'.fr i q).map fun f=>(f.body:Int)).getD (-1)=((L.fr i q).map fun f=>(f.body:Int)).getD (-1)
  have:=h1 q rfl
  cases e1:L'.fr i q with
  | none =>
   rw[e1] at this
   cases e2:L.fr i q with
   | none=>rfl
   | some g=>rw[e2] at this;cases this
  | some f =>
   rw[e1] at this
   cases e2:L.fr i q with
   | none=>rw[e2] at this;cases this
   | some g =>
    rw[e2] at this
    have:f.body=g.body:=by injection this
    show(f.body:Int)=(g.body:Int)
    rw[this]
def yF.setFr (L:yF) (i k:Nat) (f:ki):yF:={L with zd:=L.zd.set i {L.zd.getD i ⟨-1,[]⟩ with zh:=(L.zd.getD i ⟨-1,[]⟩).zh.set k f}}
theorem yF.fr_some {L:yF} {i k:Nat} {f:ki} (h:L.fr i k=some f):∃(hi:i<L.zd.length) (hk:k<L.zd[i].zh.length),L.zd[i].zh[k]=f:=by
 unfold yF.fr at h
 cases hp:L.zd[i]? with
 | none=>rw[hp] at h;cases h
 | some p =>
  rw[hp] at h
  obtain⟨hi,rfl⟩:=List.getElem?_eq_some_iff.1 hp
  obtain⟨hk,hf⟩:=List.getElem?_eq_some_iff.1 h
  exact⟨hi,hk,hf⟩
theorem yF.fr_at {L:yF} {i k:Nat} (hi:i<L.zd.length) (hk:k<L.zd[i].zh.length):L.fr i k=some L.zd[i].zh[k]:=by
 unfold yF.fr
 rw[List.getElem?_eq_getElem hi]
 exact List.getElem?_eq_getElem hk
theorem yF.fr_setFr {L:yF} {i k:Nat} {f g:ki} (h:L.fr i k=some f) (i' k':Nat):(L.setFr i k g).fr i' k'=if i'=i/\k'=k then some g else L.fr i' k':=by
 obtain⟨hi,hk,rfl⟩:=yF.fr_some h
 have hg:L.zd.getD i ⟨-1,[]⟩=L.zd[i]:=by simp[hi]
 unfold yF.setFr yF.fr
 simp only[hg]
 by_cases e:i=i'
 ·subst e
  rw[List.getElem?_set_self hi,List.getElem?_eq_getElem hi]
  show(L.zd[i].zh.set k g)[k']?=_
  by_cases e2:k=k'
  ·subst e2
   rw[List.getElem?_set_self hk,if_pos ⟨rfl,rfl⟩]
  ·rw[List.getElem?_set_ne e2,if_neg (fun x=>e2 x.2.symm)]
   rfl
 ·rw[List.getElem?_set_ne e,if_neg (fun x=>e x.1.symm)]
theorem yF.base_setFr {L:yF} {i k:Nat} {g:ki} (i':Nat):((L.setFr i k g).zd[i']?).map (fun p:wh=>p.base)=(L.zd[i']?).map (fun p:wh=>p.base):=by
 unfold yF.setFr
 simp only
 by_cases e:i=i'
 ·subst e
  by_cases hi:i<L.zd.length
  ·rw[List.getElem?_set_self hi]
   simp[hi]
  ·simp[hi]
 ·rw[List.getElem?_set_ne e]
def Yu (L:yF) (i k:Nat) (f:ki):yF:={L.setFr i k ⟨f.body,(L.ze.length:Int)⟩ with ze:=L.ze ++ [⟨(i:Int),(k:Int),f.body,0⟩]}
theorem jB.give {I K:Nat} {L:yF} {h:Hp} (s:jB I K L h) {i k:Nat} {f:ki} (hf:L.fr i k=some f) (hp:Pr I K i k) (h0:f.twin=-1):jB I K (Yu L i k f) h:=by
 have hno:=s.noTwin hf hp h0
 have hE:qo L.ze (Yu L i k f).ze:=qo.snoc _ _
 have hfr:∀i' k',(Yu L i k f).fr i' k'=if i'=i/\k'=k then some ⟨f.body,(L.ze.length:Int)⟩ else L.fr i' k':=fun i' k'=>yF.fr_setFr hf i' k'
 -- each frame is one that was there,with the same call
 have old:∀i' k' g,(Yu L i k f).fr i' k'=some g->∃g',L.fr i' k'=some g'/\g.body=g'.body/\((i'=i/\k'=k/\g'=f/\g.twin=(L.ze.length:Int))\/(g=g'/\¬(i'=i/\k'=k))):=fun i' k' g hg=>by
  rw[hfr] at hg
  by_cases e:i'=i/\k'=k
  ·rw[if_pos e] at hg
   obtain⟨rfl,rfl⟩:=e
   cases hg
   exact⟨f,hf,rfl,.inl ⟨rfl,rfl,rfl,rfl⟩⟩
  ·rw[if_neg e] at hg
   exact⟨g,hg,rfl,.inr ⟨rfl,e⟩⟩
 have twn:∀j t,(Yu L i k f).ze[j]?=some t->(L.ze[j]?=some t/\j<L.ze.length)\/(j=L.ze.length/\t=⟨(i:Int),(k:Int),f.body,0⟩):=fun j t ht=>by
  have ht':(L.ze ++ [(⟨(i:Int),(k:Int),f.body,0⟩:kN)])[j]?=some t:=ht
  by_cases hj:j<L.ze.length
  ·rw[List.getElem?_append_left hj] at ht'
   exact .inl ⟨ht',hj⟩
  ·rw[List.getElem?_append_right (by omega)] at ht'
   have:j - L.ze.length=0:=by
    have:=(List.getElem?_eq_some_iff.1 ht').1
    simp at this
    omega
   rw[this] at ht'
   cases ht'
   exact .inr ⟨by omega,rfl⟩
 have hbl:=(s.fb i k f hf hp).1
 have hbase:∀i':Nat,((Yu L i k f).zd[i']?).map (fun p:wh=>p.base)=(L.zd[i']?).map (fun p:wh=>p.base):=fun i'=>yF.base_setFr i'
 have hbel:∀i' k',qx (Yu L i k f) i' k'=qx L i' k':=fun i' k'=>jW hE s.ba (fun _=>hbase i') fun q _=>by
  rw[hfr]
  split
  ·rename_i e
   rw[e.1,e.2,hf]
   rfl
  ·rfl
 refine⟨fun i' k' g hg hP=>?_,fun j t ht=>?_,fun i1 k1 g1 i2 k2 g2 h1 P1 h2 P2 e=>?_,fun j t j' t' h1 h2 e=>?_,fun i' k' g j t hg hP ht xE=>?_,fun i' p hpp=>?_,fun j t ht xE=>?_,fun i' k' g b hg hP hb=>?_,s.n,fun q b hb=>?_,fun i' k' g c hg hP hc=>?_,fun j t c ht xE hc=>?_⟩
 ·obtain⟨g',hg',hbd,hor⟩:=old i' k' g hg
  have h1:=s.fb i' k' g' hg' hP
  refine⟨by rw[hbd];exact h1.1,?_⟩
  rcases hor with⟨rfl,rfl,rfl,ht⟩ | ⟨rfl,_⟩
  ·refine .inr ⟨L.ze.length,0,ht,?_⟩
   rw[hbd]
   show(L.ze ++ [_])[L.ze.length]?=_
   simp
  ·refine h1.2.imp id fun⟨j,s',e1,e2⟩=>⟨j,s',e1,?_⟩
   show(L.ze ++ [_])[j]?=_
   rw[List.getElem?_append_left (List.getElem?_eq_some_iff.1 e2).1]
   exact e2
 ·rcases twn j t ht with⟨h1,hj⟩ | ⟨rfl,rfl⟩
  ·refine⟨(s.tb j t h1).1,(s.tb j t h1).2.imp id fun⟨i',k',g,e1,e2,e3,e4,e5,e6⟩=>⟨i',k',g,?_,e2,e3,e4,e5,e6⟩⟩
   rw[hfr,if_neg]
   ·exact e1
   ·rintro⟨rfl,rfl⟩
    rw[hf] at e1
    cases e1
    rw[h0] at e3
    omega
  ·exact⟨hbl,.inr ⟨i,k,⟨f.body,(L.ze.length:Int)⟩,by rw[hfr,if_pos ⟨rfl,rfl⟩],hp,rfl,rfl,rfl,rfl⟩⟩
 ·obtain⟨g1',q1,b1,_⟩:=old i1 k1 g1 h1
  obtain⟨g2',q2,b2,_⟩:=old i2 k2 g2 h2
  exact s.fi i1 k1 g1' i2 k2 g2' q1 P1 q2 P2 (by rw[<-b1,<-b2];exact e)
 ·rcases twn j t h1 with⟨q1,_⟩ | ⟨rfl,rfl⟩ <;> rcases twn j' t' h2 with⟨q2,_⟩ | ⟨rfl,rfl⟩
  ·exact s.ti j t j' t' q1 q2 e
  ·exact absurd e (hno j t q1)
  ·exact absurd e.symm (hno j' t' q2)
  ·rfl
 ·obtain⟨g',q1,b1,_⟩:=old i' k' g hg
  rcases twn j t ht with⟨q2,_⟩ | ⟨rfl,rfl⟩
  ·rw[b1]
   exact s.tf i' k' g' j t q1 hP q2 xE
  ·have hpg':(i:Int)=-1:=xE
   omega
 ·have:=hbase i'
  rw[hpp] at this
  cases hq:L.zd[i']? with
  | none=>rw[hq] at this;cases this
  | some p' =>
   rw[hq] at this
   have e:p.base=p'.base:=by injection this
   rw[e]
   exact(s.ba i' p' hq).ext hE.le
 ·rcases twn j t ht with⟨q2,_⟩ | ⟨rfl,rfl⟩
  ·exact(s.se j t q2 xE).ext hE.le
  ·have hpg':(i:Int)=-1:=xE
   omega
 ·obtain⟨g',q1,b1,_⟩:=old i' k' g hg
  rw[b1] at hb
  exact s.al i' k' g' b q1 hP hb
 ·obtain⟨c,e1,e2⟩:=s.c q b hb
  exact⟨c,e1,e2.ext hE⟩
 ·obtain⟨g',q1,b1,_⟩:=old i' k' g hg
  rw[b1] at hc
  rw[hbel]
  exact s.fs i' k' g' c q1 hP hc
 ·rcases twn j t ht with⟨q2,_⟩ | ⟨rfl,rfl⟩
  ·rw[wd hE (s.se j t q2 xE)]
   exact s.ts j t c q2 xE hc
  ·have hpg':(i:Int)=-1:=xE
   omega
theorem yP (i k:Nat):Pr 0 0 i k:=fun h=>absurd h.2 yB
theorem Pr.more {I K i k:Nat} (h:Pr I (K+1) i k):Pr I K i k/\¬(i=I/\k=K):=⟨fun e=>h ⟨e.1,by omega⟩,fun e=>h ⟨e.1,by omega⟩⟩
theorem Pr.next {I K i k:Nat} (h:Pr I K i k) (n:¬(i=I/\k=K)):Pr I (K+1) i k:=fun e=>by
 by_cases e2:k=K
 ·exact n ⟨e.1,e2⟩
 ·exact h ⟨e.1,by omega⟩
def vi (L:yF) (j:Nat) (b:Nat) (below:Int):yF:={L with ze:=L.ze.set j ⟨-1,0,b,below⟩}
theorem jv {α:Type} {l:List α} {j q:Nat} {x y:α} (h:(l.set j x)[q]?=some y):(q=j/\y=x/\j<l.length)\/(q≠j/\l[q]?=some y):=by
 by_cases e:j=q
 ·subst e
  obtain⟨hj,_⟩:=List.getElem?_eq_some_iff.1 h
  rw[List.length_set] at hj
  rw[List.getElem?_set_self hj] at h
  cases h
  exact .inl ⟨rfl,rfl,hj⟩
 ·rw[List.getElem?_set_ne e] at h
  exact .inr ⟨fun x=>e x.symm,h⟩
theorem jB.off {I K:Nat} {L:yF} {h:Hp} (s:jB I K L h) {f:ki} {j:Nat} {below:Int} (hf:L.fr I K=some f) (ht:f.twin=(j:Int)) (hb:us L.ze.length below) (he:qx L I K=YW L.ze below):jB I (K+1) (vi L j f.body below) h:=by
 have hP:Pr I K I K:=fun e=>absurd e.2 (Nat.lt_irrefl _)
 obtain⟨sx,hj⟩:∃sx,L.ze[j]?=some ⟨(I:Int),(K:Int),f.body,sx⟩:=by
  rcases(s.fb I K f hf hP).2 with e | ⟨j',sx,e1,e2⟩
  ·omega
  ·have:j'=j:=by omega
   subst this
   exact⟨sx,e2⟩
 have hE:qo L.ze (vi L j f.body below).ze:=qo.set _ _ _ _ hj rfl
 have hl:(vi L j f.body below).ze.length=L.ze.length:=List.length_set
 have hfr:∀i k,(vi L j f.body below).fr i k=L.fr i k:=fun _ _=>rfl
 have hbel:∀i k,qx (vi L j f.body below) i k=qx L i k:=fun i k=>jW hE s.ba (fun _=>rfl) fun _ _=>rfl
 have tw:=fun(q:Nat) (t:kN) (h1:(vi L j f.body below).ze[q]?=some t)=>jv h1
 have tb:∀(q:Nat) (t:kN),(vi L j f.body below).ze[q]?=some t->∃t',L.ze[q]?=some t'/\t'.body=t.body:=fun q t h1=>by
  rcases tw q t h1 with⟨rfl,rfl,_⟩ | ⟨_,h2⟩
  ·exact⟨_,hj,rfl⟩
  ·exact⟨t,h2,rfl⟩
 refine⟨fun i k g hg P=>?_,fun q t h1=>?_,fun i k g i' k' g' h1 P1 h2 P2 e=>s.fi i k g i' k' g' h1 P1.more.1 h2 P2.more.1 e,fun q t q' t' h1 h2 e=>?_,fun i k g q t hg P h1 xE=>?_,fun i p hp=>by rw[hl];exact s.ba i p hp,fun q t h1 xE=>?_,fun i k g b hg P hb=>s.al i k g b hg P.more.1 hb,s.n,fun q b hb=>?_,fun i k g c hg P hc=>by rw[hbel];exact s.fs i k g c hg P.more.1 hc,fun q t c h1 xE hc=>?_⟩
 ·refine⟨(s.fb i k g hg P.more.1).1,(s.fb i k g hg P.more.1).2.imp id fun⟨q,sx',e1,e2⟩=>⟨q,sx',e1,?_⟩⟩
  have hq:j≠q:=fun e=>by
   subst e
   rw[hj] at e2
   injection e2 with e2
   injection e2 with e3 e4
   exact P.more.2 ⟨by omega,by omega⟩
  show(L.ze.set j _)[q]?=_
  rw[List.getElem?_set_ne hq]
  exact e2
 ·rcases tw q t h1 with⟨rfl,rfl,_⟩ | ⟨hq,h2⟩
  ·exact⟨(s.fb I K f hf hP).1,.inl rfl⟩
  ·refine⟨(s.tb q t h2).1,(s.tb q t h2).2.imp id fun⟨i,k,g,e1,e2,e3,e4,e5,e6⟩=>⟨i,k,g,e1,e2.next ?_,e3,e4,e5,e6⟩⟩
   rintro⟨rfl,rfl⟩
   rw[hf] at e1
   cases e1
   exact hq (by omega)
 ·obtain⟨t1,a1,b1⟩:=tb q t h1
  obtain⟨t2,a2,b2⟩:=tb q' t' h2
  exact s.ti q t1 q' t2 a1 a2 (by rw[b1,b2];exact e)
 ·rcases tw q t h1 with⟨rfl,rfl,_⟩ | ⟨hq,h2⟩
  ·intro e
   obtain⟨e1,e2⟩:=s.fi I K f i k g hf hP hg P.more.1 e
   exact P.more.2 ⟨e1.symm,e2.symm⟩
  ·exact s.tf i k g q t hg P.more.1 h2 xE
 ·rw[hl]
  rcases tw q t h1 with⟨rfl,rfl,_⟩ | ⟨hq,h2⟩
  ·exact hb
  ·exact s.se q t h2 xE
 ·obtain⟨c,e1,e2⟩:=s.c q b hb
  exact⟨c,e1,e2.ext hE⟩
 ·rcases tw q t h1 with⟨rfl,rfl,_⟩ | ⟨hq,h2⟩
  ·rw[wd hE hb,<-he]
   exact s.fs I K f c hf hP hc
  ·rw[wd hE (s.se q t h2 xE)]
   exact s.ts q t c h2 xE hc
def Zo (L:yF) (I:Nat):yF:={L with zd:=L.zd.set I ⟨-1,[]⟩}
theorem vH {L:yF} {I:Nat} {p:wh} (hI:I<L.zd.length) (i k:Nat):yF.fr {L with zd:=L.zd.set I p} i k=if i=I then p.zh[k]? else L.fr i k:=by
 unfold yF.fr
 by_cases e:I=i
 ·subst e
  rw[if_pos rfl]
  show((L.zd.set I p)[I]?).bind _=_
  rw[List.getElem?_set_self hI]
  rfl
 ·rw[if_neg (fun x=>e x.symm)]
  show((L.zd.set I p)[i]?).bind _=_
  rw[List.getElem?_set_ne e]
theorem jB.clear {I K:Nat} {L:yF} {h:Hp} (s:jB I K L h) (hI:I<L.zd.length) (hK:L.zd[I].zh.length<=K):jB 0 0 (Zo L I) h:=by
 have hfr:∀i k,(Zo L I).fr i k=if i=I then none else L.fr i k:=fun i k=>by
  unfold Zo
  rw[vH hI]
  simp
 have fo:∀i k g,(Zo L I).fr i k=some g->i≠I/\L.fr i k=some g/\Pr I K i k:=fun i k g hg=>by
  rw[hfr] at hg
  by_cases e:i=I
  ·rw[if_pos e] at hg;cases hg
  ·rw[if_neg e] at hg
   exact⟨e,hg,fun x=>e x.1⟩
 have hno:∀i k g,L.fr i k=some g->Pr I K i k->i≠I:=fun i k g hg P e=>by
  subst e
  obtain⟨_,hk,_⟩:=yF.fr_some hg
  exact P ⟨rfl,by omega⟩
 have hbel:∀i k,i≠I->qx (Zo L I) i k=qx L i k:=fun i k e=>jW (L:=L) (L':=Zo L I) (qo.refl L.ze) s.ba (fun _=>by
  show((L.zd.set I _)[i]?).map _=_
  rw[List.getElem?_set_ne (fun x=>e x.symm)]) fun q _=>by rw[hfr,if_neg e]
 refine⟨fun i k g hg _=>?_,fun q t h1=>?_,fun i k g i' k' g' h1 _ h2 _ e=>s.fi i k g i' k' g' (fo _ _ _ h1).2.1 (fo _ _ _ h1).2.2 (fo _ _ _ h2).2.1 (fo _ _ _ h2).2.2 e,s.ti,fun i k g q t hg _ h1 xE=>s.tf i k g q t (fo _ _ _ hg).2.1 (fo _ _ _ hg).2.2 h1 xE,fun i p hp=>?_,s.se,fun i k g b hg _ hb=>s.al i k g b (fo _ _ _ hg).2.1 (fo _ _ _ hg).2.2 hb,s.n,s.c,fun i k g c hg _ hc=>by rw[hbel i k (fo _ _ _ hg).1];exact s.fs i k g c (fo _ _ _ hg).2.1 (fo _ _ _ hg).2.2 hc,s.ts⟩
 ·exact s.fb i k g (fo _ _ _ hg).2.1 (fo _ _ _ hg).2.2
 ·refine⟨(s.tb q t h1).1,(s.tb q t h1).2.imp id fun⟨i,k,g,e1,e2,e3⟩=>⟨i,k,g,?_,yP _ _,e3⟩⟩
  rw[hfr,if_neg (hno i k g e1 e2)]
  exact e1
 ·rcases jv hp with⟨_,rfl,_⟩ | ⟨_,h2⟩
  ·exact .inl rfl
  ·exact s.ba i p h2
def yM (L:yF) (i:Nat) (x:Int):yF:={L with zd:=L.zd.set i ⟨x,[]⟩}
theorem jB.base {L:yF} {h:Hp} (s:jB 0 0 L h) {i:Nat} (hi:i<L.zd.length) (he:L.zd[i].zh=[]) {x:Int} (hx:us L.ze.length x):jB 0 0 (yM L i x) h:=by
 have hfr:∀i' k,(yM L i x).fr i' k=L.fr i' k:=fun i' k=>by
  unfold yM
  rw[vH hi]
  by_cases e:i'=i
  ·subst e
   rw[if_pos rfl]
   unfold yF.fr
   rw[List.getElem?_eq_getElem hi]
   simp[he]
  ·rw[if_neg e]
 have qF:∀i' k g,L.fr i' k=some g->i'≠i:=fun i' k g hg e=>by
  subst e
  obtain⟨_,hk,_⟩:=yF.fr_some hg
  rw[he] at hk
  cases hk
 have hbel:∀i' k,i'≠i->qx (yM L i x) i' k=qx L i' k:=fun i' k e=>jW (L:=L) (L':=yM L i x) (qo.refl L.ze) s.ba (fun _=>by
  show((L.zd.set i _)[i']?).map _=_
  rw[List.getElem?_set_ne (fun y=>e y.symm)]) fun q _=>by rw[hfr]
 refine⟨fun i' k g hg P=>s.fb i' k g (by rw[<-hfr];exact hg) P,fun q t h1=>⟨(s.tb q t h1).1,(s.tb q t h1).2.imp id fun⟨i',k,g,e1,e2⟩=>⟨i',k,g,by rw[hfr];exact e1,e2⟩⟩,fun a b c a' b' c' h1 P1 h2 P2 e=>s.fi a b c a' b' c' (by rw[<-hfr];exact h1) P1 (by rw[<-hfr];exact h2) P2 e,s.ti,fun a b c q t hg P h1 xE=>s.tf a b c q t (by rw[<-hfr];exact hg) P h1 xE,fun i' p hp=>?_,s.se,fun a b c d hg P hb=>s.al a b c d (by rw[<-hfr];exact hg) P hb,s.n,s.c,fun a b c d hg P hc=>?_,s.ts⟩
 ·rcases jv hp with⟨_,rfl,_⟩ | ⟨_,h2⟩
  ·exact hx
  ·exact s.ba i' p h2
 ·rw[hfr] at hg
  rw[hbel a b (qF _ _ _ hg)]
  exact s.fs a b c d hg P hc
def Qc (L:yF) (k:Nat) (b:jg):yF:={L with zj:=L.zj.set k b}
theorem jB.body {I K:Nat} {L:yF} {h:Hp} (s:jB I K L h) {k:Nat} {b b':jg} {c c':Cl} (hb:L.zj[k]?=some b) (hc:h.za[k]?=some c) (ha:Ym L.ze b' c') (hs:c'.zi=c.zi) (hd:b'.zv=b.zv) (now born code:Int) (zm:yH) :
 jB I K (Qc L k b') ⟨h.za.set k c',now,born,zm,code⟩:=by
 have hl:(Qc L k b').zj.length=L.zj.length:=List.length_set
 refine⟨fun i q g hg P=>by rw[hl];exact s.fb i q g hg P,fun q t h1=>by rw[hl];exact s.tb q t h1,s.fi,s.ti,s.tf,s.ba,s.se,fun i q g x hg P hx=>?_,by rw[hl];exact List.length_set.trans s.n,fun q x hx=>?_,fun i q g x hg P hx=>?_,fun q t x h1 xE hx=>?_⟩
 ·rcases jv hx with⟨e,rfl,_⟩ | ⟨_,h2⟩
  ·rw[hd];exact s.al i q g b hg P (by rw[e];exact hb)
  ·exact s.al i q g x hg P h2
 ·have hck:k<h.za.length:=(List.getElem?_eq_some_iff.1 hc).1
  rcases jv hx with⟨rfl,rfl,_⟩ | ⟨hq,h2⟩
  ·exact⟨c',List.getElem?_set_self hck,ha⟩
  ·obtain⟨y,e1,e2⟩:=s.c q x h2
   exact⟨y,by rw[List.getElem?_set_ne (fun e=>hq e.symm)];exact e1,e2⟩
 ·rcases jv hx with⟨e,rfl,_⟩ | ⟨_,h2⟩
  ·rw[hs];exact s.fs i q g c hg P (by rw[e];exact hc)
  ·exact s.fs i q g x hg P h2
 ·rcases jv hx with⟨e,rfl,_⟩ | ⟨_,h2⟩
  ·rw[hs];exact s.ts q t c h1 xE (by rw[e];exact hc)
  ·exact s.ts q t x h1 xE h2
def JG (L:yF) (i j:Nat) (t:kN):yF:={L with zd:=L.zd.set i ⟨t.zi,[⟨t.body,(j:Int)⟩]⟩,ze:=L.ze.set j ⟨(i:Int),0,t.body,0⟩}
theorem jB.on {L:yF} {h:Hp} (s:jB 0 0 L h) {i:Nat} (hi:i<L.zd.length) (he:L.zd[i].zh=[]) {j:Nat} {t:kN} (hj:L.ze[j]?=some t) (xE:t.page=-1) (hd:∀b,L.zj[t.body]?=some b->b.zv=false):jB 0 0 (JG L i j t) h:=by
 have hjl:j<L.ze.length:=(List.getElem?_eq_some_iff.1 hj).1
 have hE:qo L.ze (JG L i j t).ze:=qo.set _ _ _ _ hj rfl
 have hl:(JG L i j t).ze.length=L.ze.length:=List.length_set
 have hfr:∀i' k,(JG L i j t).fr i' k=if i'=i then([⟨t.body,(j:Int)⟩]:List ki)[k]? else L.fr i' k:=fun i' k=>by
  unfold JG
  exact vH (L:=L) hi i' k
 have hno:∀k,L.fr i k=none:=fun k=>by
  unfold yF.fr
  rw[List.getElem?_eq_getElem hi]
  simp[he]
 have fo:∀i' k g,(JG L i j t).fr i' k=some g->(i'=i/\k=0/\g=⟨t.body,(j:Int)⟩)\/(i'≠i/\L.fr i' k=some g):=fun i' k g hg=>by
  rw[hfr] at hg
  by_cases e:i'=i
  ·rw[if_pos e] at hg
   have hk:k=0:=by
    have:=(List.getElem?_eq_some_iff.1 hg).1
    simpa using this
   subst hk
   cases hg
   exact .inl ⟨e,rfl,rfl⟩
  ·rw[if_neg e] at hg
   exact .inr ⟨e,hg⟩
 have hnew:(JG L i j t).fr i 0=some ⟨t.body,(j:Int)⟩:=by rw[hfr,if_pos rfl];rfl
 have hbel:∀i' k,i'≠i->qx (JG L i j t) i' k=qx L i' k:=fun i' k e=>jW hE s.ba (fun _=>by
  show((L.zd.set i _)[i']?).map _=_
  rw[List.getElem?_set_ne (fun y=>e y.symm)]) fun q _=>by rw[hfr,if_neg e]
 have tb:∀(q:Nat) (x:kN),(JG L i j t).ze[q]?=some x->∃t',L.ze[q]?=some t'/\t'.body=x.body:=fun q x h1=>by
  rcases jv h1 with⟨rfl,rfl,_⟩ | ⟨_,h2⟩
  ·exact⟨_,hj,rfl⟩
  ·exact⟨x,h2,rfl⟩
 refine⟨fun i' k g hg P=>?_,fun q x h1=>?_,fun a b g a' b' g' h1 P1 h2 P2 e=>?_,fun q x q' x' h1 h2 e=>?_,fun a b g q x hg P h1 hx=>?_,fun i' p hp=>?_,fun q x h1 hx=>?_,fun a b g y hg P hy=>?_,s.n,fun q b hb=>?_,fun a b g c hg P hc=>?_,fun q x c h1 hx hc=>?_⟩
 ·rcases fo i' k g hg with⟨rfl,rfl,rfl⟩ | ⟨e,h2⟩
  ·exact⟨(s.tb j t hj).1,.inr ⟨j,0,rfl,List.getElem?_set_self hjl⟩⟩
  ·refine⟨(s.fb i' k g h2 P).1,(s.fb i' k g h2 P).2.imp id fun⟨q,sx,e1,e2⟩=>⟨q,sx,e1,?_⟩⟩
   show(L.ze.set j _)[q]?=_
   rw[List.getElem?_set_ne]
   ·exact e2
   ·intro e3
    subst e3
    rw[hj] at e2
    cases e2
    have hpg':(i':Int)=-1:=xE
    omega
 ·rcases jv h1 with⟨rfl,rfl,_⟩ | ⟨hq,h2⟩
  ·exact⟨(s.tb q t hj).1,.inr ⟨i,0,_,hnew,yP _ _,rfl,rfl,rfl,rfl⟩⟩
  ·refine⟨(s.tb q x h2).1,(s.tb q x h2).2.imp id fun⟨a,b,g,e1,e2⟩=>⟨a,b,g,?_,e2⟩⟩
   rw[hfr,if_neg]
   ·exact e1
   ·intro e
    subst e
    rw[hno] at e1
    cases e1
 ·rcases fo a b g h1 with⟨rfl,rfl,rfl⟩ | ⟨e1,q1⟩ <;> rcases fo a' b' g' h2 with⟨rfl,rfl,rfl⟩ | ⟨e2,q2⟩
  ·exact⟨rfl,rfl⟩
  ·exact absurd e (s.tf a' b' g' j t q2 P2 hj xE)
  ·exact absurd e.symm (s.tf a b g j t q1 P1 hj xE)
  ·exact s.fi a b g a' b' g' q1 P1 q2 P2 e
 ·obtain⟨t1,a1,b1⟩:=tb q x h1
  obtain⟨t2,a2,b2⟩:=tb q' x' h2
  exact s.ti q t1 q' t2 a1 a2 (by rw[b1,b2];exact e)
 ·rcases jv h1 with⟨rfl,rfl,_⟩ | ⟨hq,h2⟩
  ·have hx':(i:Int)=-1:=hx
   omega
  ·rcases fo a b g hg with⟨rfl,rfl,rfl⟩ | ⟨e1,q1⟩
   ·intro e
    exact hq (s.ti q x j t h2 hj e)
   ·exact s.tf a b g q x q1 P h2 hx
 ·rw[hl]
  rcases jv hp with⟨_,rfl,_⟩ | ⟨_,h2⟩
  ·exact s.se j t hj xE
  ·exact s.ba i' p h2
 ·rw[hl]
  rcases jv h1 with⟨rfl,rfl,_⟩ | ⟨hq,h2⟩
  ·have hx':(i:Int)=-1:=hx
   omega
  ·exact s.se q x h2 hx
 ·rcases fo a b g hg with⟨rfl,rfl,rfl⟩ | ⟨e1,q1⟩
  ·exact hd y hy
  ·exact s.al a b g y q1 P hy
 ·obtain⟨c,e1,e2⟩:=s.c q b hb
  exact⟨c,e1,e2.ext hE⟩
 ·rcases fo a b g hg with⟨rfl,rfl,rfl⟩ | ⟨e1,q1⟩
  ·rw[s.ts j t c hj xE hc]
   show _=YW (L.ze.set j _) ((((L.zd.set a ⟨t.zi,_⟩)[a]?).map fun p:wh=>p.base).getD (-1))
   rw[List.getElem?_set_self hi]
   exact(wd hE (s.se j t hj xE)).symm
  ·rw[hbel a b e1]
   exact s.fs a b g c q1 P hc
 ·rcases jv h1 with⟨rfl,rfl,_⟩ | ⟨hq,h2⟩
  ·have hx':(i:Int)=-1:=hx
   omega
  ·rw[wd hE (s.se q x h2 hx)]
   exact s.ts q x c h2 hx hc
def uL (L:yF) (i:Nat) (b:jg):yF:={L with zd:=L.zd.set i ⟨(L.zd.getD i ⟨-1,[]⟩).base,(L.zd.getD i ⟨-1,[]⟩).zh ++ [⟨L.zj.length,-1⟩]⟩,zj:=L.zj ++ [b]}
def vQ (L:yF) (i:Nat):Int:=qx L i (L.zd.getD i ⟨-1,[]⟩).zh.length
theorem YF {α:Type} {l:List α} {x y:α} {q:Nat} (h:(l ++ [x])[q]?=some y):(q=l.length/\y=x)\/(q<l.length/\l[q]?=some y):=by
 by_cases hq:q<l.length
 ·rw[List.getElem?_append_left hq] at h
  exact .inr ⟨hq,h⟩
 ·rw[List.getElem?_append_right (by omega)] at h
  have:q - l.length=0:=by
   have:=(List.getElem?_eq_some_iff.1 h).1
   simp at this
   omega
  rw[this] at h
  cases h
  exact .inl ⟨by omega,rfl⟩
theorem jB.new {L:yF} {h:Hp} (s:jB 0 0 L h) {i:Nat} (hi:i<L.zd.length) {b:jg} {c:Cl} (ha:Ym L.ze b c) (hd:b.zv=false) (hs:c.zi=vQ L i) (now born code:Int) (zm:yH) :
 jB 0 0 (uL L i b) ⟨h.za ++ [c],now,born,zm,code⟩:=by
 have hg:L.zd.getD i ⟨-1,[]⟩=L.zd[i]:=by simp[hi]
 have hfr:∀i' k,(uL L i b).fr i' k=if i'=i then(L.zd[i].zh ++ [⟨L.zj.length,-1⟩])[k]? else L.fr i' k:=fun i' k=>by
  unfold uL
  rw[hg]
  exact vH (L:=L) hi i' k
 have fo:∀i' k g,(uL L i b).fr i' k=some g->(i'=i/\k=L.zd[i].zh.length/\g=⟨L.zj.length,-1⟩)\/L.fr i' k=some g:=fun i' k g hg'=>by
  rw[hfr] at hg'
  by_cases e:i'=i
  ·rw[if_pos e] at hg'
   subst e
   rcases YF hg' with⟨e1,e2⟩ | ⟨e1,e2⟩
   ·exact .inl ⟨rfl,e1,e2⟩
   ·refine .inr ?_
    unfold yF.fr
    rw[List.getElem?_eq_getElem hi]
    exact e2
  ·rw[if_neg e] at hg'
   exact .inr hg'
 have fr1:∀i' k g,L.fr i' k=some g->(uL L i b).fr i' k=some g:=fun i' k g hg'=>by
  rw[hfr]
  by_cases e:i'=i
  ·subst e
   rw[if_pos rfl]
   obtain⟨_,hk,e2⟩:=yF.fr_some hg'
   rw[List.getElem?_append_left hk,List.getElem?_eq_getElem hk,e2]
  ·rw[if_neg e]
   exact hg'
 have hbase:∀i':Nat,((uL L i b).zd[i']?).map (fun p:wh=>p.base)=(L.zd[i']?).map (fun p:wh=>p.base):=fun i'=>by
  show((L.zd.set i _)[i']?).map _=_
  by_cases e:i=i'
  ·subst e
   rw[List.getElem?_set_self hi,List.getElem?_eq_getElem hi,hg]
   rfl
  ·rw[List.getElem?_set_ne e]
 have hbel:∀i' k,(k=0\/∃q g,k=q+1/\L.fr i' q=some g)->qx (uL L i b) i' k=qx L i' k:=fun i' k hor=>jW (L:=L) (L':=uL L i b) (qo.refl L.ze) s.ba (fun _=>hbase i') fun q e=>by
  rcases hor with e0 | ⟨q',g,e1,e2⟩
  ·omega
  ·have:q=q':=by omega
   subst this
   rw[e2,fr1 i' q g e2]
 have hlow:∀i' k g,L.fr i' k=some g->(k=0\/∃q g,k=q+1/\L.fr i' q=some g):=fun i' k g hg'=>by
  obtain⟨h1,h2,_⟩:=yF.fr_some hg'
  cases k with
  | zero=>exact .inl rfl
  | succ q=>exact .inr ⟨q,_,rfl,yF.fr_at h1 (by omega)⟩
 have hbl:(uL L i b).zj.length=L.zj.length+1:=by simp[uL]
 have lt:=fun(i' k:Nat) (g:ki) (hg':L.fr i' k=some g)=>(s.fb i' k g hg' (yP _ _)).1
 refine⟨fun i' k g hg' P=>?_,fun q x h1=>⟨by rw[hbl];have:=(s.tb q x h1).1;omega,(s.tb q x h1).2.imp id fun⟨a,d,g,e1,e2⟩=>⟨a,d,g,fr1 a d g e1,e2⟩⟩,fun a d g a' d' g' h1 P1 h2 P2 e=>?_,s.ti,fun a d g q x hg' P h1 hx=>?_,fun i' p hp=>?_,s.se,fun a d g y hg' P hy=>?_,by rw[hbl,<-s.n];simp,fun q x hx=>?_,fun a d g x hg' P hx=>?_,fun q x y h1 hx hy=>?_⟩
 ·rw[hbl]
  rcases fo i' k g hg' with⟨rfl,rfl,rfl⟩ | h2
  ·exact⟨Nat.lt_succ_self _,.inl rfl⟩
  ·exact⟨by have:=lt i' k g h2;omega,(s.fb i' k g h2 P).2⟩
 ·rcases fo a d g h1 with⟨rfl,rfl,rfl⟩ | q1 <;> rcases fo a' d' g' h2 with⟨rfl,rfl,rfl⟩ | q2
  ·exact⟨rfl,rfl⟩
  ·have:=lt a' d' g' q2
   have e':L.zj.length=g'.body:=e
   omega
  ·have:=lt a d g q1
   have e':g.body=L.zj.length:=e
   omega
  ·exact s.fi a d g a' d' g' q1 P1 q2 P2 e
 ·rcases fo a d g hg' with⟨rfl,rfl,rfl⟩ | q1
  ·intro e
   have:=(s.tb q x h1).1
   have e':x.body=L.zj.length:=e
   omega
  ·exact s.tf a d g q x q1 P h1 hx
 ·have:=hbase i'
  rw[hp] at this
  cases hq:L.zd[i']? with
  | none=>rw[hq] at this;cases this
  | some p' =>
   rw[hq] at this
   have e:p.base=p'.base:=by injection this
   rw[e]
   exact s.ba i' p' hq
 ·rcases fo a d g hg' with⟨rfl,rfl,rfl⟩ | q1
  ·rcases YF hy with⟨_,rfl⟩ | ⟨e,_⟩
   ·exact hd
   ·exact absurd e (Nat.lt_irrefl _)
  ·rcases YF hy with⟨e,_⟩ | ⟨_,e⟩
   ·have:=lt a d g q1
    omega
   ·exact s.al a d g y q1 P e
 ·rcases YF hx with⟨rfl,rfl⟩ | ⟨e,e2⟩
  ·exact⟨c,by show(h.za ++ [c])[_]?=_;rw[<-s.n];simp,ha⟩
  ·obtain⟨y,h1,h2⟩:=s.c q x e2
   exact⟨y,by show(h.za ++ [c])[_]?=_;rw[List.getElem?_append_left (by rw[s.n];exact e)];exact h1,h2⟩
 ·rcases fo a d g hg' with⟨rfl,rfl,rfl⟩ | q1
  ·have hx':(h.za ++ [c])[L.zj.length]?=some x:=hx
   rw[<-s.n] at hx'
   simp at hx'
   rw[<-hx',hs]
   unfold vQ
   rw[hg]
   refine(hbel a _ ?_).symm
   by_cases e:L.zd[a].zh.length=0
   ·exact .inl e
   ·exact .inr ⟨L.zd[a].zh.length - 1,_,by omega,yF.fr_at hi (by omega)⟩
  ·have hx':(h.za ++ [c])[g.body]?=some x:=hx
   rw[List.getElem?_append_left (by rw[s.n];exact lt a d g q1)] at hx'
   rw[hbel a d (hlow a d g q1)]
   exact s.fs a d g x q1 P hx'
 ·have hy':(h.za ++ [c])[x.body]?=some y:=hy
  rw[List.getElem?_append_left (by rw[s.n];exact(s.tb q x h1).1)] at hy'
  exact s.ts q x y h1 hx hy'
end Go.Proofs.YtbjgjjkgfnfejaaGreatDoor
