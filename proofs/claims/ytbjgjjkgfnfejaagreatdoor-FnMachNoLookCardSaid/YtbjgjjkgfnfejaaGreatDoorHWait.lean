/-
  The calls that wait for one another: the chain, in plain words, and the document's model of it (l11Chain).
-/
import Derived.Test.YtbjgjjkgfnfejaaGreatDoorHSpecOk
import Derived.Test.YtbjgjjkgfnfejaaGreatDoorIntsM
namespace Go.Proofs.YtbjgjjkgfnfejaaGreatDoor
set_option maxHeartbeats 4000000
set_option maxRecDepth 100000
open Go.RowKit
def qh (cs:List Cl):Nat->Int->Option (List Nat)
 | 0,a=>if a<0 then some [] else none
 | f+1,a=>if a<0 then some [] else if h:a.toNat<cs.length then(if cs[a.toNat].zy then none else(qh cs f cs[a.toNat].zi).map (a.toNat :: ·)) else none
def xL (cs:List Cl) (now:Int):List Nat:=(qh cs cs.length now).getD []
theorem yN {cs:List Cl} {f:Nat} {a:Int} (h:a<0):qh cs f a=some []:=by
 cases f <;> simp[qh,h]
theorem vr {cs:List Cl} {a:Int} (h:0<=a):qh cs 0 a=none:=by
 simp[qh];omega
theorem wY {cs:List Cl} {f:Nat} {a:Nat} (h:¬a<cs.length):qh cs f (a:Int)=none:=by
 cases f with
 | zero=>exact vr (by omega)
 | succ f =>
  simp only[qh]
  rw[if_neg (by omega),dif_neg (by simpa using h)]
theorem uD {cs:List Cl} {f:Nat} {a:Nat} (h:a<cs.length) (hd:cs[a].zy=true):qh cs f (a:Int)=none:=by
 cases f with
 | zero=>exact vr (by omega)
 | succ f =>
  simp only[qh,Int.toNat_natCast]
  rw[if_neg (by omega),dif_pos h,if_pos hd]
theorem xQ {cs:List Cl} {f:Nat} {a:Nat} (h:a<cs.length) (hd:cs[a].zy=false):qh cs (f+1) (a:Int)=(qh cs f cs[a].zi).map (a :: ·):=by
 simp only[qh,Int.toNat_natCast]
 rw[if_neg (by omega),dif_pos h,hd]
 rfl
def Kg (l:List Nat):List Int:=l.map fun(k:Nat)=>(k:Int)
theorem uo (l:List Nat):(Kg l).length=l.length:=by simp[Kg]
theorem zd4 (l:List Nat) (k:Nat):Kg l ++ [(k:Int)]=Kg (l ++ [k]):=by simp[Kg]
theorem Tryz.infoInt2:(Tryz.prog.info? 3).map (fun i=>(i.zero,i.size,i.bytes))=some (some (zI 0),1,8):=by kernel_rfl
theorem XG {cs:List Cl}:∀(f:Nat) (a:Int) (l:List Nat),qh cs f a=some l->∀k∈l,∃h:k<cs.length,cs[k].zy=false
 | 0,a,l,h,k,hk=>by
  simp only[qh] at h
  split at h
  ·cases h;cases hk
  ·cases h
 | f+1,a,l,h,k,hk=>by
  simp only[qh] at h
  split at h
  ·cases h;cases hk
  ·split at h
   ·rename_i hn ha
    split at h
    ·cases h
    ·rename_i hd
     obtain⟨l',hl',rfl⟩:=Option.map_eq_some_iff.1 h
     rcases List.mem_cons.1 hk with rfl | hk
     ·exact⟨ha,by simpa using hd⟩
     ·exact XG f _ l' hl' k hk
   ·cases h
theorem zeA {cs:List Cl} {now:Int} {k:Nat} (h:k∈xL cs now):∃h:k<cs.length,cs[k].zy=false:=by
 unfold xL at h
 cases hw:qh cs cs.length now with
 | none=>rw[hw] at h;cases h
 | some l=>rw[hw] at h;exact XG _ _ _ hw k h
def zde (cs:List Cl) (ch:List Nat):Bool:=(ch.drop 1).all fun k=>decide ((cs.getD k Cl.none).zf.length<6)
def KV (ms:zM) (h:Hp):Bool :=
 yn ms && qy h.now (-1) ((h.ze.length:Int) - 1) && qy h.born 1 30 && decide ((h.ze.length:Int)<=h.born) && qy h.code 0 3 && yI ms.length h.zm && ((h.code == 1) == decide (h.now<0))
def jX (cs:List Cl):Nat:=(cs.filter fun c=>!c.zy).length
def zat (h:Hp):Bool:=(decide (h.now<0) || !(h.ze.getD h.now.toNat Cl.none).zy) && ((xL h.ze h.now).length == jX h.ze) && zde h.ze (xL h.ze h.now)
def KX (ms:zM) (h:Hp):Bool:=KV ms h && h.ze.all (kf ms h.ze.length) && zat h
theorem zcm {cs:List Cl} {k:Nat} (hk:k<cs.length):jX (cs.take (k+1))=jX (cs.take k)+(if cs[k].zy then 0 else 1):=by
 unfold jX
 rw[List.take_succ_eq_append_getElem hk,List.filter_append,List.length_append]
 congr 1
 by_cases e:cs[k].zy=true <;> simp[e]
def kg (cs:List Cl):Nat->Int->Option Nat
 | 0,a=>if 0<=a/\a.toNat<cs.length then none else some 0
 | f+1,a=>if h:0<=a/\a.toNat<cs.length then(if(cs[a.toNat]'h.2).zy then none else(kg cs f (cs[a.toNat]'h.2).zi).map (·+1)) else some 0
theorem XX {cs:List Cl} {f:Nat} {a:Int} (h:¬(0<=a/\a<(cs.length:Int))):kg cs f a=some 0:=by
 have h':¬(0<=a/\a.toNat<cs.length):=by omega
 cases f
 ·simp only[kg,if_neg h']
 ·simp only[kg,dif_neg h']
theorem QK {cs:List Cl} {a:Nat} (h:a<cs.length):kg cs 0 (a:Int)=none:=by
 simp only[kg]
 rw[if_pos (by simp;exact h)]
theorem KH {cs:List Cl} {f:Nat} {a:Nat} (h:a<cs.length) (hd:cs[a].zy=true):kg cs f (a:Int)=none:=by
 cases f with
 | zero=>exact QK h
 | succ f =>
  simp only[kg,Int.toNat_natCast]
  rw[dif_pos ⟨by omega,h⟩,if_pos hd]
theorem QJ {cs:List Cl} {f:Nat} {a:Nat} (h:a<cs.length) (hd:cs[a].zy=false):kg cs (f+1) (a:Int)=(kg cs f cs[a].zi).map (·+1):=by
 simp only[kg,Int.toNat_natCast]
 rw[dif_pos ⟨by omega,h⟩,hd]
 rfl
def qQ (cs:List Cl) (now:Int):Nat:=(kg cs cs.length now).getD 0
theorem KI {cs:List Cl} (hs:∀i,(h:i<cs.length)->-1<=cs[i].zi/\cs[i].zi<(cs.length:Int)):∀(f:Nat) (a:Int),-1<=a->a<(cs.length:Int)->kg cs f a=(qh cs f a).map List.length
 | f,a,h0,h1=>by
  by_cases hn:a<0
  ·rw[yN hn,XX (by omega)];rfl
  obtain⟨n,rfl⟩:=Int.eq_ofNat_of_zero_le (show 0<=a by omega)
  have hl:n<cs.length:=by omega
  cases f with
  | zero=>rw[QK hl,vr (by omega)];rfl
  | succ f =>
   cases hd:cs[n].zy
   ·rw[QJ hl hd,xQ hl hd,KI hs f _ (hs n hl).1 (hs n hl).2]
    cases qh cs f cs[n].zi <;> rfl
   ·rw[KH hl hd,uD hl hd];rfl
theorem We {cs:List Cl} {now:Int} (hs:∀i,(h:i<cs.length)->-1<=cs[i].zi/\cs[i].zi<(cs.length:Int)) (h0:-1<=now) (h1:now<(cs.length:Int)):qQ cs now=(xL cs now).length:=by
 unfold qQ xL
 rw[KI hs _ _ h0 h1]
 cases qh cs cs.length now <;> rfl
theorem ZL (vc vs:Value) (h:Hp) (w:World) (hh:Zu w vc vs h) (hn:h.ze.length<=900000) :
 Calls Tryz.prog 24 #[.agg (j6 vc vs h)] w fun e w'=>e=.returned (zI (qQ h.ze h.now:Nat))/\zO w w':=by
 unfold j6
 obtain⟨cs,now,born,zm,code⟩:=h
 obtain⟨hhc,hhs⟩:=hh
 simp only[] at hhc hhs hn ⊢
 obtain⟨aD,kD,jG⟩:=hhs.shape
 subst jG
 obtain⟨ac,kc,rfl,_,hcl⟩:=hhc
 have hA:=zR w (.cells #[.slice ac cs.length kc,.int .i64 now,.int .i64 born,.slice aD zm.length kD,.int .i64 code] 44)
 have b0:(w.alloc (.cells #[.slice ac cs.length kc,.int .i64 now,.int .i64 born,.slice aD zm.length kD,.int .i64 code] 44)).cell? (zH w.heap.size 0)=some (.slice ac cs.length kc):=by simp[go_sem]
 have b1:(w.alloc (.cells #[.slice ac cs.length kc,.int .i64 now,.int .i64 born,.slice aD zm.length kD,.int .i64 code] 44)).cell? (zH w.heap.size 1)=some (.int .i64 now):=by simp[go_sem]
 go_enter Tryz.func24,Tryz.ntmps24
 go_upto_region 1 with fail
 generalize w.alloc (.cells #[.slice ac cs.length kc,.int .i64 now,.int .i64 born,.slice aD zm.length kD,.int .i64 code] 44)=W0 at *
 have HW:Hid (kg cs cs.length now=(kg cs (cs.length - 0) now).map (·+0)):=by
  show _=_
  simp
 clear hhs
 go_wp2_with fail
 go_loopg [3,4] cs.length (fun d v at_ wr=>∃(k:Nat) (a:Int),k<=cs.length/\d=cs.length - k/\v=zI (k:Nat)/\at_=zI a/\wr.cell? (zH w.heap.size 0)=some (.slice ac cs.length kc)/\zO w wr/\kg cs cs.length now=(kg cs (cs.length - k) a).map (·+k))
 case atStart=>exact⟨0,now,Nat.zero_le _,rfl,rfl,rfl,b0,hA,HW.out⟩
 case round =>
  obtain⟨k,a,hk,rfl,rfl,rfl,br,hb,zgJ⟩:=hrel
  have HK:Hid (kg cs cs.length now=(kg cs (cs.length - k) a).map (·+k)):=zgJ
  clear zgJ HW b0 b1 hA
  have un:=hb.size
  by_cases ha:¬(0<=a/\a<(cs.length:Int))
  ·have HI:Hid (qy a 0 ((cs.length:Int) - 1)=false):=qw.2 (by omega)
   have HE:Hid (qQ cs now=k):=by
    show _=_
    unfold qQ
    rw[HK.out,XX ha]
    simp
   go_wp2_with (go_at_call 58;refine(zZ _ _ _).mono ?_;rintro e w' ⟨rfl,hw⟩;obtain rfl:=hw.symm;rw[HI.out])
   go_ret
   exact⟨by rw[HE.out];rfl,hb⟩
  have ha:=Decidable.not_not.1 ha
  have HI:Hid (qy a 0 ((cs.length:Int) - 1)=true):=zx.2 (by omega)
  obtain⟨an,rfl⟩:=Int.eq_ofNat_of_zero_le ha.1
  have han:an<cs.length:=by omega
  have hanz:(an:Int)<(cs.length:Int):=by omega
  obtain⟨b,o,vt,vs,rfl,hc⟩:=hcl an han
  have d4:=zc hb hc.c4
  have d5:=zc hb hc.c5
  have HN:Hid (kg cs (cs.length - k) (an:Int)=none->qQ cs now=0):=fun e=>by
   unfold qQ
   rw[HK.out,e]
   rfl
  clear hcl hc ha
  rcases hdd:cs[an].zy with _ | _
  ·rw[hdd] at d5
   by_cases hf:cs.length<=k
   ·have HE:Hid (qQ cs now=0):=HN.out (by rw[show cs.length - k=0 by omega];exact QK han)
    have hkk:((k:Int) == (cs.length:Int))=true:=by simp;omega
    obtain rfl:k=cs.length:=by omega
    clear HN HK hdd
    go_wp2_with (go_at_call 58;refine(zZ _ _ _).mono ?_;rintro e w' ⟨rfl,hw⟩;obtain rfl:=hw.symm;rw[HI.out])
    go_ret
    exact⟨by rw[HE.out];rfl,hb⟩
   ·have HS:Hid (kg cs cs.length now=(kg cs (cs.length - (k+1)) cs[an].zi).map (·+(k+1))):=by
     show _=_
     rw[HK.out,show cs.length - k=(cs.length - (k+1))+1 by omega,QJ han hdd]
     cases kg cs (cs.length - (k+1)) cs[an].zi with
     | none=>rfl
     | some q=>simp;omega
    have hkk:((k:Int) == (cs.length:Int))=false:=by simp;omega
    have hkl:(k:Int)<(cs.length:Int):=by omega
    clear HN HK hdd
    go_wp2_with (go_at_call 58;refine(zZ _ _ _).mono ?_;rintro e w' ⟨rfl,hw⟩;obtain rfl:=hw.symm;rw[HI.out])
    go_roundg (cs.length - (k+1))
    case measure=>omega
    case rel=>exact⟨k+1,cs[an].zi,by omega,rfl,by go_num,rfl,br,hb,HS.out⟩
  ·rw[hdd] at d5
   have HE:Hid (qQ cs now=0):=HN.out (KH han hdd)
   clear HN HK hdd
   go_wp2_with (go_at_call 58;refine(zZ _ _ _).mono ?_;rintro e w' ⟨rfl,hw⟩;obtain rfl:=hw.symm;rw[HI.out])
   go_ret
   exact⟨by rw[HE.out];rfl,hb⟩
def zaA (cs:List Cl) (now:Int):Prop:=∀i,(h:i<cs.length)->(i:Int)≠now->cs[i].zf.length<6
open Classical in
noncomputable def ZQ (cs:List Cl) (now:Int):Bool:=decide (zaA cs now) && ((qQ cs now == jX cs) && ((qQ cs now == 0) == (now == -1)))
theorem zbD {cs:List Cl} {now:Int} {i:Nat} (h:i<cs.length) (hn:(i:Int)≠now) (h6:¬cs[i].zf.length<6):ZQ cs now=false:=by
 have:¬zaA cs now:=fun hf=>h6 (hf i h hn)
 simp[ZQ,this]
theorem zes {cs:List Cl} {now:Int} (h:zaA cs now):ZQ cs now=((qQ cs now == jX cs) && ((qQ cs now == 0) == (now == -1))):=by
 simp[ZQ,h]
theorem K8 (vc vs:Value) (h:Hp) (w:World) (hh:Zu w vc vs h) (hn:h.ze.length<=900000) :
 Calls Tryz.prog 67 #[.agg (j6 vc vs h)] w fun e w'=>e=.returned (.bool (ZQ h.ze h.now))/\zO w w':=by
 have HD:Hid (∀w',zO w w'->Calls Tryz.prog 24 #[.agg (j6 vc vs h)] w' fun e w2=>e=.returned (zI (qQ h.ze h.now:Nat))/\zO w' w2):=fun w' hb=>ZL vc vs h w' (hh.below hb) hn
 unfold j6 at *
 obtain⟨cs,now,born,zm,code⟩:=h
 obtain⟨hhc,hhs⟩:=hh
 simp only[] at hhc hhs hn HD ⊢
 obtain⟨aD,kD,jG⟩:=hhs.shape
 subst jG
 obtain⟨ac,kc,rfl,_,hcl⟩:=hhc
 have hA:=zR w (.cells #[.slice ac cs.length kc,.int .i64 now,.int .i64 born,.slice aD zm.length kD,.int .i64 code] 44)
 have b5:=uP w 44 (.slice ac cs.length kc) (.int .i64 now) (.int .i64 born) (.slice aD zm.length kD) (.int .i64 code)
 go_enter Tryz.func67,Tryz.ntmps67
 go_upto_region 1 with fail
 generalize w.alloc (.cells #[.slice ac cs.length kc,.int .i64 now,.int .i64 born,.slice aD zm.length kD,.int .i64 code] 44)=W0 at *
 obtain⟨⟨x0,x1,x2,x3,x4⟩,_⟩:=kP b5
 clear b5 hhs
 have zA:=hA.size
 have hw0:w.heap.size<W0.heap.size:=World.block_lt_of_cell? _ _ x0
 go_wp2_with fail
 go_loopg [3,10] cs.length (fun d v i wr=>∃k:Nat,k<=cs.length/\d=cs.length - k/\v=zI (jX (cs.take k):Nat)/\i=zI (k:Nat)/\zO W0 wr/\∀j,(hj:j<cs.length)->j<k->(j:Int)≠now->cs[j].zf.length<6)
 case atStart=>exact⟨0,Nat.zero_le _,rfl,rfl,rfl,zS,fun j _ h=>absurd h yB⟩
 case round =>
  obtain⟨k,hk,rfl,rfl,rfl,hb,hall⟩:=hrel
  have H:Hid (∀j,(hj:j<cs.length)->j<k->(j:Int)≠now->cs[j].zf.length<6):=hall
  clear hall
  have un:=hb.size
  have q1:=zc hb x1
  by_cases yt:k<cs.length
  ·have v7:(k:Int)<(cs.length:Int):=by omega
   obtain⟨b,o,vt,vs,rfl,hc⟩:=hcl k yt
   have hcW:=hc.below (hA.trans (hb.mono zA))
   obtain⟨d0,d1,d2,d3,d4,d5,ht,hs⟩:=hcW
   obtain⟨a1,k1,e1⟩:=ht.shape
   obtain⟨a2,k2,e2⟩:=hs.shape
   subst e1 e2
   have HL:Hid (jX (cs.take (k+1))=jX (cs.take k)+(if cs[k].zy then 0 else 1)):=zcm yt
   have HLB:Hid (jX (cs.take k)<=k):=by
    show _<=_
    unfold jX
    exact Nat.le_trans (List.length_filter_le _ _) (by simp;omega)
   clear hc hcl ht hs
   have hLz:jX (cs.take k)<=900000:=Nat.le_trans HLB.out (by omega)
   have qN:=fun o=>zc (zR _ o) q1
   generalize jX (cs.take k)=L at *
   cases hdd:cs[k].zy
   ·rw[hdd] at d5
    have HL2:Hid (jX (cs.take (k+1))=L+1):=by
     show _=_
     rw[HL.out,hdd]
     rfl
    clear HL hdd
    by_cases hkn:(k:Int)=now
    ·subst hkn
     go_wp2
     go_roundg (cs.length - (k+1))
     case measure=>omega
     case rel =>
      refine⟨k+1,by omega,rfl,by rw[HL2.out];go_num,by go_num,hb.alloc un _,fun j hj hjk xp=>?_⟩
      exact H.out j hj (by omega) xp
    ·have ekn:((k:Int) == now)=false:=zG.2 hkn
     have ekn':((k:Int) != now)=true:=by simp[hkn]
     by_cases h6:6<=cs[k].zf.length
     ·have h6z:(6:Int)<=(cs[k].zf.length:Int):=by omega
      have HF:Hid (ZQ cs now=false):=zbD yt hkn (by omega)
      go_wp2
      go_ret
      exact⟨zp HF.out.symm,hA.trans ((hb.alloc un _).mono zA)⟩
     ·have h6z:(cs[k].zf.length:Int)<6:=by omega
      have H6:Hid (cs[k].zf.length<6):=by show _<_;omega
      go_wp2
      go_roundg (cs.length - (k+1))
      case measure=>omega
      case rel =>
       refine⟨k+1,by omega,rfl,by rw[HL2.out];go_num,by go_num,hb.alloc un _,fun j hj hjk xp=>?_⟩
       by_cases e:j=k
       ·subst e;exact H6.out
       ·exact H.out j hj (by omega) xp
   ·rw[hdd] at d5
    have HL2:Hid (jX (cs.take (k+1))=L):=by
     show _=_
     rw[HL.out,hdd]
     rfl
    clear HL hdd
    by_cases hkn:(k:Int)=now
    ·subst hkn
     go_wp2
     go_roundg (cs.length - (k+1))
     case measure=>omega
     case rel =>
      refine⟨k+1,by omega,rfl,by rw[HL2.out],by go_num,hb.alloc un _,fun j hj hjk xp=>?_⟩
      exact H.out j hj (by omega) xp
    ·have ekn:((k:Int) == now)=false:=zG.2 hkn
     have ekn':((k:Int) != now)=true:=by simp[hkn]
     by_cases h6:6<=cs[k].zf.length
     ·have h6z:(6:Int)<=(cs[k].zf.length:Int):=by omega
      have HF:Hid (ZQ cs now=false):=zbD yt hkn (by omega)
      go_wp2
      go_ret
      exact⟨zp HF.out.symm,hA.trans ((hb.alloc un _).mono zA)⟩
     ·have h6z:(cs[k].zf.length:Int)<6:=by omega
      have H6:Hid (cs[k].zf.length<6):=by show _<_;omega
      go_wp2
      go_roundg (cs.length - (k+1))
      case measure=>omega
      case rel =>
       refine⟨k+1,by omega,rfl,by rw[HL2.out],by go_num,hb.alloc un _,fun j hj hjk xp=>?_⟩
       by_cases e:j=k
       ·subst e;exact H6.out
       ·exact H.out j hj (by omega) xp
  ·obtain rfl:k=cs.length:=by omega
   have HF:Hid (zaA cs now):=fun j hj xp=>H.out j hj hj xp
   have HL:Hid (jX (cs.take cs.length)=jX cs):=by show _=_;rw[List.take_length]
   have hLz:jX cs<=900000:=Nat.le_trans (List.length_filter_le _ _) hn
   rw[HL.out]
   have HP:Hid (ZQ cs now=((qQ cs now == jX cs) && ((qQ cs now == 0) == (now == -1)))):=zes HF.out
   have q0:=zc hb x0
   have q2:=zc hb x2
   have q3:=zc hb x3
   have q4:=zc hb x4
   have HD2:=HD.out wr (hA.trans (hb.mono zA))
   have HD3:Hid (Calls Tryz.prog 24 #[.agg #[.slice ac cs.length kc,zI now,zI born,.slice aD zm.length kD,zI code]] wr fun e w2=>e=.returned (zI (qQ cs now:Nat))/\zO wr w2):=HD2
   have hbW:zO w wr:=hA.trans (hb.mono zA)
   have zW:=hbW.size
   clear HD2 HD HF H HL hcl x0 x1 x2 x3 x4 hA hb
   generalize jX cs=L at *
   generalize qQ cs now=D at *
   by_cases hDL:D=L
   ·subst hDL
    go_wp2_with (go_at_call 24;refine HD3.out.mono ?_;rintro e w2 ⟨rfl,yE⟩;have p1:=zc yE q1)
    go_ret
    refine⟨zp ?_,hbW.trans (yE.mono zW)⟩
    rw[HP.out,beq_self_eq_true,Bool.true_and,show((D:Int) == 0)=(D == 0) from by rw[Bool.eq_iff_iff,beq_iff_eq,beq_iff_eq];omega]
   ·have eDL:((D:Int) == (L:Int))=false:=zG.2 (by omega)
    have hDz:¬(D:Int)=(L:Int):=by omega
    go_wp2_with (go_at_call 24;refine HD3.out.mono ?_;rintro e w2 ⟨rfl,yE⟩;have p1:=zc yE q1)
    go_ret
    exact⟨zp (by rw[HP.out,zG.2 hDL,Bool.false_and]),hbW.trans (yE.mono zW)⟩
theorem xi {cs:List Cl} {f:Nat} {a:Int} {l:List Nat} (h:qh cs f a=some l) (ha:0<=a):∃(g n:Nat) (hn:n<cs.length) (t:List Nat),f=g+1/\a=n/\l=n :: t/\cs[n].zy=false/\qh cs g cs[n].zi=some t:=by
 obtain⟨n,rfl⟩:=Int.eq_ofNat_of_zero_le ha
 cases f with
 | zero=>rw[vr ha] at h;cases h
 | succ g =>
  by_cases hn:n<cs.length
  ·cases hd:cs[n].zy
   ·rw[xQ hn hd] at h
    cases hw:qh cs g cs[n].zi with
    | none=>rw[hw] at h;cases h
    | some t=>rw[hw] at h;exact⟨g,n,hn,t,rfl,rfl,(Option.some.inj h).symm,hd,hw⟩
   ·rw[uD hn hd] at h;cases h
  ·rw[wY hn] at h;cases h
theorem U5 {cs:List Cl}:∀(l:List Nat) (f f':Nat) (a:Int) (l':List Nat),qh cs f a=some l->qh cs f' a=some l'->l=l'
 | l,f,f',a,l',h,h'=>by
  by_cases ha:a<0
  ·rw[yN ha] at h h'
   exact(Option.some.inj h).symm.trans (Option.some.inj h')
  obtain⟨g,n,hn,t,rfl,rfl,rfl,_,hw⟩:=xi h (by omega)
  obtain⟨g',n',hn',t',rfl,e,rfl,_,hw'⟩:=xi h' (by omega)
  obtain rfl:n=n':=by omega
  rw[U5 t g g' _ t' hw hw']
 termination_by l=>l.length
theorem VP {cs:List Cl}:∀(pre:List Nat) (f:Nat) (a:Int) (k:Nat) (post:List Nat),qh cs f a=some (pre ++ k :: post)->∃f',qh cs f' (k:Int)=some (k :: post)
 | [],f,a,k,post,h=>by
  by_cases ha:a<0
  ·rw[yN ha] at h;cases h
  obtain⟨g,n,hn,t,rfl,rfl,e,_,hw⟩:=xi h (by omega)
  obtain⟨rfl,rfl⟩:=List.cons.inj e
  exact⟨g+1,h⟩
 | p :: pre,f,a,k,post,h=>by
  by_cases ha:a<0
  ·rw[yN ha] at h;cases h
  obtain⟨g,n,hn,t,rfl,rfl,e,_,hw⟩:=xi h (by omega)
  obtain⟨rfl,rfl⟩:=List.cons.inj e
  exact VP pre g _ k post hw
theorem Zt {cs:List Cl}:∀(l:List Nat) (f:Nat) (a:Int),qh cs f a=some l->l.Nodup
 | [],_,_,_=>List.nodup_nil
 | k :: t,f,a,h=>by
  by_cases ha:a<0
  ·rw[yN ha] at h;cases h
  obtain⟨g,n,hn,t',rfl,rfl,e,_,hw⟩:=xi h (by omega)
  obtain⟨rfl,rfl⟩:=List.cons.inj e
  refine List.nodup_cons.2 ⟨fun hm=>?_,Zt _ g _ hw⟩
  obtain⟨pre,post,rfl⟩:=List.append_of_mem hm
  obtain⟨f',hf⟩:=VP pre g _ k post hw
  have:=congrArg List.length (U5 _ _ _ _ _ h hf)
  simp at this
  omega
theorem xX:∀(l A:List Nat),l.Nodup->(∀k∈l,k∈A)->l.length<=A.length
 | [],_,_,_=>Nat.zero_le _
 | a :: t,A,hn,hs=>by
  obtain⟨ha,ht⟩:=List.nodup_cons.1 hn
  have hm:a∈A:=hs a (List.mem_cons_self ..)
  have:=xX t (A.erase a) ht fun k hk=>(List.mem_erase_of_ne (show k≠a from fun e=>ha (by rw[<-e];exact hk))).2 (hs k (List.mem_cons_of_mem _ hk))
  rw[List.length_erase_of_mem hm] at this
  have:=List.length_pos_of_mem hm
  simp
  omega
def ZY (cs:List Cl):List Nat:=(List.range cs.length).filter fun i=>!(cs.getD i Cl.none).zy
theorem KB (cs:List Cl):(ZY cs).length=jX cs:=by
 have e:(List.range cs.length).map (fun i=>cs.getD i Cl.none)=cs:=by
  apply List.ext_getElem
  ·simp
  ·intro i h1 h2
   simp[h2]
 unfold jX ZY
 conv=>rhs;rw[<-e]
 rw[List.filter_map,List.length_map]
 rfl
theorem Ql {cs:List Cl} {k:Nat}:k∈ZY cs ↔ ∃h:k<cs.length,cs[k].zy=false:=by
 unfold ZY
 rw[List.mem_filter,List.mem_range]
 constructor
 ·rintro⟨h,e⟩
  exact⟨h,by simpa [h] using e⟩
 ·rintro⟨h,e⟩
  exact⟨h,by simp[h,e]⟩
theorem zao (cs:List Cl) (now:Int):(xL cs now).Nodup:=by
 unfold xL
 cases h:qh cs cs.length now with
 | none=>exact List.nodup_nil
 | some l=>exact Zt l _ _ h
theorem zdr {cs:List Cl} {now:Int} (h:(xL cs now).length=jX cs) {k:Nat} (hk:k<cs.length) (hd:cs[k].zy=false):k∈xL cs now:=by
 apply Classical.byContradiction
 intro hn
 have:=xX (k :: xL cs now) (ZY cs) (List.nodup_cons.2 ⟨hn,zao cs now⟩) (fun j hj=>by
  rcases List.mem_cons.1 hj with rfl | hj
  ·exact Ql.2 ⟨hk,hd⟩
  ·exact Ql.2 (zeA hj))
 rw[KB,List.length_cons] at this
 omega
def yK (ps:List Nat) (p:Int):Int:=match ps.findIdx? (fun(q:Nat)=>(q:Int) == p) with
 | some i=>(i:Int)
 | none=>-1
theorem kZ {ps:List Nat} {p:Int} (h:∀i,(hi:i<ps.length)->(ps[i]:Int)≠p):yK ps p=-1:=by
 unfold yK
 have:ps.findIdx? (fun(q:Nat)=>(q:Int) == p)=none:=by
  rw[List.findIdx?_eq_none_iff]
  intro x hx
  obtain⟨i,hi,rfl⟩:=List.getElem_of_mem hx
  simpa using h i hi
 rw[this]
theorem YP {ps:List Nat} {p:Int} {i:Nat} (hi:i<ps.length) (h:(ps[i]:Int)=p) (hf:∀k,(hk:k<i)->((ps[k]'(by omega):Nat):Int)≠p):yK ps p=i:=by
 unfold yK
 have:ps.findIdx? (fun(q:Nat)=>(q:Int) == p)=some i:=by
  rw[List.findIdx?_eq_some_iff_getElem]
  exact⟨hi,by simpa using h,fun k hk=>by simpa using hf k hk⟩
 rw[this]
theorem ZB {ps:List Nat} {p:Int}:yK ps p=-1 ↔ ∀i,(hi:i<ps.length)->(ps[i]:Int)≠p:=by
 refine⟨fun h i hi e=>?_,kZ⟩
 unfold yK at h
 split at h
 ·omega
 ·rename_i hn
  rw[List.findIdx?_eq_none_iff] at hn
  have:=hn ps[i] (List.getElem_mem hi)
  simp[e] at this
theorem Vj {ps:List Nat} {p:Nat} {q:Int} (h:yK ps p=-1):yK (ps ++ [p]) q=if q=p then(ps.length:Int) else yK ps q:=by
 by_cases hq:q=p
 ·subst hq
  rw[if_pos rfl]
  refine YP (i:=ps.length) (by simp) (by simp) (fun k hk=>?_)
  rw[List.getElem_append_left hk]
  exact ZB.1 h k hk
 ·rw[if_neg hq]
  unfold yK
  rw[List.findIdx?_append]
  have:[p].findIdx? (fun(x:Nat)=>(x:Int) == q)=none:=by
   rw[List.findIdx?_eq_none_iff]
   intro x hx
   simp at hx
   subst hx
   simp
   exact fun e=>hq e.symm
  rw[this]
  simp
structure xV (n:Nat) (ps:List Nat):Prop where
 nd:ps.Nodup
 lt:∀p∈ps,p<n
theorem xV.len {n:Nat} {ps:List Nat} (h:xV n ps):ps.length<=n:=by
 have:=xX ps (List.range n) h.nd (fun k hk=>by simpa using h.lt k hk)
 simpa using this
def qn (n:Nat) (ps:List Nat) (p:Int):List Nat:=if 0<=p/\p<(n:Int)/\yK ps p=-1 then ps ++ [p.toNat] else ps
theorem Qj {n:Nat} {ps:List Nat} {p:Nat} (h1:p<n) (h2:yK ps p=-1):qn n ps p=ps ++ [p]:=by
 unfold qn
 rw[if_pos ⟨by omega,by omega,h2⟩]
 simp
theorem XW {n:Nat} {ps:List Nat} {p:Int} (h:¬(0<=p/\p<(n:Int))):qn n ps p=ps:=by
 unfold qn
 rw[if_neg (fun e=>h ⟨e.1,e.2.1⟩)]
theorem Xj {n:Nat} {ps:List Nat} {p:Int} (h:yK ps p≠-1):qn n ps p=ps:=by
 unfold qn
 rw[if_neg (fun e=>h e.2.2)]
theorem xV.come {n:Nat} {ps:List Nat} (h:xV n ps) (p:Int):xV n (qn n ps p):=by
 unfold qn
 split
 ·rename_i hc
  obtain⟨k,rfl⟩:=Int.eq_ofNat_of_zero_le hc.1
  have hk:k<n:=by omega
  have hn:=ZB.1 hc.2.2
  refine⟨?_,fun q hq=>?_⟩
  ·rw[List.nodup_append]
   refine⟨h.nd,by simp,fun a ha b hb e=>?_⟩
   simp at hb
   subst hb e
   obtain⟨i,hi,e⟩:=List.getElem_of_mem ha
   exact hn i hi (by rw[e])
  ·simp at hq
   rcases hq with hq | rfl
   ·exact h.lt q hq
   ·exact hk
 ·exact h
def comeV (n:Nat) (ps:List Nat) (vs:yH):List Nat:=vs.foldl (fun ps v=>if v.1=2 then qn n ps v.2 else ps) ps
theorem zbR {n:Nat} {ps:List Nat} {vs:yH} {k:Nat} (h:k<vs.length):comeV n ps (vs.take (k+1))=if vs[k].1=2 then qn n (comeV n ps (vs.take k)) vs[k].2 else comeV n ps (vs.take k):=by
 unfold comeV
 rw[List.take_add_one,List.getElem?_eq_getElem h,List.foldl_append]
 rfl
theorem xV.comeV {n:Nat}:∀(vs:yH) {ps:List Nat},xV n ps->xV n (comeV n ps vs)
 | [],_,h=>h
 | v :: r,ps,h=>by
  show xV n (List.foldl _ (if v.1=2 then qn n ps v.2 else ps) r)
  split
  ·exact xV.comeV r (h.come v.2)
  ·exact xV.comeV r h
def comeC (n:Nat) (ps:List Nat) (c:Cl):List Nat:=comeV n (comeV n (qn n ps c.zi) c.zh) c.zf
theorem xV.comeC {n:Nat} {ps:List Nat} (h:xV n ps) (c:Cl):xV n (comeC n ps c):=((h.come c.zi).comeV c.zh).comeV c.zf
theorem zas (n:Nat) (ps:List Nat) (p:Int):∃t,qn n ps p=ps ++ t:=by
 unfold qn
 split
 ·exact⟨_,rfl⟩
 ·exact⟨[],by simp⟩
theorem vW (n:Nat):∀(vs:yH) (ps:List Nat),∃t,comeV n ps vs=ps ++ t
 | [],ps=>⟨[],by simp[comeV]⟩
 | v :: r,ps=>by
  obtain⟨t,ht⟩:=vW n r (if v.1=2 then qn n ps v.2 else ps)
  have e:comeV n ps (v :: r)=comeV n (if v.1=2 then qn n ps v.2 else ps) r:=rfl
  rw[e,ht]
  split
  ·obtain⟨t2,h2⟩:=zas n ps v.2
   exact⟨t2 ++ t,by rw[h2,List.append_assoc]⟩
  ·exact⟨t,rfl⟩
theorem Qi (n:Nat) (ps:List Nat) (c:Cl):∃t,comeC n ps c=ps ++ t:=by
 obtain⟨t1,h1⟩:=zas n ps c.zi
 obtain⟨t2,h2⟩:=vW n c.zh (qn n ps c.zi)
 obtain⟨t3,h3⟩:=vW n c.zf (comeV n (qn n ps c.zi) c.zh)
 exact⟨t1 ++ (t2 ++ t3),by unfold comeC;rw[h3,h2,h1];simp⟩
def foundF (cs:List Cl):Nat->Nat->List Nat->List Nat
 | 0,_,ps=>ps
 | f+1,j,ps=>if h:j<ps.length then foundF cs f (j+1) (comeC cs.length ps (cs.getD ps[j] Cl.none)) else ps
def found (h:Hp):List Nat:=foundF h.ze h.ze.length 0 (qn h.ze.length [] h.now)
theorem Zj {cs:List Cl} {j:Nat} {ps:List Nat} (hps:xV cs.length ps) (hj:j<ps.length) (hp:ps[j]<cs.length) :
 foundF cs (cs.length - j) j ps=foundF cs (cs.length - (j+1)) (j+1) (comeC cs.length ps cs[ps[j]]):=by
 have:=hps.len
 rw[show cs.length - j=(cs.length - (j+1))+1 by omega]
 show(if h:j<ps.length then foundF cs (cs.length - (j+1)) (j+1) (comeC cs.length ps (cs.getD ps[j] Cl.none)) else ps)=_
 rw[dif_pos hj]
 simp[hp]
theorem kQ {cs:List Cl} {j:Nat} {ps:List Nat} (f:Nat) (hj:¬j<ps.length):foundF cs f j ps=ps:=by
 cases f with
 | zero=>rfl
 | succ f =>
  show(if h:j<ps.length then _ else ps)=ps
  rw[dif_neg hj]
def XN (ps:List Nat) (v:Int × Int):Int × Int:=if v.1=2 then(2,yK ps v.2) else v
def j1 (ps:List Nat) (c:Cl):Cl:=⟨c.m,c.pc,c.zh.map (XN ps),c.zf.map (XN ps),yK ps c.zi,c.zy⟩
def jq (h:Hp):List Cl:=(found h).map fun p=>j1 (found h) (h.ze.getD p Cl.none)
end Go.Proofs.YtbjgjjkgfnfejaaGreatDoor
