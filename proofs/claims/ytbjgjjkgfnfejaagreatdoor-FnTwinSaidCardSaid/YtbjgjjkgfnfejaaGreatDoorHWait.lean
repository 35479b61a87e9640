/-
  The calls that wait for one another: the chain, in plain words, and the document's model of it (l11Chain).
-/
import Derived.Test.YtbjgjjkgfnfejaaGreatDoorHSpecOk
import Derived.Test.YtbjgjjkgfnfejaaGreatDoorIntsM
import Derived.Test.YtbjgjjkgfnfejaaGreatDoorTakes2
namespace Go.Proofs.YtbjgjjkgfnfejaaGreatDoor
set_option maxHeartbeats 4000000
set_option maxRecDepth 100000
open Go.RowKit
def qz (cs:List Cl):Nat->Int->Option (List Nat)
 | 0,a=>if a<0 then some [] else none
 | f+1,a=>if a<0 then some [] else if h:a.toNat<cs.length then(if cs[a.toNat].zv then none else(qz cs f cs[a.toNat].zi).map (a.toNat :: ·)) else none
def qs (cs:List Cl) (now:Int):List Nat:=(qz cs cs.length now).getD []
theorem qn {cs:List Cl} {f:Nat} {a:Int} (h:a<0):qz cs f a=some []:=by
 cases f <;> simp[qz,h]
theorem Z1 {cs:List Cl} {a:Int} (h:0<=a):qz cs 0 a=none:=by
 simp[qz];omega
theorem zbR {cs:List Cl} {f:Nat} {a:Nat} (h:¬a<cs.length):qz cs f (a:Int)=none:=by
 cases f with
 | zero=>exact Z1 (by omega)
 | succ f =>
  simp only[qz]
  rw[if_neg (by omega),dif_neg (by simpa using h)]
theorem QK {cs:List Cl} {f:Nat} {a:Nat} (h:a<cs.length) (hd:cs[a].zv=true):qz cs f (a:Int)=none:=by
 cases f with
 | zero=>exact Z1 (by omega)
 | succ f =>
  simp only[qz,Int.toNat_natCast]
  rw[if_neg (by omega),dif_pos h,if_pos hd]
theorem uB {cs:List Cl} {f:Nat} {a:Nat} (h:a<cs.length) (hd:cs[a].zv=false):qz cs (f+1) (a:Int)=(qz cs f cs[a].zi).map (a :: ·):=by
 simp only[qz,Int.toNat_natCast]
 rw[if_neg (by omega),dif_pos h,hd]
 rfl
def nums (l:List Nat):List Int:=l.map fun(k:Nat)=>(k:Int)
theorem KZ {cs:List Cl}:∀(f:Nat) (a:Int) (l:List Nat),qz cs f a=some l->∀k∈l,∃h:k<cs.length,cs[k].zv=false
 | 0,a,l,h,k,hk=>by
  simp only[qz] at h
  split at h
  ·cases h;cases hk
  ·cases h
 | f+1,a,l,h,k,hk=>by
  simp only[qz] at h
  split at h
  ·cases h;cases hk
  ·split at h
   ·rename_i hn ha
    split at h
    ·cases h
    ·rename_i hd
     obtain⟨l',hl',rfl⟩:=Option.map_eq_some_iff.1 h
     rcases List.mem_cons.1 hk with rfl | hk
     ·exact⟨ha,by simpa using hd⟩
     ·exact KZ f _ l' hl' k hk
   ·cases h
theorem Wl {cs:List Cl} {now:Int} {k:Nat} (h:k∈qs cs now):∃h:k<cs.length,cs[k].zv=false:=by
 unfold qs at h
 cases hw:qz cs cs.length now with
 | none=>rw[hw] at h;cases h
 | some l=>rw[hw] at h;exact KZ _ _ _ hw k h
def Jg (cs:List Cl) (ch:List Nat):Bool:=(ch.drop 1).all fun k=>decide ((cs.getD k Cl.none).zf.length<6)
theorem zc2 {cs:List Cl} {ch:List Nat} (hin:∀k∈ch,k<cs.length) (h:∀i,(hi:i<ch.length)->1<=i->∀hk:ch[i]<cs.length,cs[ch[i]].zf.length<6):Jg cs ch=true:=by
 unfold Jg
 rw[List.all_eq_true]
 intro k hk
 obtain⟨j,hj,rfl⟩:=List.getElem_of_mem hk
 have hj':j+1<ch.length:=by simp at hj;omega
 have e:(ch.drop 1)[j]=ch[j+1]:=by simp
 rw[e]
 have hk':=hin _ (List.getElem_mem hj')
 have:=h (j+1) hj' (by omega) hk'
 simp[hk',this]
def vg (ms:zM) (h:Hp):Bool :=
 yr ms && qC h.now (-1) ((h.za.length:Int) - 1) && qC h.born 1 30 && decide ((h.za.length:Int)<=h.born) && qC h.code 0 3 && yA ms.length h.zm && ((h.code == 1) == decide (h.now<0))
def jO (cs:List Cl):Nat:=(cs.filter fun c=>!c.zv).length
def X5 (h:Hp):Bool:=(decide (h.now<0) || !(h.za.getD h.now.toNat Cl.none).zv) && ((qs h.za h.now).length == jO h.za) && Jg h.za (qs h.za h.now)
def xm (ms:zM) (h:Hp):Bool:=vg ms h && h.za.all (xN ms h.za.length) && X5 h
theorem WC {ms:zM} {h:Hp} (e:vg ms h=false):xm ms h=false:=by simp[xm,e]
theorem WB {ms:zM} {h:Hp} {i:Nat} (hi:i<h.za.length) (e:xN ms h.za.length h.za[i]=false):xm ms h=false:=by
 simp only[xm,QR hi e,Bool.and_false,Bool.false_and]
theorem za9 {ms:zM} {h:Hp} (e:vg ms h=true) (hc:∀i,(hi:i<h.za.length)->xN ms h.za.length h.za[i]=true):xm ms h=X5 h:=by
 simp only[xm,e,Xr hc,Bool.true_and]
theorem zbr {cs:List Cl} {k:Nat} (hk:k<cs.length):jO (cs.take (k+1))=jO (cs.take k)+(if cs[k].zv then 0 else 1):=by
 unfold jO
 rw[List.take_succ_eq_append_getElem hk,List.filter_append,List.length_append]
 congr 1
 by_cases e:cs[k].zv=true <;> simp[e]
def kj (cs:List Cl):Nat->Int->Option Nat
 | 0,a=>if 0<=a/\a.toNat<cs.length then none else some 0
 | f+1,a=>if h:0<=a/\a.toNat<cs.length then(if(cs[a.toNat]'h.2).zv then none else(kj cs f (cs[a.toNat]'h.2).zi).map (·+1)) else some 0
theorem VG {cs:List Cl} {f:Nat} {a:Int} (h:¬(0<=a/\a<(cs.length:Int))):kj cs f a=some 0:=by
 have h':¬(0<=a/\a.toNat<cs.length):=by omega
 cases f
 ·simp only[kj,if_neg h']
 ·simp only[kj,dif_neg h']
theorem Qr {cs:List Cl} {a:Nat} (h:a<cs.length):kj cs 0 (a:Int)=none:=by
 simp only[kj]
 rw[if_pos (by simp;exact h)]
theorem J6 {cs:List Cl} {f:Nat} {a:Nat} (h:a<cs.length) (hd:cs[a].zv=true):kj cs f (a:Int)=none:=by
 cases f with
 | zero=>exact Qr h
 | succ f =>
  simp only[kj,Int.toNat_natCast]
  rw[dif_pos ⟨by omega,h⟩,if_pos hd]
theorem J7 {cs:List Cl} {f:Nat} {a:Nat} (h:a<cs.length) (hd:cs[a].zv=false):kj cs (f+1) (a:Int)=(kj cs f cs[a].zi).map (·+1):=by
 simp only[kj,Int.toNat_natCast]
 rw[dif_pos ⟨by omega,h⟩,hd]
 rfl
def jL (cs:List Cl) (now:Int):Nat:=(kj cs cs.length now).getD 0
theorem J8 {cs:List Cl} (hs:∀i,(h:i<cs.length)->-1<=cs[i].zi/\cs[i].zi<(cs.length:Int)):∀(f:Nat) (a:Int),-1<=a->a<(cs.length:Int)->kj cs f a=(qz cs f a).map List.length
 | f,a,h0,h1=>by
  by_cases hn:a<0
  ·rw[qn hn,VG (by omega)];rfl
  obtain⟨n,rfl⟩:=Int.eq_ofNat_of_zero_le (show 0<=a by omega)
  have hl:n<cs.length:=by omega
  cases f with
  | zero=>rw[Qr hl,Z1 (by omega)];rfl
  | succ f =>
   cases hd:cs[n].zv
   ·rw[J7 hl hd,uB hl hd,J8 hs f _ (hs n hl).1 (hs n hl).2]
    cases qz cs f cs[n].zi <;> rfl
   ·rw[J6 hl hd,QK hl hd];rfl
theorem Us {cs:List Cl} {now:Int} (hs:∀i,(h:i<cs.length)->-1<=cs[i].zi/\cs[i].zi<(cs.length:Int)) (h0:-1<=now) (h1:now<(cs.length:Int)):jL cs now=(qs cs now).length:=by
 unfold jL qs
 rw[J8 hs _ _ h0 h1]
 cases qz cs cs.length now <;> rfl
theorem XD (vc vs:Value) (h:Hp) (w:World) (hh:wu w vc vs h) (hn:h.za.length<=900000) :
 Calls Tryz.prog 24 #[.agg (jK vc vs h)] w fun e w'=>e=.returned (zI (jL h.za h.now:Nat))/\zO w w':=by
 unfold jK
 obtain⟨cs,now,born,zm,code⟩:=h
 obtain⟨hhc,hhs⟩:=hh
 simp only[] at hhc hhs hn ⊢
 obtain⟨aD,kD,km⟩:=hhs.shape
 subst km
 obtain⟨ac,kc,rfl,_,hcl⟩:=hhc
 have hA:=zR w (.cells #[.slice ac cs.length kc,.int .i64 now,.int .i64 born,.slice aD zm.length kD,.int .i64 code] 44)
 have b0:(w.alloc (.cells #[.slice ac cs.length kc,.int .i64 now,.int .i64 born,.slice aD zm.length kD,.int .i64 code] 44)).cell? (zH w.heap.size 0)=some (.slice ac cs.length kc):=by simp[go_sem]
 have b1:(w.alloc (.cells #[.slice ac cs.length kc,.int .i64 now,.int .i64 born,.slice aD zm.length kD,.int .i64 code] 44)).cell? (zH w.heap.size 1)=some (.int .i64 now):=by simp[go_sem]
 go_enter Tryz.func24,Tryz.ntmps24
 go_upto_region 1 with fail
 generalize w.alloc (.cells #[.slice ac cs.length kc,.int .i64 now,.int .i64 born,.slice aD zm.length kD,.int .i64 code] 44)=W0 at *
 have HW:Hid (kj cs cs.length now=(kj cs (cs.length - 0) now).map (·+0)):=by
  show _=_
  simp
 clear hhs
 go_wp2_with fail
 go_loopg [3,4] cs.length (fun d v at_ wr=>∃(k:Nat) (a:Int),k<=cs.length/\d=cs.length - k/\v=zI (k:Nat)/\at_=zI a/\wr.cell? (zH w.heap.size 0)=some (.slice ac cs.length kc)/\zO w wr/\kj cs cs.length now=(kj cs (cs.length - k) a).map (·+k))
 case atStart=>exact⟨0,now,Nat.zero_le _,rfl,rfl,rfl,b0,hA,HW.out⟩
 case round =>
  obtain⟨k,a,hk,rfl,rfl,rfl,br,hb,zfd⟩:=hrel
  have HK:Hid (kj cs cs.length now=(kj cs (cs.length - k) a).map (·+k)):=zfd
  clear zfd HW b0 b1 hA
  have vJ:=hb.size
  by_cases ha:¬(0<=a/\a<(cs.length:Int))
  ·have HI:Hid (qC a 0 ((cs.length:Int) - 1)=false):=qc.2 (by omega)
   have HE:Hid (jL cs now=k):=by
    show _=_
    unfold jL
    rw[HK.out,VG ha]
    simp
   go_wp2_with (go_at_call 58;refine(yc _ _ _).mono ?_;rintro e w' ⟨rfl,hw⟩;obtain rfl:=hw.symm;rw[HI.out])
   go_ret
   exact⟨by rw[HE.out];rfl,hb⟩
  have ha:=Decidable.not_not.1 ha
  have HI:Hid (qC a 0 ((cs.length:Int) - 1)=true):=zF.2 (by omega)
  obtain⟨an,rfl⟩:=Int.eq_ofNat_of_zero_le ha.1
  have han:an<cs.length:=by omega
  have hanz:(an:Int)<(cs.length:Int):=by omega
  obtain⟨b,o,vt,vs,rfl,hc⟩:=hcl an han
  have d4:=zc hb hc.c4
  have d5:=zc hb hc.c5
  have HN:Hid (kj cs (cs.length - k) (an:Int)=none->jL cs now=0):=fun e=>by
   unfold jL
   rw[HK.out,e]
   rfl
  clear hcl hc ha
  rcases hdd:cs[an].zv with _ | _
  ·rw[hdd] at d5
   by_cases hf:cs.length<=k
   ·have HE:Hid (jL cs now=0):=HN.out (by rw[show cs.length - k=0 by omega];exact Qr han)
    have hkk:((k:Int) == (cs.length:Int))=true:=by simp;omega
    obtain rfl:k=cs.length:=by omega
    clear HN HK hdd
    go_wp2_with (go_at_call 58;refine(yc _ _ _).mono ?_;rintro e w' ⟨rfl,hw⟩;obtain rfl:=hw.symm;rw[HI.out])
    go_ret
    exact⟨by rw[HE.out];rfl,hb⟩
   ·have HS:Hid (kj cs cs.length now=(kj cs (cs.length - (k+1)) cs[an].zi).map (·+(k+1))):=by
     show _=_
     rw[HK.out,show cs.length - k=(cs.length - (k+1))+1 by omega,J7 han hdd]
     cases kj cs (cs.length - (k+1)) cs[an].zi with
     | none=>rfl
     | some q=>simp;omega
    have hkk:((k:Int) == (cs.length:Int))=false:=by simp;omega
    have hkl:(k:Int)<(cs.length:Int):=by omega
    clear HN HK hdd
    go_wp2_with (go_at_call 58;refine(yc _ _ _).mono ?_;rintro e w' ⟨rfl,hw⟩;obtain rfl:=hw.symm;rw[HI.out])
    go_roundg (cs.length - (k+1))
    case measure=>omega
    case rel=>exact⟨k+1,cs[an].zi,by omega,rfl,by go_num,rfl,br,hb,HS.out⟩
  ·rw[hdd] at d5
   have HE:Hid (jL cs now=0):=HN.out (J6 han hdd)
   clear HN HK hdd
   go_wp2_with (go_at_call 58;refine(yc _ _ _).mono ?_;rintro e w' ⟨rfl,hw⟩;obtain rfl:=hw.symm;rw[HI.out])
   go_ret
   exact⟨by rw[HE.out];rfl,hb⟩
def VI (cs:List Cl) (now:Int):Prop:=∀i,(h:i<cs.length)->(i:Int)≠now->cs[i].zf.length<6
open Classical in
noncomputable def uq (cs:List Cl) (now:Int):Bool:=decide (VI cs now) && ((jL cs now == jO cs) && ((jL cs now == 0) == (now == -1)))
theorem zaC {cs:List Cl} {now:Int} {i:Nat} (h:i<cs.length) (hn:(i:Int)≠now) (h6:¬cs[i].zf.length<6):uq cs now=false:=by
 have:¬VI cs now:=fun hf=>h6 (hf i h hn)
 simp[uq,this]
theorem zdg {cs:List Cl} {now:Int} (h:VI cs now):uq cs now=((jL cs now == jO cs) && ((jL cs now == 0) == (now == -1))):=by
 simp[uq,h]
theorem Yx (vc vs:Value) (h:Hp) (w:World) (hh:wu w vc vs h) (hn:h.za.length<=900000) :
 Calls Tryz.prog 67 #[.agg (jK vc vs h)] w fun e w'=>e=.returned (.bool (uq h.za h.now))/\zO w w':=by
 have HD:Hid (∀w',zO w w'->Calls Tryz.prog 24 #[.agg (jK vc vs h)] w' fun e w2=>e=.returned (zI (jL h.za h.now:Nat))/\zO w' w2):=fun w' hb=>XD vc vs h w' (hh.below hb) hn
 unfold jK at *
 obtain⟨cs,now,born,zm,code⟩:=h
 obtain⟨hhc,hhs⟩:=hh
 simp only[] at hhc hhs hn HD ⊢
 obtain⟨aD,kD,km⟩:=hhs.shape
 subst km
 obtain⟨ac,kc,rfl,_,hcl⟩:=hhc
 have hA:=zR w (.cells #[.slice ac cs.length kc,.int .i64 now,.int .i64 born,.slice aD zm.length kD,.int .i64 code] 44)
 have b5:=jj w 44 (.slice ac cs.length kc) (.int .i64 now) (.int .i64 born) (.slice aD zm.length kD) (.int .i64 code)
 go_enter Tryz.func67,Tryz.ntmps67
 go_upto_region 1 with fail
 generalize w.alloc (.cells #[.slice ac cs.length kc,.int .i64 now,.int .i64 born,.slice aD zm.length kD,.int .i64 code] 44)=W0 at *
 obtain⟨⟨x0,x1,x2,x3,x4⟩,_⟩:=zq b5
 clear b5 hhs
 have zA:=hA.size
 have hw0:w.heap.size<W0.heap.size:=World.block_lt_of_cell? _ _ x0
 go_wp2_with fail
 go_loopg [3,10] cs.length (fun d v i wr=>∃k:Nat,k<=cs.length/\d=cs.length - k/\v=zI (jO (cs.take k):Nat)/\i=zI (k:Nat)/\zO W0 wr/\∀j,(hj:j<cs.length)->j<k->(j:Int)≠now->cs[j].zf.length<6)
 case atStart=>exact⟨0,Nat.zero_le _,rfl,rfl,rfl,zS,fun j _ h=>absurd h yB⟩
 case round =>
  obtain⟨k,hk,rfl,rfl,rfl,hb,hall⟩:=hrel
  have H:Hid (∀j,(hj:j<cs.length)->j<k->(j:Int)≠now->cs[j].zf.length<6):=hall
  clear hall
  have vJ:=hb.size
  have q1:=zc hb x1
  by_cases yz:k<cs.length
  ·have uW:(k:Int)<(cs.length:Int):=by omega
   obtain⟨b,o,vt,vs,rfl,hc⟩:=hcl k yz
   have hcW:=hc.below (hA.trans (hb.mono zA))
   obtain⟨d0,d1,d2,d3,d4,d5,ht,hs⟩:=hcW
   obtain⟨a1,k1,e1⟩:=ht.shape
   obtain⟨a2,k2,e2⟩:=hs.shape
   subst e1 e2
   have HL:Hid (jO (cs.take (k+1))=jO (cs.take k)+(if cs[k].zv then 0 else 1)):=zbr yz
   have HLB:Hid (jO (cs.take k)<=k):=by
    show _<=_
    unfold jO
    exact Nat.le_trans (List.length_filter_le _ _) (by simp;omega)
   clear hc hcl ht hs
   have hLz:jO (cs.take k)<=900000:=Nat.le_trans HLB.out (by omega)
   have qN:=fun o=>zc (zR _ o) q1
   generalize jO (cs.take k)=L at *
   cases hdd:cs[k].zv
   ·rw[hdd] at d5
    have HL2:Hid (jO (cs.take (k+1))=L+1):=by
     show _=_
     rw[HL.out,hdd]
     rfl
    clear HL hdd
    by_cases hkn:(k:Int)=now
    ·subst hkn
     go_wp2
     go_roundg (cs.length - (k+1))
     case measure=>omega
     case rel =>
      refine⟨k+1,by omega,rfl,by rw[HL2.out];go_num,by go_num,hb.alloc vJ _,fun j hj hjk qF=>?_⟩
      exact H.out j hj (by omega) qF
    ·have ekn:((k:Int) == now)=false:=zG.2 hkn
     have ekn':((k:Int) != now)=true:=by simp[hkn]
     by_cases h6:6<=cs[k].zf.length
     ·have h6z:(6:Int)<=(cs[k].zf.length:Int):=by omega
      have HF:Hid (uq cs now=false):=zaC yz hkn (by omega)
      go_wp2
      go_ret
      exact⟨zo HF.out.symm,hA.trans ((hb.alloc vJ _).mono zA)⟩
     ·have h6z:(cs[k].zf.length:Int)<6:=by omega
      have H6:Hid (cs[k].zf.length<6):=by show _<_;omega
      go_wp2
      go_roundg (cs.length - (k+1))
      case measure=>omega
      case rel =>
       refine⟨k+1,by omega,rfl,by rw[HL2.out];go_num,by go_num,hb.alloc vJ _,fun j hj hjk qF=>?_⟩
       by_cases e:j=k
       ·subst e;exact H6.out
       ·exact H.out j hj (by omega) qF
   ·rw[hdd] at d5
    have HL2:Hid (jO (cs.take (k+1))=L):=by
     show _=_
     rw[HL.out,hdd]
     rfl
    clear HL hdd
    by_cases hkn:(k:Int)=now
    ·subst hkn
     go_wp2
     go_roundg (cs.length - (k+1))
     case measure=>omega
     case rel =>
      refine⟨k+1,by omega,rfl,by rw[HL2.out],by go_num,hb.alloc vJ _,fun j hj hjk qF=>?_⟩
      exact H.out j hj (by omega) qF
    ·have ekn:((k:Int) == now)=false:=zG.2 hkn
     have ekn':((k:Int) != now)=true:=by simp[hkn]
     by_cases h6:6<=cs[k].zf.length
     ·have h6z:(6:Int)<=(cs[k].zf.length:Int):=by omega
      have HF:Hid (uq cs now=false):=zaC yz hkn (by omega)
      go_wp2
      go_ret
      exact⟨zo HF.out.symm,hA.trans ((hb.alloc vJ _).mono zA)⟩
     ·have h6z:(cs[k].zf.length:Int)<6:=by omega
      have H6:Hid (cs[k].zf.length<6):=by show _<_;omega
      go_wp2
      go_roundg (cs.length - (k+1))
      case measure=>omega
      case rel =>
       refine⟨k+1,by omega,rfl,by rw[HL2.out],by go_num,hb.alloc vJ _,fun j hj hjk qF=>?_⟩
       by_cases e:j=k
       ·subst e;exact H6.out
       ·exact H.out j hj (by omega) qF
  ·obtain rfl:k=cs.length:=by omega
   have HF:Hid (VI cs now):=fun j hj qF=>H.out j hj hj qF
   have HL:Hid (jO (cs.take cs.length)=jO cs):=by show _=_;rw[List.take_length]
   have hLz:jO cs<=900000:=Nat.le_trans (List.length_filter_le _ _) hn
   rw[HL.out]
   have HP:Hid (uq cs now=((jL cs now == jO cs) && ((jL cs now == 0) == (now == -1)))):=zdg HF.out
   have q0:=zc hb x0
   have q2:=zc hb x2
   have q3:=zc hb x3
   have q4:=zc hb x4
   have HD2:=HD.out wr (hA.trans (hb.mono zA))
   have HD3:Hid (Calls Tryz.prog 24 #[.agg #[.slice ac cs.length kc,zI now,zI born,.slice aD zm.length kD,zI code]] wr fun e w2=>e=.returned (zI (jL cs now:Nat))/\zO wr w2):=HD2
   have hbW:zO w wr:=hA.trans (hb.mono zA)
   have zW:=hbW.size
   clear HD2 HD HF H HL hcl x0 x1 x2 x3 x4 hA hb
   generalize jO cs=L at *
   generalize jL cs now=D at *
   by_cases hDL:D=L
   ·subst hDL
    go_wp2_with (go_at_call 24;refine HD3.out.mono ?_;rintro e w2 ⟨rfl,yL⟩;have p1:=zc yL q1)
    go_ret
    refine⟨zo ?_,hbW.trans (yL.mono zW)⟩
    rw[HP.out,beq_self_eq_true,Bool.true_and,show((D:Int) == 0)=(D == 0) from by rw[Bool.eq_iff_iff,beq_iff_eq,beq_iff_eq];omega]
   ·have eDL:((D:Int) == (L:Int))=false:=zG.2 (by omega)
    have hDz:¬(D:Int)=(L:Int):=by omega
    go_wp2_with (go_at_call 24;refine HD3.out.mono ?_;rintro e w2 ⟨rfl,yL⟩;have p1:=zc yL q1)
    go_ret
    exact⟨zo (by rw[HP.out,zG.2 hDL,Bool.false_and]),hbW.trans (yL.mono zW)⟩
theorem qS {cs:List Cl} {f:Nat} {a:Int} {l:List Nat} (h:qz cs f a=some l) (ha:0<=a):∃(g n:Nat) (hn:n<cs.length) (t:List Nat),f=g+1/\a=n/\l=n :: t/\cs[n].zv=false/\qz cs g cs[n].zi=some t:=by
 obtain⟨n,rfl⟩:=Int.eq_ofNat_of_zero_le ha
 cases f with
 | zero=>rw[Z1 ha] at h;cases h
 | succ g =>
  by_cases hn:n<cs.length
  ·cases hd:cs[n].zv
   ·rw[uB hn hd] at h
    cases hw:qz cs g cs[n].zi with
    | none=>rw[hw] at h;cases h
    | some t=>rw[hw] at h;exact⟨g,n,hn,t,rfl,rfl,(Option.some.inj h).symm,hd,hw⟩
   ·rw[QK hn hd] at h;cases h
  ·rw[zbR hn] at h;cases h
theorem Uh {cs:List Cl}:∀(l:List Nat) (f f':Nat) (a:Int) (l':List Nat),qz cs f a=some l->qz cs f' a=some l'->l=l'
 | l,f,f',a,l',h,h'=>by
  by_cases ha:a<0
  ·rw[qn ha] at h h'
   exact(Option.some.inj h).symm.trans (Option.some.inj h')
  obtain⟨g,n,hn,t,rfl,rfl,rfl,_,hw⟩:=qS h (by omega)
  obtain⟨g',n',hn',t',rfl,e,rfl,_,hw'⟩:=qS h' (by omega)
  obtain rfl:n=n':=by omega
  rw[Uh t g g' _ t' hw hw']
 termination_by l=>l.length
theorem K0 {cs:List Cl}:∀(pre:List Nat) (f:Nat) (a:Int) (k:Nat) (post:List Nat),qz cs f a=some (pre ++ k :: post)->∃f',qz cs f' (k:Int)=some (k :: post)
 | [],f,a,k,post,h=>by
  by_cases ha:a<0
  ·rw[qn ha] at h;cases h
  obtain⟨g,n,hn,t,rfl,rfl,e,_,hw⟩:=qS h (by omega)
  obtain⟨rfl,rfl⟩:=List.cons.inj e
  exact⟨g+1,h⟩
 | p :: pre,f,a,k,post,h=>by
  by_cases ha:a<0
  ·rw[qn ha] at h;cases h
  obtain⟨g,n,hn,t,rfl,rfl,e,_,hw⟩:=qS h (by omega)
  obtain⟨rfl,rfl⟩:=List.cons.inj e
  exact K0 pre g _ k post hw
theorem YL {cs:List Cl}:∀(l:List Nat) (f:Nat) (a:Int),qz cs f a=some l->l.Nodup
 | [],_,_,_=>List.nodup_nil
 | k :: t,f,a,h=>by
  by_cases ha:a<0
  ·rw[qn ha] at h;cases h
  obtain⟨g,n,hn,t',rfl,rfl,e,_,hw⟩:=qS h (by omega)
  obtain⟨rfl,rfl⟩:=List.cons.inj e
  refine List.nodup_cons.2 ⟨fun hm=>?_,YL _ g _ hw⟩
  obtain⟨pre,post,rfl⟩:=List.append_of_mem hm
  obtain⟨f',hf⟩:=K0 pre g _ k post hw
  have:=congrArg List.length (Uh _ _ _ _ _ h hf)
  simp at this
  omega
theorem v7:∀(l A:List Nat),l.Nodup->(∀k∈l,k∈A)->l.length<=A.length
 | [],_,_,_=>Nat.zero_le _
 | a :: t,A,hn,hs=>by
  obtain⟨ha,ht⟩:=List.nodup_cons.1 hn
  have hm:a∈A:=hs a (List.mem_cons_self ..)
  have:=v7 t (A.erase a) ht fun k hk=>(List.mem_erase_of_ne (show k≠a from fun e=>ha (by rw[<-e];exact hk))).2 (hs k (List.mem_cons_of_mem _ hk))
  rw[List.length_erase_of_mem hm] at this
  have:=List.length_pos_of_mem hm
  simp
  omega
def ZM (cs:List Cl):List Nat:=(List.range cs.length).filter fun i=>!(cs.getD i Cl.none).zv
theorem J1 (cs:List Cl):(ZM cs).length=jO cs:=by
 have e:(List.range cs.length).map (fun i=>cs.getD i Cl.none)=cs:=by
  apply List.ext_getElem
  ·simp
  ·intro i h1 h2
   simp[h2]
 unfold jO ZM
 conv=>rhs;rw[<-e]
 rw[List.filter_map,List.length_map]
 rfl
theorem YT {cs:List Cl} {k:Nat}:k∈ZM cs ↔ ∃h:k<cs.length,cs[k].zv=false:=by
 unfold ZM
 rw[List.mem_filter,List.mem_range]
 constructor
 ·rintro⟨h,e⟩
  exact⟨h,by simpa [h] using e⟩
 ·rintro⟨h,e⟩
  exact⟨h,by simp[h,e]⟩
theorem X4 (cs:List Cl) (now:Int):(qs cs now).Nodup:=by
 unfold qs
 cases h:qz cs cs.length now with
 | none=>exact List.nodup_nil
 | some l=>exact YL l _ _ h
theorem YQ {cs:List Cl} {now:Int} (h:(qs cs now).length=jO cs) {k:Nat} (hk:k<cs.length) (hd:cs[k].zv=false):k∈qs cs now:=by
 apply Classical.byContradiction
 intro hn
 have:=v7 (k :: qs cs now) (ZM cs) (List.nodup_cons.2 ⟨hn,X4 cs now⟩) (fun j hj=>by
  rcases List.mem_cons.1 hj with rfl | hj
  ·exact YT.2 ⟨hk,hd⟩
  ·exact YT.2 (Wl hj))
 rw[J1,List.length_cons] at this
 omega
theorem Wn {ms:zM} {n:Nat} {c:Cl} (h:xN ms n c=true):-1<=c.zi/\c.zi<(n:Int):=by
 simp only[xN,Bool.and_eq_true,zF] at h
 omega
theorem zcm {ms:zM} {n:Nat} {c:Cl} (h:xN ms n c=true) (hd:c.zv=true):c.zf.length=0:=by
 simp only[xN,Bool.and_eq_true,hd] at h
 have:=h.2.2
 simp at this
 rw[this.2]
 rfl
theorem zeA {ms:zM} {h:Hp} (hc:∀i,(hi:i<h.za.length)->xN ms h.za.length h.za[i]=true) (h0:-1<=h.now) (h1:h.now<(h.za.length:Int)):uq h.za h.now=X5 h:=by
 obtain⟨cs,now,born,zm,code⟩:=h
 simp only[] at hc h0 h1 ⊢
 have hs:∀i,(h:i<cs.length)->-1<=cs[i].zi/\cs[i].zi<(cs.length:Int):=fun i h=>Wn (hc i h)
 have hdeep:=Us hs h0 h1
 have zbZ:∀i,(h:i<cs.length)->cs[i].zv=true->cs[i].zf.length=0:=fun i h e=>zcm (hc i h) e
 unfold uq X5
 simp only[hdeep]
 by_cases hl:(qs cs now).length=jO cs
 ·rw[beq_iff_eq.2 hl,Bool.true_and,Bool.and_true]
  by_cases hn:now<0
  ·obtain rfl:now=-1:=by omega
   have e:qs cs (-1)=[]:=by unfold qs;rw[qn hn];rfl
   have hf:VI cs (-1):=fun i hi _=>by
    cases hd:cs[i].zv
    ·have:=YQ hl hi hd
     rw[e] at this
     cases this
    ·rw[zbZ i hi hd];decide
   simp[e,hf,Jg]
  ·obtain⟨n,rfl⟩:=Int.eq_ofNat_of_zero_le (show 0<=now by omega)
   have hnl:n<cs.length:=by omega
   cases hd:cs[n].zv
   ·have hm:=YQ hl hnl hd
    have hw:∃t,qs cs (n:Int)=n :: t:=by
     revert hm
     unfold qs
     cases hw:qz cs cs.length (n:Int) with
     | none=>intro hm;cases hm
     | some l =>
      intro _
      obtain⟨g,n',hn',t,_,e,rfl,_,_⟩:=qS hw (by omega)
      obtain rfl:n=n':=by omega
      exact⟨t,rfl⟩
    obtain⟨t,ht⟩:=hw
    have hnd:=X4 cs (n:Int)
    rw[ht] at hnd
    have hnt:=(List.nodup_cons.1 hnd).1
    have qF:((qs cs (n:Int)).length == 0)=false:=by rw[ht];rfl
    have Km:((n:Int) == -1)=false:=zG.2 (by omega)
    have hA:(decide ((n:Int)<0) || !(cs.getD ((n:Int)).toNat Cl.none).zv)=true:=by simp[hnl,hd]
    rw[qF,Km,hA]
    simp only[beq_self_eq_true,Bool.and_true,Bool.true_and]
    rw[Bool.eq_iff_iff,@decide_eq_true_iff _ (Classical.propDecidable _)]
    constructor
    ·intro hf
     refine zc2 (fun k hk=>(Wl hk).1) fun i hi h1 hk=>hf _ hk fun e=>?_
     have hz:(qs cs (n:Int))[i]∈t:=by
      have hi':i<(n :: t).length:=by rw[<-ht];exact hi
      have e1:(qs cs (n:Int))[i]=(n :: t)[i]:=by simp only[ht]
      rw[e1]
      match i,h1,hi' with
      | i+1,_,hi'=>exact List.getElem_mem _
     have:(qs cs (n:Int))[i]=n:=by omega
     rw[this] at hz
     exact hnt hz
    ·intro hr i hi hne'
     cases hdi:cs[i].zv
     ·have hmi:=YQ hl hi hdi
      rw[ht] at hmi
      rcases List.mem_cons.1 hmi with rfl | hmt
      ·exact absurd rfl hne'
      ·unfold Jg at hr
       rw[ht] at hr
       have:=List.all_eq_true.1 hr i (by simpa using hmt)
       simpa [hi] using this
     ·rw[zbZ i hi hdi];decide
   ·have e:qs cs (n:Int)=[]:=by unfold qs;rw[QK hnl hd];rfl
    have Km:((n:Int) == -1)=false:=zG.2 (by omega)
    simp[e,Km,hnl,hd]
    intro hx
    omega
 ·rw[zG.2 hl]
  simp
abbrev Ms:=zM
def yJ (h:Hp):Cl:=h.za.getD h.now.toNat Cl.none
def setH (h:Hp) (c:Cl):Hp:={h with za:=h.za.set h.now.toNat c}
def yI (h:Hp) (v:Int × Int):Hp:=setH h {yJ h with zf:=(yJ h).zf ++ [v]}
def um (c:Cl):Cl:={c with zf:=[],zi:=-1,zv:=true}
def ye (h:Hp):Hp:={setH h (um (yJ h)) with now:=(yJ h).zi}
def XP (h:Hp) (v:Int × Int):Int × Int:=if v.1=2 then(2,(h.za.getD v.2.toNat Cl.none).m) else v
def uN (h:Hp) (v:Int × Int):Hp:={h with zm:=h.zm ++ [XP h v]}
def vZ (h:Hp) (k:Int):Hp:={h with code:=k}
def uI (ms:Ms) (h:Hp) (m:Int) (args:yH):Hp :=
 if 30<=h.born then vZ h 3
 else {h with za:=h.za ++ [⟨m,0,args ++ List.replicate ((ms.getD m.toNat (0,0,[])).2.1.toNat - args.length) (0,0),[],h.now,false⟩],now:=h.za.length,born:=h.born+1}
def Vt (h:Hp) (v:Int × Int):Hp :=
 if(yJ h).zi<0 then vZ (uN (ye h) v) 1 else yI (ye h) v
def yC:Nat->Hp->Nat->Hp
 | 0,h,_=>h
 | f+1,h,b=>if h.now=b then h else yC f (ye h) b
def Qb (h:Hp) (b:Nat) (v:Int × Int):Hp :=
 if(h.za.getD b Cl.none).zv then vZ h 2 else yI (yC h.za.length h b) v
def Qo (b:Bool):Int × Int:=(1,if b then 1 else 0)
def uo (h:Hp) (k a:Int) (at_:Nat):Int × Int :=
 let c:=h.za.getD at_ Cl.none
 if k=12 then(if 0<=c.zi then(2,c.zi) else(0,0))
 else if k=13 then c.zg.getD a.toNat (0,0)
 else if k=17 then Qo c.zv
 else(1,c.pc)
def qK (k:Int) (args:yH):Bool :=
 if k=5 then(args.getD 0 (0,0)).1 == 1 && (args.getD 1 (0,0)).1 == 1
 else if k=12\/k=13\/k=14\/k=15\/k=17\/k=18 then(args.getD 0 (0,0)).1 == 2
 else true
def uV (h:Hp) (at_:Nat) (a:Int) (v:Int × Int):Hp :=
 {h with za:=h.za.set at_ {h.za.getD at_ Cl.none with zg:=(h.za.getD at_ Cl.none).zg.set a.toNat v}}
def doH (ms:Ms) (h:Hp) (k a:Int) (args:yH):Hp :=
 let x:=args.getD 0 (0,0)
 let y:=args.getD 1 (0,0)
 if k=1 then yI h (1,a)
 else if k=5 then yI h (1,(x.2+y.2) % 1000)
 else if k=6 then yI h (Qo (decide (x=y)))
 else if k=2 then yI h ((yJ h).zg.getD a.toNat (0,0))
 else if k=3 then setH h {yJ h with zg:=(yJ h).zg.set a.toNat x}
 else if k=7 then setH h {yJ h with pc:=a}
 else if k=8 then(if x.1=0\/x=(1,0) then setH h {yJ h with pc:=a} else h)
 else if k=9 then uI ms h a args
 else if k=10 then Vt h x
 else if k=11 then yI h (2,h.now)
 else if k=12\/k=13\/k=17\/k=18 then yI h (uo h k a x.2.toNat)
 else if k=14 then uV h x.2.toNat a y
 else if k=15 then Qb h x.2.toNat y
 else if k=16 then uN h x
 else h
def qV (ms:Ms) (c:Cl):Int × Int:=(ms.getD c.m.toNat (0,0,[])).2.2.getD c.pc.toNat (0,0)
def qH (ms:Ms) (h:Hp):Hp :=
 let c:=yJ h
 let op:=qV ms c
 let t:=yv ms op.1 op.2
 let left:=(c.zf.length:Int) - t.1
 if((ms.getD c.m.toNat (0,0,[])).2.2.length:Int)<=c.pc then vZ h 2
 else if left<0\/6<left+t.2 then vZ h 2
 else if qK op.1 (c.zf.drop left.toNat)=false then vZ h 2
 else doH ms (setH h {c with zf:=c.zf.take left.toNat,pc:=c.pc+1}) op.1 op.2 (c.zf.drop left.toNat)
def zV (ms:Ms):Nat->Hp->Hp
 | 0,h=>h
 | n+1,h=>if h.code=0 then zV ms n (qH ms h) else h
theorem Jq {cs cs':List Cl} (hl:cs'.length=cs.length) (h:∀i,(hi:i<cs.length)->(cs'[i]'(by omega)).zv=cs[i].zv/\(cs'[i]'(by omega)).zi=cs[i].zi):∀(f:Nat) (a:Int),qz cs' f a=qz cs f a
 | 0,a=>rfl
 | f+1,a=>by
  simp only[qz]
  by_cases ha:a<0
  ·rw[if_pos ha,if_pos ha]
  ·rw[if_neg ha,if_neg ha]
   by_cases hn:a.toNat<cs.length
   ·rw[dif_pos hn,dif_pos (by omega),(h _ hn).1,(h _ hn).2,Jq hl h f]
   ·rw[dif_neg hn,dif_neg (by omega)]
theorem Z0 {cs:List Cl}:∀(l:List Nat) (f f':Nat) (a:Int),qz cs f a=some l->l.length<=f'->qz cs f' a=some l
 | [],f,f',a,h,_=>by
  by_cases ha:a<0
  ·exact qn ha
  ·obtain⟨g,n,hn,t,_,_,e,_⟩:=qS h (by omega)
   cases e
 | k :: l,f,f',a,h,hl=>by
  by_cases ha:a<0
  ·rw[qn ha] at h;cases h
  ·obtain⟨g,n,hn,t,_,rfl,e,hd,ht⟩:=qS h (by omega)
   cases e
   obtain⟨f'',rfl⟩:∃f'',f'=f''+1:=⟨f' - 1,by simp at hl;omega⟩
   rw[uB hn hd,Z0 l g f'' _ ht (by simpa using hl)]
   rfl
theorem Ui {cs:List Cl} {j:Nat} (c:Cl):∀(l:List Nat) (f:Nat) (a:Int),qz cs f a=some l->j∉l->qz (cs.set j c) f a=some l
 | [],f,a,h,_=>by
  by_cases ha:a<0
  ·exact qn ha
  ·obtain⟨g,n,hn,t,_,_,e,_⟩:=qS h (by omega)
   cases e
 | k :: l,f,a,h,hj=>by
  by_cases ha:a<0
  ·rw[qn ha] at h;cases h
  ·obtain⟨g,n,hn,t,rfl,rfl,e,hd,ht⟩:=qS h (by omega)
   cases e
   have qF:j≠k:=fun e=>hj (by rw[e];exact List.mem_cons_self)
   have hk':k<(cs.set j c).length:=by simpa using hn
   have he:(cs.set j c)[k]=cs[k]:=List.getElem_set_ne qF _
   rw[uB hk' (by rw[he];exact hd),he,Ui c l g _ ht (fun e=>hj (List.mem_cons_of_mem _ e))]
   rfl
theorem Xm {cs:List Cl} (c:Cl):∀(l:List Nat) (f:Nat) (a:Int),qz cs f a=some l->qz (cs ++ [c]) f a=some l
 | [],f,a,h=>by
  by_cases ha:a<0
  ·exact qn ha
  ·obtain⟨g,n,hn,t,_,_,e,_⟩:=qS h (by omega)
   cases e
 | k :: l,f,a,h=>by
  by_cases ha:a<0
  ·rw[qn ha] at h;cases h
  ·obtain⟨g,n,hn,t,rfl,rfl,e,hd,ht⟩:=qS h (by omega)
   cases e
   have hk':k<(cs ++ [c]).length:=by simp;omega
   have he:(cs ++ [c])[k]=cs[k]:=List.getElem_append_left hn
   rw[uB hk' (by rw[he];exact hd),he,Xm c l g _ ht]
   rfl
structure qG (cs:List Cl) (now:Int) (l:List Nat):Prop where
 ch:∃f,qz cs f now=some l
 all:∀k,(hk:k<cs.length)->cs[k].zv=false->k∈l
 room:∀k∈l.drop 1,∀hk:k<cs.length,cs[k].zf.length<6
theorem qG.nodup {cs:List Cl} {now:Int} {l:List Nat} (h:qG cs now l):l.Nodup:=by
 obtain⟨f,hf⟩:=h.ch
 exact YL _ _ _ hf
theorem qG.mem {cs:List Cl} {now:Int} {l:List Nat} (h:qG cs now l) {k:Nat} (hk:k∈l):∃h:k<cs.length,cs[k].zv=false:=by
 obtain⟨f,hf⟩:=h.ch
 exact KZ _ _ _ hf k hk
theorem qG.len {cs:List Cl} {now:Int} {l:List Nat} (h:qG cs now l):l.length<=cs.length:=by
 have:=v7 l (List.range cs.length) h.nodup (fun k hk=>List.mem_range.2 (h.mem hk).1)
 simpa using this
theorem qG.chain {cs:List Cl} {now:Int} {l:List Nat} (h:qG cs now l):qs cs now=l:=by
 obtain⟨f,hf⟩:=h.ch
 unfold qs
 rw[Z0 l f cs.length now hf h.len]
 rfl
end Go.Proofs.YtbjgjjkgfnfejaaGreatDoor
