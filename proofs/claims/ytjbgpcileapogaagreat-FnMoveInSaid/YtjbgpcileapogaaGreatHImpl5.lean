/-
  The program's waitOk, in plain words (waitP).
-/
import Derived.Test.YtjbgpcileapogaaGreatHHeapOk
import Derived.Test.YtjbgpcileapogaaGreatTakes2
namespace Go.Proofs.YtjbgpcileapogaaGreat
open Go.RowKit
def Jq (cs:List Cl) (now:Int):Prop:=∀i,(h:i<cs.length)->(i:Int)≠now->cs[i].ze.length<6
open Classical in
noncomputable def j6 (cs:List Cl) (now:Int):Bool:=decide (Jq cs now) && ((qO cs now == yY cs) && ((qO cs now == 0) == (now == -1)))
theorem Wb {cs:List Cl} {now:Int} {i:Nat} (h:i<cs.length) (hn:(i:Int)≠now) (h6:¬cs[i].ze.length<6):j6 cs now=false:=by
 have:¬Jq cs now:=fun hf=>h6 (hf i h hn)
 simp[j6,this]
theorem Q0 {cs:List Cl} {now:Int} (h:Jq cs now):j6 cs now=((qO cs now == yY cs) && ((qO cs now == 0) == (now == -1))):=by
 simp[j6,h]
set_option maxRecDepth 100000 in
set_option maxHeartbeats 4000000 in
theorem Zs (vc vs:Value) (h:Hp) (w:World) (hh:qa w vc vs h) (hn:h.za.length<=900000) :
 Calls Tryz.prog 79 #[.agg (yn vc vs h)] w fun e w'=>e=.returned (.bool (j6 h.za h.now))/\Below w.heap.size w w':=by
 have HD:Hid (∀w',Below w.heap.size w w'->Calls Tryz.prog 18 #[.agg (yn vc vs h)] w' fun e w2=>e=.returned (.int .i64 (qO h.za h.now:Nat))/\Below w'.heap.size w' w2):=fun w' hb=>QD vc vs h w' (hh.below hb) hn
 unfold yn at *
 obtain⟨cs,now,born,zl,code⟩:=h
 obtain⟨hhc,hhs⟩:=hh
 simp only[] at hhc hhs hn HD ⊢
 obtain⟨aD,kD,hvs⟩:=hhs.shape
 subst hvs
 obtain⟨ac,kc,rfl,_,hcl⟩:=hhc
 have hA:=zB w (.cells #[.slice ac cs.length kc,.int .i64 now,.int .i64 born,.slice aD zl.length kD,.int .i64 code] 29)
 have b5:=qG w 29 (.slice ac cs.length kc) (.int .i64 now) (.int .i64 born) (.slice aD zl.length kD) (.int .i64 code)
 go_enter Tryz.func79,Tryz.ntmps79
 go_upto_region 1 with fail
 generalize w.alloc (.cells #[.slice ac cs.length kc,.int .i64 now,.int .i64 born,.slice aD zl.length kD,.int .i64 code] 29)=W0 at *
 obtain⟨⟨x0,x1,x2,x3,x4⟩,_⟩:=zJ b5
 clear b5 hhs
 have zA:=hA.size
 have hw0:w.heap.size<W0.heap.size:=World.block_lt_of_cell? _ _ x0
 go_wp2_with fail
 go_loopg [3,10] cs.length (fun d v i wr=>∃k:Nat,k<=cs.length/\d=cs.length - k/\v=.int .i64 (yY (cs.take k):Nat)/\i=.int .i64 (k:Nat)/\Below W0.heap.size W0 wr/\∀j,(hj:j<cs.length)->j<k->(j:Int)≠now->cs[j].ze.length<6)
 case atStart=>exact⟨0,Nat.zero_le _,rfl,rfl,rfl,zC,fun j _ h=>absurd h zF⟩
 case round =>
  obtain⟨k,hk,rfl,rfl,rfl,hb,hall⟩:=hrel
  have H:Hid (∀j,(hj:j<cs.length)->j<k->(j:Int)≠now->cs[j].ze.length<6):=hall
  clear hall
  have hsz:=hb.size
  have q1:=zc hb x1
  by_cases hlt:k<cs.length
  ·have hkz:(k:Int)<(cs.length:Int):=by omega
   obtain⟨b,o,vt,vs,rfl,hc⟩:=hcl k hlt
   have hcW:=hc.below (hA.trans (hb.mono zA))
   obtain⟨d0,d1,d2,d3,d4,d5,ht,hs⟩:=hcW
   obtain⟨a1,k1,e1⟩:=ht.shape
   obtain⟨a2,k2,e2⟩:=hs.shape
   subst e1 e2
   have HL:Hid (yY (cs.take (k+1))=yY (cs.take k)+(if cs[k].zv then 0 else 1)):=Yr hlt
   have HLB:Hid (yY (cs.take k)<=k):=by
    show _<=_
    unfold yY
    exact Nat.le_trans (List.length_filter_le _ _) (by simp;omega)
   clear hc hcl ht hs
   have hLz:yY (cs.take k)<=900000:=Nat.le_trans HLB.out (by omega)
   have qN:=fun o=>zc (zB _ o) q1
   generalize yY (cs.take k)=L at *
   cases hdd:cs[k].zv
   ·rw[hdd] at d5
    have HL2:Hid (yY (cs.take (k+1))=L+1):=by
     show _=_
     rw[HL.out,hdd]
     rfl
    clear HL hdd
    by_cases hkn:(k:Int)=now
    ·subst hkn
     go_wp2
     go_roundg (cs.length - (k+1))
     case measure=>omega
     case rel =>
      refine⟨k+1,by omega,rfl,by rw[HL2.out];go_num,by go_num,hb.alloc hsz _,fun j hj hjk hne=>?_⟩
      exact H.out j hj (by omega) hne
    ·have ekn:((k:Int) == now)=false:=zG.2 hkn
     have ekn':((k:Int) != now)=true:=by simp[hkn]
     by_cases h6:6<=cs[k].ze.length
     ·have h6z:(6:Int)<=(cs[k].ze.length:Int):=by omega
      have HF:Hid (j6 cs now=false):=Wb hlt hkn (by omega)
      go_wp2
      go_ret
      exact⟨zm HF.out.symm,hA.trans ((hb.alloc hsz _).mono zA)⟩
     ·have h6z:(cs[k].ze.length:Int)<6:=by omega
      have H6:Hid (cs[k].ze.length<6):=by show _<_;omega
      go_wp2
      go_roundg (cs.length - (k+1))
      case measure=>omega
      case rel =>
       refine⟨k+1,by omega,rfl,by rw[HL2.out];go_num,by go_num,hb.alloc hsz _,fun j hj hjk hne=>?_⟩
       by_cases e:j=k
       ·subst e;exact H6.out
       ·exact H.out j hj (by omega) hne
   ·rw[hdd] at d5
    have HL2:Hid (yY (cs.take (k+1))=L):=by
     show _=_
     rw[HL.out,hdd]
     rfl
    clear HL hdd
    by_cases hkn:(k:Int)=now
    ·subst hkn
     go_wp2
     go_roundg (cs.length - (k+1))
     case measure=>omega
     case rel =>
      refine⟨k+1,by omega,rfl,by rw[HL2.out],by go_num,hb.alloc hsz _,fun j hj hjk hne=>?_⟩
      exact H.out j hj (by omega) hne
    ·have ekn:((k:Int) == now)=false:=zG.2 hkn
     have ekn':((k:Int) != now)=true:=by simp[hkn]
     by_cases h6:6<=cs[k].ze.length
     ·have h6z:(6:Int)<=(cs[k].ze.length:Int):=by omega
      have HF:Hid (j6 cs now=false):=Wb hlt hkn (by omega)
      go_wp2
      go_ret
      exact⟨zm HF.out.symm,hA.trans ((hb.alloc hsz _).mono zA)⟩
     ·have h6z:(cs[k].ze.length:Int)<6:=by omega
      have H6:Hid (cs[k].ze.length<6):=by show _<_;omega
      go_wp2
      go_roundg (cs.length - (k+1))
      case measure=>omega
      case rel =>
       refine⟨k+1,by omega,rfl,by rw[HL2.out],by go_num,hb.alloc hsz _,fun j hj hjk hne=>?_⟩
       by_cases e:j=k
       ·subst e;exact H6.out
       ·exact H.out j hj (by omega) hne
  ·obtain rfl:k=cs.length:=by omega
   have HF:Hid (Jq cs now):=fun j hj hne=>H.out j hj hj hne
   have HL:Hid (yY (cs.take cs.length)=yY cs):=by show _=_;rw[List.take_length]
   have hLz:yY cs<=900000:=Nat.le_trans (List.length_filter_le _ _) hn
   rw[HL.out]
   have HP:Hid (j6 cs now=((qO cs now == yY cs) && ((qO cs now == 0) == (now == -1)))):=Q0 HF.out
   have q0:=zc hb x0
   have q2:=zc hb x2
   have q3:=zc hb x3
   have q4:=zc hb x4
   have HD2:=HD.out wr (hA.trans (hb.mono zA))
   have HD3:Hid (Calls Tryz.prog 18 #[.agg #[.slice ac cs.length kc,.int .i64 now,.int .i64 born,.slice aD zl.length kD,.int .i64 code]] wr fun e w2=>e=.returned (.int .i64 (qO cs now:Nat))/\Below wr.heap.size wr w2):=HD2
   have hbW:Below w.heap.size w wr:=hA.trans (hb.mono zA)
   have zW:=hbW.size
   clear HD2 HD HF H HL hcl x0 x1 x2 x3 x4 hA hb
   generalize yY cs=L at *
   generalize qO cs now=D at *
   by_cases hDL:D=L
   ·subst hDL
    go_wp2_with (go_at_call 18;refine HD3.out.mono ?_;rintro e w2 ⟨rfl,hb2⟩;have p1:=zc hb2 q1)
    go_ret
    refine⟨zm ?_,hbW.trans (hb2.mono zW)⟩
    rw[HP.out,beq_self_eq_true,Bool.true_and,show((D:Int) == 0)=(D == 0) from by rw[Bool.eq_iff_iff,beq_iff_eq,beq_iff_eq];omega]
   ·have eDL:((D:Int) == (L:Int))=false:=zG.2 (by omega)
    have hDz:¬(D:Int)=(L:Int):=by omega
    go_wp2_with (go_at_call 18;refine HD3.out.mono ?_;rintro e w2 ⟨rfl,hb2⟩;have p1:=zc hb2 q1)
    go_ret
    exact⟨zm (by rw[HP.out,zG.2 hDL,Bool.false_and]),hbW.trans (hb2.mono zW)⟩
end Go.Proofs.YtjbgpcileapogaaGreat
namespace Go.Proofs.YtjbgpcileapogaaGreat
theorem qz {cs:List Cl} {f:Nat} {a:Int} {l:List Nat} (h:yR cs f a=some l) (ha:0<=a):∃(g n:Nat) (hn:n<cs.length) (t:List Nat),f=g+1/\a=n/\l=n :: t/\cs[n].zv=false/\yR cs g cs[n].zf=some t:=by
 obtain⟨n,rfl⟩:=Int.eq_ofNat_of_zero_le ha
 cases f with
 | zero=>rw[vJ ha] at h;cases h
 | succ g =>
  by_cases hn:n<cs.length
  ·cases hd:cs[n].zv
   ·rw[j7 hn hd] at h
    cases hw:yR cs g cs[n].zf with
    | none=>rw[hw] at h;cases h
    | some t=>rw[hw] at h;exact⟨g,n,hn,t,rfl,rfl,(Option.some.inj h).symm,hd,hw⟩
   ·rw[vI hn hd] at h;cases h
  ·rw[uR hn] at h;cases h
theorem K1 {cs:List Cl}:∀(l:List Nat) (f f':Nat) (a:Int) (l':List Nat),yR cs f a=some l->yR cs f' a=some l'->l=l'
 | l,f,f',a,l',h,h'=>by
  by_cases ha:a<0
  ·rw[yZ ha] at h h'
   exact(Option.some.inj h).symm.trans (Option.some.inj h')
  obtain⟨g,n,hn,t,rfl,rfl,rfl,_,hw⟩:=qz h (by omega)
  obtain⟨g',n',hn',t',rfl,e,rfl,_,hw'⟩:=qz h' (by omega)
  obtain rfl:n=n':=by omega
  rw[K1 t g g' _ t' hw hw']
 termination_by l=>l.length
theorem J7 {cs:List Cl}:∀(pre:List Nat) (f:Nat) (a:Int) (k:Nat) (post:List Nat),yR cs f a=some (pre ++ k :: post)->∃f',yR cs f' (k:Int)=some (k :: post)
 | [],f,a,k,post,h=>by
  by_cases ha:a<0
  ·rw[yZ ha] at h;cases h
  obtain⟨g,n,hn,t,rfl,rfl,e,_,hw⟩:=qz h (by omega)
  obtain⟨rfl,rfl⟩:=List.cons.inj e
  exact⟨g+1,h⟩
 | p :: pre,f,a,k,post,h=>by
  by_cases ha:a<0
  ·rw[yZ ha] at h;cases h
  obtain⟨g,n,hn,t,rfl,rfl,e,_,hw⟩:=qz h (by omega)
  obtain⟨rfl,rfl⟩:=List.cons.inj e
  exact J7 pre g _ k post hw
theorem ZI {cs:List Cl}:∀(l:List Nat) (f:Nat) (a:Int),yR cs f a=some l->l.Nodup
 | [],_,_,_=>List.nodup_nil
 | k :: t,f,a,h=>by
  by_cases ha:a<0
  ·rw[yZ ha] at h;cases h
  obtain⟨g,n,hn,t',rfl,rfl,e,_,hw⟩:=qz h (by omega)
  obtain⟨rfl,rfl⟩:=List.cons.inj e
  refine List.nodup_cons.2 ⟨fun hm=>?_,ZI _ g _ hw⟩
  obtain⟨pre,post,rfl⟩:=List.append_of_mem hm
  obtain⟨f',hf⟩:=J7 pre g _ k post hw
  have:=congrArg List.length (K1 _ _ _ _ _ h hf)
  simp at this
  omega
theorem jt:∀(l A:List Nat),l.Nodup->(∀k∈l,k∈A)->l.length<=A.length
 | [],_,_,_=>Nat.zero_le _
 | a :: t,A,hn,hs=>by
  obtain⟨ha,ht⟩:=List.nodup_cons.1 hn
  have hm:a∈A:=hs a (List.mem_cons_self ..)
  have:=jt t (A.erase a) ht fun k hk=>(List.mem_erase_of_ne (show k≠a from fun e=>ha (by rw[<-e];exact hk))).2 (hs k (List.mem_cons_of_mem _ hk))
  rw[List.length_erase_of_mem hm] at this
  have:=List.length_pos_of_mem hm
  simp
  omega
def wB (cs:List Cl):List Nat:=(List.range cs.length).filter fun i=>!(cs.getD i Cl.none).zv
theorem Jb (cs:List Cl):(wB cs).length=yY cs:=by
 have e:(List.range cs.length).map (fun i=>cs.getD i Cl.none)=cs:=by
  apply List.ext_getElem
  ·simp
  ·intro i h1 h2
   simp[h2]
 unfold yY wB
 conv=>rhs;rw[<-e]
 rw[List.filter_map,List.length_map]
 rfl
theorem ZP {cs:List Cl} {k:Nat}:k∈wB cs ↔ ∃h:k<cs.length,cs[k].zv=false:=by
 unfold wB
 rw[List.mem_filter,List.mem_range]
 constructor
 ·rintro⟨h,e⟩
  exact⟨h,by simpa [h] using e⟩
 ·rintro⟨h,e⟩
  exact⟨h,by simp[h,e]⟩
theorem Q7 (cs:List Cl) (now:Int):(yg cs now).Nodup:=by
 unfold yg
 cases h:yR cs cs.length now with
 | none=>exact List.nodup_nil
 | some l=>exact ZI l _ _ h
theorem ZM {cs:List Cl} {now:Int} (h:(yg cs now).length=yY cs) {k:Nat} (hk:k<cs.length) (hd:cs[k].zv=false):k∈yg cs now:=by
 apply Classical.byContradiction
 intro hn
 have:=jt (k :: yg cs now) (wB cs) (List.nodup_cons.2 ⟨hn,Q7 cs now⟩) (fun j hj=>by
  rcases List.mem_cons.1 hj with rfl | hj
  ·exact ZP.2 ⟨hk,hd⟩
  ·exact ZP.2 (Jf hj))
 rw[Jb,List.length_cons] at this
 omega
theorem Q8 {ms:zM} {n:Nat} {c:Cl} (h:yT ms n c=true):-1<=c.zf/\c.zf<(n:Int):=by
 simp only[yT,Bool.and_eq_true,zH] at h
 omega
theorem zaT {ms:zM} {n:Nat} {c:Cl} (h:yT ms n c=true) (hd:c.zv=true):c.ze.length=0:=by
 simp only[yT,Bool.and_eq_true,hd] at h
 have:=h.2.2
 simp at this
 rw[this.2]
 rfl
theorem J4 {ms:zM} {h:Hp} (hc:∀i,(hi:i<h.za.length)->yT ms h.za.length h.za[i]=true) (h0:-1<=h.now) (h1:h.now<(h.za.length:Int)):j6 h.za h.now=kZ h:=by
 obtain⟨cs,now,born,zl,code⟩:=h
 simp only[] at hc h0 h1 ⊢
 have hs:∀i,(h:i<cs.length)->-1<=cs[i].zf/\cs[i].zf<(cs.length:Int):=fun i h=>Q8 (hc i h)
 have hdeep:=YP hs h0 h1
 have zdp:∀i,(h:i<cs.length)->cs[i].zv=true->cs[i].ze.length=0:=fun i h e=>zaT (hc i h) e
 unfold j6 kZ
 simp only[hdeep]
 by_cases hl:(yg cs now).length=yY cs
 ·rw[beq_iff_eq.2 hl,Bool.true_and,Bool.and_true]
  by_cases hn:now<0
  ·obtain rfl:now=-1:=by omega
   have e:yg cs (-1)=[]:=by unfold yg;rw[yZ hn];rfl
   have hf:Jq cs (-1):=fun i hi _=>by
    cases hd:cs[i].zv
    ·have:=ZM hl hi hd
     rw[e] at this
     cases this
    ·rw[zdp i hi hd];decide
   simp[e,hf,wb]
  ·obtain⟨n,rfl⟩:=Int.eq_ofNat_of_zero_le (show 0<=now by omega)
   have hnl:n<cs.length:=by omega
   cases hd:cs[n].zv
   ·have hm:=ZM hl hnl hd
    have hw:∃t,yg cs (n:Int)=n :: t:=by
     revert hm
     unfold yg
     cases hw:yR cs cs.length (n:Int) with
     | none=>intro hm;cases hm
     | some l =>
      intro _
      obtain⟨g,n',hn',t,_,e,rfl,_,_⟩:=qz hw (by omega)
      obtain rfl:n=n':=by omega
      exact⟨t,rfl⟩
    obtain⟨t,ht⟩:=hw
    have hnd:=Q7 cs (n:Int)
    rw[ht] at hnd
    have hnt:=(List.nodup_cons.1 hnd).1
    have hne:((yg cs (n:Int)).length == 0)=false:=by rw[ht];rfl
    have hn1:((n:Int) == -1)=false:=zG.2 (by omega)
    have hA:(decide ((n:Int)<0) || !(cs.getD ((n:Int)).toNat Cl.none).zv)=true:=by simp[hnl,hd]
    rw[hne,hn1,hA]
    simp only[beq_self_eq_true,Bool.and_true,Bool.true_and]
    rw[Bool.eq_iff_iff,@decide_eq_true_iff _ (Classical.propDecidable _)]
    constructor
    ·intro hf
     refine KT (fun k hk=>(Jf hk).1) fun i hi h1 hk=>hf _ hk fun e=>?_
     have hz:(yg cs (n:Int))[i]∈t:=by
      have hi':i<(n :: t).length:=by rw[<-ht];exact hi
      have e1:(yg cs (n:Int))[i]=(n :: t)[i]:=by simp only[ht]
      rw[e1]
      match i,h1,hi' with
      | i+1,_,hi'=>exact List.getElem_mem _
     have:(yg cs (n:Int))[i]=n:=by omega
     rw[this] at hz
     exact hnt hz
    ·intro hr i hi hne'
     cases hdi:cs[i].zv
     ·have hmi:=ZM hl hi hdi
      rw[ht] at hmi
      rcases List.mem_cons.1 hmi with rfl | hmt
      ·exact absurd rfl hne'
      ·unfold wb at hr
       rw[ht] at hr
       have:=List.all_eq_true.1 hr i (by simpa using hmt)
       simpa [hi] using this
     ·rw[zdp i hi hdi];decide
   ·have e:yg cs (n:Int)=[]:=by unfold yg;rw[vI hnl hd];rfl
    have hn1:((n:Int) == -1)=false:=zG.2 (by omega)
    simp[e,hn1,hnl,hd]
    intro hx
    omega
 ·rw[zG.2 hl]
  simp
end Go.Proofs.YtjbgpcileapogaaGreat
namespace Go.Proofs.YtjbgpcileapogaaGreat
abbrev Ms:=zM
def qC (h:Hp):Cl:=h.za.getD h.now.toNat Cl.none
def jw (h:Hp) (c:Cl):Hp:={h with za:=h.za.set h.now.toNat c}
def xN (h:Hp) (v:Int × Int):Hp:=jw h {qC h with ze:=(qC h).ze ++ [v]}
def Yf (c:Cl):Cl:={c with ze:=[],zf:=-1,zv:=true}
def yw (h:Hp):Hp:={jw h (Yf (qC h)) with now:=(qC h).zf}
def XR (h:Hp) (v:Int × Int):Int × Int:=if v.1=2 then(2,(h.za.getD v.2.toNat Cl.none).m) else v
def XQ (h:Hp) (v:Int × Int):Hp:={h with zl:=h.zl ++ [XR h v]}
def wv (h:Hp) (k:Int):Hp:={h with code:=k}
def wU (ms:Ms) (h:Hp) (m:Int) (args:zL):Hp :=
 if 30<=h.born then wv h 3
 else {h with za:=h.za ++ [⟨m,0,args ++ List.replicate ((ms.getD m.toNat (0,0,[])).2.1.toNat - args.length) (0,0),[],h.now,false⟩],now:=h.za.length,born:=h.born+1}
def JT (h:Hp) (v:Int × Int):Hp :=
 if(qC h).zf<0 then wv (XQ (yw h) v) 1 else xN (yw h) v
def backTo:Nat->Hp->Nat->Hp
 | 0,h,_=>h
 | f+1,h,b=>if h.now=b then h else backTo f (yw h) b
def wR (h:Hp) (b:Nat) (v:Int × Int):Hp :=
 if(h.za.getD b Cl.none).zv then wv h 2 else xN (backTo h.za.length h b) v
def ZS (b:Bool):Int × Int:=(1,if b then 1 else 0)
def qT (h:Hp) (k a:Int) (at_:Nat):Int × Int :=
 let c:=h.za.getD at_ Cl.none
 if k=12 then(if 0<=c.zf then(2,c.zf) else(0,0))
 else if k=13 then c.zg.getD a.toNat (0,0)
 else if k=17 then ZS c.zv
 else(1,c.pc)
def xJ (k:Int) (args:zL):Bool :=
 if k=5 then(args.getD 0 (0,0)).1 == 1 && (args.getD 1 (0,0)).1 == 1
 else if k=12\/k=13\/k=14\/k=15\/k=17\/k=18 then(args.getD 0 (0,0)).1 == 2
 else true
def Xq (h:Hp) (at_:Nat) (a:Int) (v:Int × Int):Hp :=
 {h with za:=h.za.set at_ {h.za.getD at_ Cl.none with zg:=(h.za.getD at_ Cl.none).zg.set a.toNat v}}
def uv (ms:Ms) (h:Hp) (k a:Int) (args:zL):Hp :=
 let x:=args.getD 0 (0,0)
 let y:=args.getD 1 (0,0)
 if k=1 then xN h (1,a)
 else if k=5 then xN h (1,(x.2+y.2) % 1000)
 else if k=6 then xN h (ZS (decide (x=y)))
 else if k=2 then xN h ((qC h).zg.getD a.toNat (0,0))
 else if k=3 then jw h {qC h with zg:=(qC h).zg.set a.toNat x}
 else if k=7 then jw h {qC h with pc:=a}
 else if k=8 then(if x.1=0\/x=(1,0) then jw h {qC h with pc:=a} else h)
 else if k=9 then wU ms h a args
 else if k=10 then JT h x
 else if k=11 then xN h (2,h.now)
 else if k=12\/k=13\/k=17\/k=18 then xN h (qT h k a x.2.toNat)
 else if k=14 then Xq h x.2.toNat a y
 else if k=15 then wR h x.2.toNat y
 else if k=16 then XQ h x
 else h
def xR (ms:Ms) (c:Cl):Int × Int:=(ms.getD c.m.toNat (0,0,[])).2.2.getD c.pc.toNat (0,0)
def qU (ms:Ms) (h:Hp):Hp :=
 let c:=qC h
 let op:=xR ms c
 let t:=yI ms op.1 op.2
 let left:=(c.ze.length:Int) - t.1
 if((ms.getD c.m.toNat (0,0,[])).2.2.length:Int)<=c.pc then wv h 2
 else if left<0\/6<left+t.2 then wv h 2
 else if xJ op.1 (c.ze.drop left.toNat)=false then wv h 2
 else uv ms (jw h {c with ze:=c.ze.take left.toNat,pc:=c.pc+1}) op.1 op.2 (c.ze.drop left.toNat)
def xM (ms:Ms):Nat->Hp->Hp
 | 0,h=>h
 | n+1,h=>if h.code=0 then xM ms n (qU ms h) else h
theorem Xy {cs cs':List Cl} (hl:cs'.length=cs.length) (h:∀i,(hi:i<cs.length)->(cs'[i]'(by omega)).zv=cs[i].zv/\(cs'[i]'(by omega)).zf=cs[i].zf):∀(f:Nat) (a:Int),yR cs' f a=yR cs f a
 | 0,a=>rfl
 | f+1,a=>by
  simp only[yR]
  by_cases ha:a<0
  ·rw[if_pos ha,if_pos ha]
  ·rw[if_neg ha,if_neg ha]
   by_cases hn:a.toNat<cs.length
   ·rw[dif_pos hn,dif_pos (by omega),(h _ hn).1,(h _ hn).2,Xy hl h f]
   ·rw[dif_neg hn,dif_neg (by omega)]
theorem J6 {cs:List Cl}:∀(l:List Nat) (f f':Nat) (a:Int),yR cs f a=some l->l.length<=f'->yR cs f' a=some l
 | [],f,f',a,h,_=>by
  by_cases ha:a<0
  ·exact yZ ha
  ·obtain⟨g,n,hn,t,_,_,e,_⟩:=qz h (by omega)
   cases e
 | k :: l,f,f',a,h,hl=>by
  by_cases ha:a<0
  ·rw[yZ ha] at h;cases h
  ·obtain⟨g,n,hn,t,_,rfl,e,hd,ht⟩:=qz h (by omega)
   cases e
   obtain⟨f'',rfl⟩:∃f'',f'=f''+1:=⟨f' - 1,by simp at hl;omega⟩
   rw[j7 hn hd,J6 l g f'' _ ht (by simpa using hl)]
   rfl
theorem K2 {cs:List Cl} {j:Nat} (c:Cl):∀(l:List Nat) (f:Nat) (a:Int),yR cs f a=some l->j∉l->yR (cs.set j c) f a=some l
 | [],f,a,h,_=>by
  by_cases ha:a<0
  ·exact yZ ha
  ·obtain⟨g,n,hn,t,_,_,e,_⟩:=qz h (by omega)
   cases e
 | k :: l,f,a,h,hj=>by
  by_cases ha:a<0
  ·rw[yZ ha] at h;cases h
  ·obtain⟨g,n,hn,t,rfl,rfl,e,hd,ht⟩:=qz h (by omega)
   cases e
   have hne:j≠k:=fun e=>hj (by rw[e];exact List.mem_cons_self)
   have hk':k<(cs.set j c).length:=by simpa using hn
   have he:(cs.set j c)[k]=cs[k]:=List.getElem_set_ne hne _
   rw[j7 hk' (by rw[he];exact hd),he,K2 c l g _ ht (fun e=>hj (List.mem_cons_of_mem _ e))]
   rfl
theorem Qo {cs:List Cl} (c:Cl):∀(l:List Nat) (f:Nat) (a:Int),yR cs f a=some l->yR (cs ++ [c]) f a=some l
 | [],f,a,h=>by
  by_cases ha:a<0
  ·exact yZ ha
  ·obtain⟨g,n,hn,t,_,_,e,_⟩:=qz h (by omega)
   cases e
 | k :: l,f,a,h=>by
  by_cases ha:a<0
  ·rw[yZ ha] at h;cases h
  ·obtain⟨g,n,hn,t,rfl,rfl,e,hd,ht⟩:=qz h (by omega)
   cases e
   have hk':k<(cs ++ [c]).length:=by simp;omega
   have he:(cs ++ [c])[k]=cs[k]:=List.getElem_append_left hn
   rw[j7 hk' (by rw[he];exact hd),he,Qo c l g _ ht]
   rfl
structure xA (cs:List Cl) (now:Int) (l:List Nat):Prop where
 ch:∃f,yR cs f now=some l
 all:∀k,(hk:k<cs.length)->cs[k].zv=false->k∈l
 room:∀k∈l.drop 1,∀hk:k<cs.length,cs[k].ze.length<6
theorem xA.nodup {cs:List Cl} {now:Int} {l:List Nat} (h:xA cs now l):l.Nodup:=by
 obtain⟨f,hf⟩:=h.ch
 exact ZI _ _ _ hf
theorem xA.mem {cs:List Cl} {now:Int} {l:List Nat} (h:xA cs now l) {k:Nat} (hk:k∈l):∃h:k<cs.length,cs[k].zv=false:=by
 obtain⟨f,hf⟩:=h.ch
 exact J5 _ _ _ hf k hk
theorem xA.len {cs:List Cl} {now:Int} {l:List Nat} (h:xA cs now l):l.length<=cs.length:=by
 have:=jt l (List.range cs.length) h.nodup (fun k hk=>List.mem_range.2 (h.mem hk).1)
 simpa using this
theorem xA.chain {cs:List Cl} {now:Int} {l:List Nat} (h:xA cs now l):yg cs now=l:=by
 obtain⟨f,hf⟩:=h.ch
 unfold yg
 rw[J6 l f cs.length now hf h.len]
 rfl
end Go.Proofs.YtjbgpcileapogaaGreat
namespace Go.Proofs.YtjbgpcileapogaaGreat
structure ClP (ms:Ms) (n:Nat) (c:Cl):Prop where
 m:0<=c.m/\c.m<(ms.length:Int)
 pc:0<=c.pc/\c.pc<=((ms.getD c.m.toNat (0,0,[])).2.2.length:Int)
 t:(c.zg.length:Int)=(ms.getD c.m.toNat (0,0,[])).2.1
 s:c.ze.length<=6
 sd:-1<=c.zf/\c.zf<(n:Int)
 vt:yk n c.zg=true
 vs:yk n c.ze=true
 dd:c.zv=true->c.zf=-1/\c.ze=[]
theorem ws {ms:Ms} {n:Nat} {c:Cl}:yT ms n c=true ↔ ClP ms n c:=by
 simp only[yT,Bool.and_eq_true,zH,decide_eq_true_iff]
 constructor
 ·rintro⟨⟨⟨⟨h1,h2⟩,h3⟩,h4⟩,⟨⟨⟨h5,h6⟩,h7⟩,h8⟩⟩
  refine⟨by omega,h2,h3,h4,by omega,h6,h7,fun hd=>?_⟩
  rw[hd] at h8
  simp at h8
  exact h8
 ·rintro⟨h1,h2,h3,h4,h5,h6,h7,h8⟩
  refine⟨⟨⟨⟨by omega,h2⟩,h3⟩,h4⟩,⟨⟨⟨by omega,h6⟩,h7⟩,?_⟩⟩
  cases hd:c.zv
  ·rfl
  ·obtain⟨e1,e2⟩:=h8 hd
   simp[e1,e2]
theorem zas {n n':Nat} (hn:n<=n') {k a:Int} (h:yN n k a=true):yN n' k a=true:=by
 unfold yN at h ⊢
 split at h
 ·rename_i e;rw[if_pos e];exact h
 ·rename_i e;rw[if_neg e]
  split at h
  ·rename_i e1;rw[if_pos e1];exact h
  ·rename_i e1;rw[if_neg e1]
   split at h
   ·rename_i e2;rw[if_pos e2];rw[zH] at h ⊢;omega
   ·cases h
theorem qJ {n:Int} {l:zL}:yk n l=true ↔ ∀v∈l,yN n v.1 v.2=true:=by
 unfold yk
 rw[List.all_eq_true]
theorem ZH {n n':Nat} (hn:n<=n') {l:zL} (h:yk n l=true):yk n' l=true:=by
 rw[qJ] at h ⊢
 exact fun v hv=>zas hn (h v hv)
theorem ClP.mono {ms:Ms} {n n':Nat} {c:Cl} (h:ClP ms n c) (hn:n<=n'):ClP ms n' c :=
 ⟨h.m,h.pc,h.t,h.s,by have:=h.sd;omega,ZH hn h.vt,ZH hn h.vs,h.dd⟩
structure zdk (ms:Ms) (h:Hp):Prop where
 p:yt ms=true
 now:-1<=h.now/\h.now<(h.za.length:Int)
 born:1<=h.born/\h.born<=30
 few:(h.za.length:Int)<=h.born
 code:0<=h.code/\h.code<=3
 zl:yk ms.length h.zl=true
 fin:h.code=1 ↔ h.now<0
theorem Jt {ms:Ms} {h:Hp}:qw ms h=true ↔ zdk ms h:=by
 simp only[qw,Bool.and_eq_true,zH,decide_eq_true_iff]
 constructor
 ·rintro⟨⟨⟨⟨⟨⟨h1,h2⟩,h3⟩,h4⟩,h5⟩,h6⟩,h7⟩
  refine⟨h1,by omega,h3,h4,h5,h6,?_⟩
  simp only[beq_iff_eq] at h7
  by_cases e:h.code=1
  ·rw[beq_iff_eq.2 e] at h7
   exact⟨fun _=>of_decide_eq_true h7.symm,fun _=>e⟩
  ·rw[zG.2 e] at h7
   exact⟨fun q=>absurd q e,fun q=>absurd q (of_decide_eq_false h7.symm)⟩
 ·rintro⟨h1,h2,h3,h4,h5,h6,h7⟩
  refine⟨⟨⟨⟨⟨⟨h1,by omega⟩,h3⟩,h4⟩,h5⟩,h6⟩,?_⟩
  simp only[beq_iff_eq]
  by_cases e:h.code=1
  ·rw[beq_iff_eq.2 e,decide_eq_true (h7.1 e)]
  ·rw[zG.2 e,decide_eq_false (fun q=>e (h7.2 q))]
structure Good (ms:Ms) (h:Hp):Prop where
 head:zdk ms h
 cl:∀i,(hi:i<h.za.length)->ClP ms h.za.length h.za[i]
 w:∃l,xA h.za h.now l
theorem VZ (cs:List Cl):(wB cs).Nodup:=by
 unfold wB
 exact List.Pairwise.filter _ List.nodup_range
theorem kx {ms:Ms} {h:Hp}:ym ms h=true ↔ Good ms h:=by
 unfold ym
 simp only[Bool.and_eq_true]
 constructor
 ·rintro⟨⟨h1,h2⟩,h3⟩
  have hh:=Jt.1 h1
  have hc:∀i,(hi:i<h.za.length)->yT ms h.za.length h.za[i]=true:=fun i hi=>List.all_eq_true.1 h2 _ (List.getElem_mem hi)
  refine⟨hh,fun i hi=>ws.1 (hc i hi),yg h.za h.now,?_⟩
  unfold kZ at h3
  simp only[Bool.and_eq_true,Bool.or_eq_true,decide_eq_true_iff,beq_iff_eq] at h3
  obtain⟨⟨e1,e2⟩,e3⟩:=h3
  have hall:∀k,(hk:k<h.za.length)->h.za[k].zv=false->k∈yg h.za h.now:=fun k hk hd=>ZM e2 hk hd
  refine⟨?_,hall,fun k hk hkl=>?_⟩
  ·cases hw:yR h.za h.za.length h.now with
   | some l=>exact⟨_,by unfold yg;rw[hw];rfl⟩
   | none =>
    exfalso
    by_cases hn:h.now<0
    ·rw[yZ hn] at hw;cases hw
    ·have hlt:h.now.toNat<h.za.length:=by have:=hh.now;omega
     rcases e1 with e1 | e1
     ·exact hn e1
     ·have hd:h.za[h.now.toNat].zv=false:=by simpa [hlt] using e1
      have:=hall _ hlt hd
      unfold yg at this
      rw[hw] at this
      cases this
  ·unfold wb at e3
   rw[List.all_eq_true] at e3
   have:=e3 k hk
   simpa [hkl] using this
 ·rintro⟨h1,h2,l,hw⟩
  refine⟨⟨Jt.2 h1,Ya fun i hi=>ws.2 (h2 i hi)⟩,?_⟩
  unfold kZ
  simp only[Bool.and_eq_true,Bool.or_eq_true,decide_eq_true_iff,beq_iff_eq]
  rw[hw.chain]
  refine⟨⟨?_,?_⟩,?_⟩
  ·by_cases hn:h.now<0
   ·exact .inl hn
   ·obtain⟨f,hf⟩:=hw.ch
    obtain⟨g,n,hnl,t,_,e,_,hd,_⟩:=qz hf (by omega)
    refine .inr ?_
    rw[e]
    simp[hnl,hd]
  ·rw[<-Jb]
   have a1:=jt l (wB h.za) hw.nodup (fun k hk=>ZP.2 (hw.mem hk))
   have a2:=jt (wB h.za) l (VZ _) (fun k hk=>by obtain⟨q1,q2⟩:=ZP.1 hk;exact hw.all k q1 q2)
   omega
  ·unfold wb
   rw[List.all_eq_true]
   intro k hk
   obtain⟨hkl,_⟩:=hw.mem (List.mem_of_mem_drop hk)
   have:=hw.room k hk hkl
   simpa [hkl] using this
theorem xA.head {cs:List Cl} {j:Nat} {l:List Nat} (h:xA cs (j:Int) l):∃(hj:j<cs.length) (t:List Nat),l=j :: t/\cs[j].zv=false/\(∃f,yR cs f cs[j].zf=some t)/\j∉t:=by
 have hn:=h.nodup
 obtain⟨f,hf⟩:=h.ch
 obtain⟨g,n,hnl,t,_,e,e2,hd,ht⟩:=qz hf (by omega)
 obtain rfl:j=n:=by omega
 subst e2
 exact⟨hnl,t,rfl,hd,⟨g,ht⟩,(List.nodup_cons.1 hn).1⟩
theorem xA.set_like {cs:List Cl} {now:Int} {l:List Nat} (h:xA cs now l) (j:Nat) (hj:j<cs.length) (c:Cl) (hd:c.zv=cs[j].zv) (hs:c.zf=cs[j].zf) (hr:j∈l.drop 1->c.ze.length<6):xA (cs.set j c) now l:=by
 have hl:(cs.set j c).length=cs.length:=by simp
 have key:∀i,(hi:i<cs.length)->((cs.set j c)[i]'(by omega)).zv=cs[i].zv/\((cs.set j c)[i]'(by omega)).zf=cs[i].zf:=fun i hi=>by
  by_cases e:j=i
  ·subst e;simp[hd,hs]
  ·rw[List.getElem_set_ne e];exact⟨rfl,rfl⟩
 refine⟨?_,fun k hk hkd=>?_,fun k hk hkl=>?_⟩
 ·obtain⟨f,hf⟩:=h.ch
  exact⟨f,by rw[Xy hl key];exact hf⟩
 ·rw[hl] at hk
  exact h.all k hk (by rw[<-(key k hk).1];exact hkd)
 ·rw[hl] at hkl
  by_cases e:j=k
  ·subst e;simp only[List.getElem_set_self];exact hr hk
  ·rw[List.getElem_set_ne e];exact h.room k hk hkl
theorem xA.set_cur {cs:List Cl} {j:Nat} {l:List Nat} (h:xA cs (j:Int) l) (hj:j<cs.length) (c:Cl) (hd:c.zv=cs[j].zv) (hs:c.zf=cs[j].zf):xA (cs.set j c) (j:Int) l:=by
 obtain⟨_,t,rfl,_,_,hnt⟩:=h.head
 exact h.set_like j hj c hd hs (fun e=>absurd (by simpa using e) hnt)
theorem xA.leave {cs:List Cl} {j:Nat} {l:List Nat} (h:xA cs (j:Int) l) (hj:j<cs.length) (c:Cl) (hd:c.zv=true):∃t,l=j :: t/\xA (cs.set j c) cs[j].zf t/\∀k∈t,∀hk:k<cs.length,cs[k].ze.length<6:=by
 obtain⟨_,t,rfl,hjd,⟨f,hf⟩,hnt⟩:=h.head
 have hr:∀k∈t,∀hk:k<cs.length,cs[k].ze.length<6:=fun k hk hkl=>h.room k (by simpa using hk) hkl
 refine⟨t,rfl,⟨⟨f,K2 c t f _ hf hnt⟩,fun k hk hkd=>?_,fun k hk hkl=>?_⟩,hr⟩
 ·have hk':k<cs.length:=by simpa using hk
  by_cases e:j=k
  ·subst e;simp only[List.getElem_set_self] at hkd;rw[hd] at hkd;cases hkd
  ·rw[List.getElem_set_ne e] at hkd
   rcases List.mem_cons.1 (h.all k hk' hkd) with q | q
   ·exact absurd q.symm e
   ·exact q
 ·have hkt:=List.mem_of_mem_drop hk
  have e:j≠k:=fun e=>hnt (by rw[e];exact hkt)
  rw[List.getElem_set_ne e]
  exact hr k hkt (by simpa using hkl)
theorem xA.call {cs:List Cl} {j:Nat} {l:List Nat} (h:xA cs (j:Int) l) (hj:j<cs.length) (h6:cs[j].ze.length<6) (c:Cl) (hd:c.zv=false) (hs:c.zf=(j:Int)):xA (cs ++ [c]) (cs.length:Int) (cs.length :: l):=by
 have hn:cs.length<(cs ++ [c]).length:=by simp
 have he:(cs ++ [c])[cs.length]=c:=by simp
 obtain⟨_,t,hl,_⟩:=h.head
 refine⟨?_,fun k hk hkd=>?_,fun k hk hkl=>?_⟩
 ·obtain⟨f,hf⟩:=h.ch
  refine⟨f+1,?_⟩
  rw[j7 hn (by rw[he];exact hd),he,hs,Qo c l f _ hf]
  rfl
 ·by_cases e:k<cs.length
  ·rw[List.getElem_append_left e] at hkd
   exact List.mem_cons_of_mem _ (h.all k e hkd)
  ·obtain rfl:k=cs.length:=by simp at hk;omega
   exact List.mem_cons_self
 ·have hkl':k∈l:=by simpa using hk
  obtain⟨hk2,_⟩:=h.mem hkl'
  rw[List.getElem_append_left hk2]
  subst hl
  rcases List.mem_cons.1 hkl' with q | q
  ·subst q;exact h6
  ·exact h.room k (by simpa using q) hk2
end Go.Proofs.YtjbgpcileapogaaGreat
namespace Go.Proofs.YtjbgpcileapogaaGreat
theorem YH (n:Int):yN n 0 0=true:=by simp[yN]
theorem wz {n a:Int} (h0:0<=a) (h1:a<=999):yN n 1 a=true:=by
 unfold yN
 rw[if_neg (by decide),if_pos rfl,zH]
 exact⟨h0,h1⟩
theorem QX {n:Nat} {a:Int} (h0:0<=a) (h1:a<(n:Int)):yN n 2 a=true:=by
 unfold yN
 rw[if_neg (by decide),if_neg (by decide),if_pos rfl,zH]
 omega
theorem vH {n:Nat} {a:Int} (h:yN n 2 a=true):0<=a/\a<(n:Int):=by
 unfold yN at h
 rw[if_neg (by decide),if_neg (by decide),if_pos rfl,zH] at h
 omega
theorem zar {n n':Int} {k a:Int} (hk:k≠2) (h:yN n k a=true):yN n' k a=true:=by
 unfold yN at h ⊢
 split at h
 ·rename_i e;rw[if_pos e];exact h
 ·rename_i e;rw[if_neg e]
  split at h
  ·rename_i e1;rw[if_pos e1];exact h
  ·cases h
theorem K0 (n:Int) (b:Bool):yN n (ZS b).1 (ZS b).2=true:=by
 unfold ZS
 cases b
 ·exact wz (by decide) (by decide)
 ·exact wz (by decide) (by decide)
theorem QZ {n:Int} {l:zL} (h:yk n l=true) (i:Nat):yN n (l.getD i (0,0)).1 (l.getD i (0,0)).2=true:=by
 by_cases hi:i<l.length
 ·rw[show l.getD i (0,0)=l[i] by simp[hi]]
  exact qJ.1 h _ (List.getElem_mem hi)
 ·rw[show l.getD i (0,0)=(0,0) by simp[hi]]
  exact YH n
theorem wi {n:Int} {l l':zL} (h:yk n l=true) (h':yk n l'=true):yk n (l ++ l')=true:=by
 rw[qJ] at *
 intro v hv
 rcases List.mem_append.1 hv with q | q
 ·exact h v q
 ·exact h' v q
theorem J2 {n:Int} {v:Int × Int} (h:yN n v.1 v.2=true):yk n [v]=true:=by
 rw[qJ]
 intro u hu
 simp at hu
 subst hu
 exact h
theorem Wa {n:Int} {l:zL} (h:yk n l=true) (i:Nat) {v:Int × Int} (hv:yN n v.1 v.2=true):yk n (l.set i v)=true:=by
 rw[qJ] at *
 intro u hu
 rcases List.mem_or_eq_of_mem_set hu with q | q
 ·exact h u q
 ·subst q;exact hv
theorem zbw {n:Int} {l:zL} (h:yk n l=true) (k:Nat):yk n (l.take k)=true:=by
 rw[qJ] at *
 exact fun v hv=>h v (List.mem_of_mem_take hv)
theorem zbv {n:Int} {l:zL} (h:yk n l=true) (k:Nat):yk n (l.drop k)=true:=by
 rw[qJ] at *
 exact fun v hv=>h v (List.mem_of_mem_drop hv)
theorem zat (n:Int) (k:Nat):yk n (List.replicate k (0,0))=true:=by
 rw[qJ]
 intro v hv
 rw[List.eq_of_mem_replicate hv]
 exact YH n
structure MethP (ms:Ms) (m:zP):Prop where
 args:0<=m.1/\m.1<=2
 zg:m.1<=m.2.1/\m.2.1<=4
 few:m.2.2.length<=14
 ops:∀op∈m.2.2,qR ms.length m.2.2.length m.2.1 op.1 op.2=true
theorem vE {ms:Ms} (hp:yt ms=true) {m:Nat} (hm:m<ms.length):MethP ms ms[m]:=by
 unfold yt at hp
 simp only[Bool.and_eq_true] at hp
 have:=List.all_eq_true.1 hp.2 _ (List.getElem_mem hm)
 unfold yG at this
 simp only[Bool.and_eq_true,zH,decide_eq_true_iff] at this
 exact⟨this.1.1.1,this.1.1.2,this.1.2,fun op ho=>List.all_eq_true.1 this.2 op ho⟩
theorem set_cur {h:Hp} {j:Nat} (hn:h.now=j) (hj:j<h.za.length) (c:Cl):qC (jw h c)=c:=by
 unfold qC jw
 simp[hn,hj]
theorem xC {h:Hp} {j:Nat} (hn:h.now=j) (hj:j<h.za.length):qC h=h.za[j]:=by
 unfold qC
 simp[hn,hj]
theorem Good.set {ms:Ms} {h:Hp} (g:Good ms h) {j:Nat} (_hj:j<h.za.length) {c:Cl} (hc:ClP ms h.za.length c) {l:List Nat} (hw:xA (h.za.set j c) h.now l):Good ms {h with za:=h.za.set j c}:=by
 have hl:(h.za.set j c).length=h.za.length:=by simp
 refine⟨⟨g.head.p,by simp only[hl];exact g.head.now,g.head.born,by simp only[hl];exact g.head.few,g.head.code,g.head.zl,g.head.fin⟩,fun i hi=>?_,l,hw⟩
 simp only[hl] at hi ⊢
 by_cases e:j=i
 ·subst e;simp only[List.getElem_set_self];exact hc
 ·rw[List.getElem_set_ne e];exact g.cl i hi
theorem Good.cur {ms:Ms} {h:Hp} (g:Good ms h) {j:Nat} (hn:h.now=j) (hj:j<h.za.length) {c:Cl} (hc:ClP ms h.za.length c) (hd:c.zv=h.za[j].zv) (hs:c.zf=h.za[j].zf):Good ms (jw h c):=by
 obtain⟨l,hw⟩:=g.w
 unfold jw
 have e:h.now.toNat=j:=by omega
 rw[e]
 refine g.set hj hc (l:=l) ?_
 rw[hn] at hw ⊢
 exact hw.set_cur hj c hd hs
theorem Good.push {ms:Ms} {h:Hp} (g:Good ms h) {j:Nat} (hn:h.now=j) (hj:j<h.za.length) (h6:h.za[j].ze.length<6) {v:Int × Int} (hv:yN h.za.length v.1 v.2=true) (hd:h.za[j].zv=false):Good ms (xN h v):=by
 unfold xN
 rw[xC hn hj]
 have c:=g.cl j hj
 exact g.cur hn hj ⟨c.m,c.pc,c.t,by simp;omega,c.sd,c.vt,wi c.vs (J2 hv),fun q=>by rw[hd] at q;cases q⟩ rfl rfl
theorem Good.code {ms:Ms} {h:Hp} (g:Good ms h) (hn:0<=h.now) {k:Int} (hk:k=2\/k=3):Good ms (wv h k) :=
 ⟨⟨g.head.p,g.head.now,g.head.born,g.head.few,by unfold wv;simp only[];omega,g.head.zl,⟨fun e=>by unfold wv at e;simp only[] at e;omega,fun e=>by unfold wv at e;simp only[] at e;omega⟩⟩,g.cl,g.w⟩
theorem Good.die {ms:Ms} {h:Hp} (g:Good ms h) {j:Nat} (hj:j<h.za.length):ClP ms h.za.length (Yf h.za[j]):=by
 have c:=g.cl j hj
 exact⟨c.m,c.pc,c.t,by simp[Yf],by simp[Yf];omega,c.vt,rfl,fun _=>⟨rfl,rfl⟩⟩
theorem Good.leave {ms:Ms} {h:Hp} (g:Good ms h) {j:Nat} (hn:h.now=j) (hj:j<h.za.length) (hs:0<=h.za[j].zf) (hc:h.code=0):Good ms (yw h):=by
 obtain⟨l,hw⟩:=g.w
 rw[hn] at hw
 obtain⟨t,_,hw',_⟩:=hw.leave hj (Yf h.za[j]) rfl
 have e:h.now.toNat=j:=by omega
 have hl:(h.za.set j (Yf h.za[j])).length=h.za.length:=by simp
 have c:=g.cl j hj
 unfold yw jw
 rw[xC hn hj,e]
 refine⟨⟨g.head.p,?_,g.head.born,by simp only[hl];exact g.head.few,g.head.code,g.head.zl,⟨fun e=>by simp only[] at e;omega,fun e=>by simp only[] at e;omega⟩⟩,fun i hi=>?_,t,hw'⟩
 ·simp only[hl];have:=c.sd;omega
 ·simp only[hl] at hi ⊢
  by_cases e:j=i
  ·subst e;simp only[List.getElem_set_self];exact g.die hj
  ·rw[List.getElem_set_ne e];exact g.cl i hi
theorem U9 {ms:Ms} {h:Hp} (g:Good ms h) {v:Int × Int} (hv:yN h.za.length v.1 v.2=true):yN ms.length (XR h v).1 (XR h v).2=true:=by
 unfold XR
 by_cases e:v.1=2
 ·rw[if_pos e]
  rw[e] at hv
  have hr:=vH hv
  have hlt:v.2.toNat<h.za.length:=by omega
  rw[show h.za.getD v.2.toNat Cl.none=h.za[v.2.toNat] by simp[hlt]]
  have:=(g.cl _ hlt).m
  exact QX this.1 this.2
 ·rw[if_neg e]
  exact zar e hv
theorem Good.fin {ms:Ms} {h:Hp} (g:Good ms h) {j:Nat} (hn:h.now=j) (hj:j<h.za.length) (hs:h.za[j].zf<0) {v:Int × Int} (hv:yN h.za.length v.1 v.2=true):Good ms (wv (XQ (yw h) v) 1):=by
 obtain⟨l,hw⟩:=g.w
 rw[hn] at hw
 obtain⟨t,_,hw',_⟩:=hw.leave hj (Yf h.za[j]) rfl
 have e:h.now.toNat=j:=by omega
 have hl:(h.za.set j (Yf h.za[j])).length=h.za.length:=by simp
 have c:=g.cl j hj
 have WH:XR (yw h) v=XR h v:=by
  unfold XR
  by_cases e2:v.1=2
  ·rw[if_pos e2,if_pos e2]
   congr 1
   unfold yw jw
   rw[xC hn hj,e]
   by_cases e3:j=v.2.toNat
   ·rw[<-e3];simp[hj,Yf]
   ·simp[List.getElem?_set_ne e3]
  ·rw[if_neg e2,if_neg e2]
 unfold wv XQ
 rw[WH]
 unfold yw jw
 rw[xC hn hj,e]
 refine⟨⟨g.head.p,?_,g.head.born,by simp only[hl];exact g.head.few,by simp,wi g.head.zl (J2 (U9 g hv)),⟨fun _=>hs,fun _=>rfl⟩⟩,fun i hi=>?_,t,hw'⟩
 ·simp only[hl];have:=c.sd;omega
 ·simp only[hl] at hi ⊢
  by_cases e:j=i
  ·subst e;simp only[List.getElem_set_self];exact g.die hj
  ·rw[List.getElem_set_ne e];exact g.cl i hi
theorem UC {h:Hp} {j:Nat} (hn:h.now=j) (hj:j<h.za.length):(yw h).za=h.za.set j (Yf h.za[j])/\(yw h).now=h.za[j].zf/\(yw h).code=h.code:=by
 have e:h.now.toNat=j:=by omega
 unfold yw jw
 rw[xC hn hj,e]
 exact⟨rfl,rfl,rfl⟩
theorem Q5 {f:Nat} {h:Hp} {b:Nat} (e:h.now=b):backTo (f+1) h b=h:=by
 unfold backTo
 rw[if_pos e]
theorem Kw {f:Nat} {h:Hp} {b:Nat} (e:¬h.now=b):backTo (f+1) h b=backTo f (yw h) b:=by
 conv=>lhs;unfold backTo
 rw[if_neg e]
theorem Good.back {ms:Ms}:∀(f:Nat) (h:Hp) (b:Nat) (l:List Nat),Good ms h->h.code=0->xA h.za h.now l->b∈l->l.length<=f->(∀hb:b<h.za.length,h.za[b].ze.length<6) ->
 Good ms (backTo f h b)/\(backTo f h b).code=0/\(backTo f h b).now=b/\(backTo f h b).za.length=h.za.length/\(∀hb:b<(backTo f h b).za.length,(backTo f h b).za[b].ze.length<6/\(backTo f h b).za[b].zv=false)
 | 0,h,b,l,g,hc,hw,hb,hl,h6=>by
  cases l with
  | nil=>cases hb
  | cons=>simp at hl
 | f+1,h,b,l,g,hc,hw,hb,hl,h6=>by
  by_cases e:h.now=b
  ·rw[Q5 e]
   exact⟨g,hc,e,rfl,fun hb'=>⟨h6 hb',(hw.mem hb).2⟩⟩
  ·rw[Kw e]
   have hn0:0<=h.now:=by
    by_cases q:h.now<0
    ·obtain⟨f',hf'⟩:=hw.ch
     rw[yZ q] at hf'
     cases hf'
     cases hb
    ·omega
   obtain⟨j,hn⟩:∃j:Nat,h.now=j:=⟨h.now.toNat,by omega⟩
   rw[hn] at hw
   have hj:j<h.za.length:=hw.head.1
   obtain⟨t,rfl,hw',hr⟩:=hw.leave hj (Yf h.za[j]) rfl
   have hbt:b∈t:=by
    rcases List.mem_cons.1 hb with q | q
    ·exact absurd (by rw[hn,q]) e
    ·exact q
   have hs0:0<=h.za[j].zf:=by
    by_cases q:h.za[j].zf<0
    ·obtain⟨f',hf'⟩:=hw'.ch
     rw[yZ q] at hf'
     cases hf'
     cases hbt
    ·omega
   obtain⟨a1,a2,a3⟩:=UC hn hj
   have hlen:(yw h).za.length=h.za.length:=by rw[a1];simp
   have hbj:j≠b:=fun q=>e (by rw[hn,q])
   have hh6:∀hb:b<(yw h).za.length,(yw h).za[b].ze.length<6:=fun hb'=>by
    simp only[a1]
    rw[List.getElem_set_ne hbj]
    exact h6 (by omega)
   have hw2:xA (yw h).za (yw h).now t:=by rw[a1,a2];exact hw'
   obtain⟨r1,r2,r3,r4,r5⟩:=Good.back f (yw h) b t (g.leave hn hj hs0 hc) (by rw[a3];exact hc) hw2 hbt (by simpa using hl) hh6
   exact⟨r1,r2,r3,by rw[r4];exact hlen,r5⟩
end Go.Proofs.YtjbgpcileapogaaGreat
